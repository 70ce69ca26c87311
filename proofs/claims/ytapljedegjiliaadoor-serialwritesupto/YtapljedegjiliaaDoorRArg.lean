import Derived.Test.YtapljedegjiliaaDoorNArg
namespace Go.Proofs.YtapljedegjiliaaDoor
open Go.ChangeShapes Go.WideShapes Go.ChangeAt Go.RowKit

theorem open_strings {H : Type} {enc : TypeId × Value → H} {W : World} {held : Bool} {v : Value} {d : DataW H} {p : List MemPlace} {fuel : Nat} {a : Option Addr} {len cap : Nat} (hv : v = .slice a len cap)
    (hf : DataW.trod enc Tryd.prog W 0 (fun _ => true) held fuel 22 v.cells.toList = some (d, p)) :
    ∃ l : List (List UInt8), TR W v l a cap ∧ l.length ≤ Rows.uptoBulk d ∧ ∀ x ∈ l, x.length ≤ Rows.uptoBulk d := by
  subst hv
  obtain ⟨ao, c', l, e, hr, _, hb, _, hx⟩ := open_texts (show DataW.trod enc Tryd.prog W 0 (fun _ => true) held fuel 22 [.slice a len cap] = some (d, p) from hf)
  cases e
  exact ⟨l, hr, hb, hx⟩

end Go.Proofs.YtapljedegjiliaaDoor
