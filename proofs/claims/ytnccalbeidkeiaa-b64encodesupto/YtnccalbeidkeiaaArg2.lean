import Derived.Test.YtnccalbeidkeiaaArg
import Derived.JoinedCond
namespace Go.Proofs.Ytnccalbeidkeiaa
open Go.ChangeShapes Go.WideShapes Go.ChangeAt Go.RowKit

theorem bulk_pos {H : Type} (d : DataW H) : 1 ≤ Rows.uptoBulk d := by
  cases d with
  | lit l => cases l <;> simp [Rows.uptoBulk]
  | _ => simp [Rows.uptoBulk]

theorem bulk_len {H : Type} : ∀ l : List (DataW H), l.length ≤ Rows.uptoBulkAll l
  | [] => by simp [Rows.uptoBulkAll]
  | d :: r => by
    have h1 := bulk_pos d
    have h2 := bulk_len r
    simp only [Rows.uptoBulkAll, List.length_cons]
    omega

theorem bulk_slice {H : Type} (es ss : List (DataW H)) : es.length ≤ Rows.uptoBulk (.slice es ss) := by
  have := bulk_len es
  simp only [Rows.uptoBulk]
  omega

/-- A nil slice has no spare room. -/
theorem open_nil {H : Type} {enc : TypeId × Value → H} {W : World} {spare : Nat → Bool} {held : Bool} {v : Value} {x : DataW H × List MemPlace} {fuel : Nat} {a : Option Addr} {len cap : Nat} (hv : v = .slice a len cap)
    (hf : DataW.trod enc Try.prog W 0 spare held fuel 22 v.cells.toList = some x) : a = none → cap = 0 := by
  subst hv
  intro ha
  subst ha
  rcases open_ints Try.underlying22 Try.underlying5 Try.cellsB hf with ⟨hcs, hx⟩ | ⟨y, l, c, zs, hcs, _⟩
  · simp [Value.cells] at hcs
    exact hcs.2
  · simp [Value.cells] at hcs

end Go.Proofs.Ytnccalbeidkeiaa
