import Derived.Test.YtcankapgjgonnaaDoorMa
import Derived.Test.YtcankapgjgonnaaDoorOrk
namespace Go.Proofs.YtcankapgjgonnaaDoor
open Go.RowKit Go.Shelf

/-- The marks behind the lists. -/
def mkN : Nd := ⟨0, [], [109, 97, 114, 107], false, 0, 0⟩
def mkT : List UInt8 := [109, 97, 114, 107]
theorem own_mono2 {w : World} {b0 b1 n size : Nat} {e : TypeId} {v : Value} {xs : List Value} (h : w.ownsRow b1 e size v n xs) (hb : b0 ≤ b1) : w.ownsRow b0 e size v n xs :=
  ⟨h.1, h.2.elim .inl fun ⟨g, cap, cur, e, hg, r⟩ => .inr ⟨g, cap, cur, e, Nat.le_trans hb hg, r⟩⟩
end Go.Proofs.YtcankapgjgonnaaDoor
