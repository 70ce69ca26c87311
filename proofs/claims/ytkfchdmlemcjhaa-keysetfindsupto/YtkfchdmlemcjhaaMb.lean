import Derived.Test.YtkfchdmlemcjhaaMa
import Derived.Test.YtkfchdmlemcjhaaOrk
namespace Go.Proofs.Ytkfchdmlemcjhaa
open Go.RowKit Go.Shelf

/-- The marks behind the lists. -/
def mkN : Nd := ⟨0, [], [109, 97, 114, 107], false, 0, 0⟩
def mkT : List UInt8 := [109, 97, 114, 107]
theorem own_mono2 {w : World} {b0 b1 n size : Nat} {e : TypeId} {v : Value} {xs : List Value} (h : w.ownsRow b1 e size v n xs) (hb : b0 ≤ b1) : w.ownsRow b0 e size v n xs :=
  ⟨h.1, h.2.elim .inl fun ⟨g, cap, cur, e, hg, r⟩ => .inr ⟨g, cap, cur, e, Nat.le_trans hb hg, r⟩⟩
theorem bl_grown' {t : TypeId} {w w' : World} {b : Nat} {cs : List Value} {row : Option Nat} (h : Bl t w b cs) (hg : w.grownBy w' row) (hne : row ≠ some b) : Bl t w' b cs := by
  have := h.lt
  unfold Bl at *
  rw [hg.block b this (fun e => hne e.symm)]; exact h

end Go.Proofs.Ytkfchdmlemcjhaa
