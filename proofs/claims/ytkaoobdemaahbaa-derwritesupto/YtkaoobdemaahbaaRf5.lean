import Derived.Test.YtkaoobdemaahbaaRf4
namespace Go.Proofs.Ytkaoobdemaahbaa
open Go.RowKit

theorem xCs_set1 (xs : List X) (x : X) (l : List UInt8) (a : Option Addr) (c : Nat) : (xCs (xs ++ [x])).set (xs.length * 3 + 1) (.slice a l.length c) = xCs (xs ++ [⟨⟨x.e.tag, l, x.e.kids⟩, a, c⟩]) := by
  rw [xCs_append, xCs_append, List.set_append_right _ _ (by rw [xCs_length]; omega), xCs_length, Nat.add_sub_cancel_left]
  rfl
theorem xCs_at1 (xs : List X) (x : X) : (xCs (xs ++ [x]))[xs.length * 3 + 1]? = some (xD x) := by
  rw [xCs_append, List.getElem?_append_right (by rw [xCs_length]; omega), xCs_length, Nat.add_sub_cancel_left]
  rfl

theorem own_frozen {w : World} {base n m size g c : Nat} {e : TypeId} {xs : List Value} (h : w.ownsRow base e size (.slice (some ⟨g, 0, none⟩) n c) m xs) (j : Nat) : w.frozen? ⟨g, j, none⟩ = false := by
  obtain ⟨cur, hc⟩ := own_type h (g := g) rfl
  exact frozen_of_row w g j cur e hc
theorem frozen_grown {w w' : World} {row : Option Nat} {g j : Nat} (hg : w.grownBy w' row) (h : w.frozen? ⟨g, j, none⟩ = false) (hne : some g ≠ row) (hl : g < w.heap.size) : w'.frozen? ⟨g, j, none⟩ = false := by
  rw [World.frozen?_of_block (w := w) (hg.block g hl hne)]; exact h
theorem cell_lt {w : World} {g j : Nat} {v : Value} (h : w.cell? ⟨g, j, none⟩ = some v) : g < w.heap.size := World.block_lt_of_cell? w _ h

end Go.Proofs.Ytkaoobdemaahbaa
