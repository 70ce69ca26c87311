import Derived.Test.YtgkbbcoagnilgaaDiff2
import Derived.Test.YtgkbbcoagnilgaaCompS
import Derived.Deep.CutRange
namespace Go.Proofs.Ytgkbbcoagnilgaa
open Go.RowKit

theorem dif_bd (a b : Nat → Int) (ha : ∀ k, -9 ≤ a k ∧ a k ≤ 9) (hb : ∀ k, -9 ≤ b k ∧ b k ≤ 9) : ∀ (n : Nat) (x : Int), -1099511627776 ≤ x → x ≤ 1099511627776 → -10995116277778 ≤ dif a b n x ∧ dif a b n x ≤ 10995116277778
  | 0, x, h1, h2 => by unfold dif; omega
  | n + 1, x, h1, h2 => by
    have := ha n; have := hb n
    by_cases h : x * 10 + a n - b n < -1099511627776 ∨ 1099511627776 < x * 10 + a n - b n
    · rw [dif_out a b n x h]; omega
    · rw [dif_in a b n x h]; exact dif_bd a b ha hb n _ (by omega) (by omega)

theorem dif0_bd (ma : Bool) (da : List UInt8) (mb : Bool) (db : List UInt8) (ha : allD da) (hb : allD db) : -10995116277778 ≤ dif0 ma da mb db ∧ dif0 ma da mb db ≤ 10995116277778 :=
  dif_bd _ _ (fun k => sd_bd ma da k ha) (fun k => sd_bd mb db k hb) _ _ (by omega) (by omega)

/-- A number in a block. -/
structure NBox (W : World) (b : Nat) (m : Bool) (z : List UInt8) (o : Int) (p : Bool) (d : List UInt8) : Prop where
  c0 : W.cell? ⟨b, 0, none⟩ = some (.bool m)
  c1 : W.cell? ⟨b, 1, none⟩ = some (.string ⟨z.toArray⟩)
  c2 : W.cell? ⟨b, 2, none⟩ = some (.int .i64 o)
  c3 : W.cell? ⟨b, 3, none⟩ = some (.bool p)
  c4 : W.cell? ⟨b, 4, none⟩ = some (.string ⟨d.toArray⟩)
  lt : b < W.heap.size

theorem NBox.below {W W' : World} {b : Nat} {m p : Bool} {z d : List UInt8} {o : Int} (h : NBox W b m z o p d) (hB : Below W.heap.size W W') : NBox W' b m z o p d :=
  ⟨(hB.cell h.lt).trans h.c0, (hB.cell h.lt).trans h.c1, (hB.cell h.lt).trans h.c2, (hB.cell h.lt).trans h.c3, (hB.cell h.lt).trans h.c4, Nat.lt_of_lt_of_le h.lt hB.size⟩
theorem NBox.alloc {W : World} {b : Nat} {m p : Bool} {z d : List UInt8} {o : Int} (h : NBox W b m z o p d) (x : Obj) : NBox (W.alloc x) b m z o p d :=
  h.below ((Below.refl _ _).alloc (Nat.le_refl _) x)
theorem NBox.drew {W : World} {b : Nat} {m p : Bool} {z d : List UInt8} {o : Int} (h : NBox W b m z o p d) : NBox W.drew b m z o p d := ⟨h.c0, h.c1, h.c2, h.c3, h.c4, h.lt⟩

/-- What compareSizes answers. -/
def csz (zx : List UInt8) (ox : Int) (px : Bool) (dx : List UInt8) (zy : List UInt8) (oy : Int) (py : Bool) (dy : List UInt8) : Int :=
  if ox - oy + dif0 px dx py dy ≠ 0 then cmp3 (ox - oy + dif0 px dx py dy) 0 else Lib.compareBytes zx zy

end Go.Proofs.Ytgkbbcoagnilgaa
