import Derived.Test.YtkaoobdemaahbaaRf3
namespace Go.Proofs.Ytkaoobdemaahbaa
open Go.RowKit

theorem sg_cons (l : List UInt8) (a b : Nat) (hab : a < b) (hb : b ≤ l.length) : sg l a b = l.getD a 0 :: sg l (a + 1) b := by
  have h1 := sg_length l a b (by omega) hb
  have h2 : (sg l a b).drop 1 = sg l (a + 1) b := sg_drop l a b 1
  have h3 := sg_head l a b hab hb
  match hs : sg l a b with
  | [] => rw [hs] at h1; simp at h1; omega
  | y :: q =>
    rw [hs] at h2 h3
    simp only [List.drop_succ_cons, List.drop_zero, List.getD_cons_zero] at h2 h3
    rw [h2, h3]

end Go.Proofs.Ytkaoobdemaahbaa
