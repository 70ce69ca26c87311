import Derived.Test.YtkaoobdemaahbaaRf5
namespace Go.Proofs.Ytkaoobdemaahbaa
open Go.RowKit

theorem sg_snoc (l : List UInt8) (a m : Nat) (h : a + m < l.length) : sg l a (a + (m + 1)) = sg l a (a + m) ++ [l.getD (a + m) 0] := by
  unfold sg
  rw [show a + (m + 1) - a = m + 1 from by omega, show a + m - a = m from by omega]
  have h1 : m < (l.drop a).length := by rw [List.length_drop]; omega
  rw [List.take_succ_eq_append_getElem h1, List.getElem_drop, ← getD_eq l 0 h]

end Go.Proofs.Ytkaoobdemaahbaa
