import Derived.Test.YtefpjjonmoofpaaNtOps
namespace Go.Proofs.Ytefpjjonmoofpaa
open Go.RowKit

theorem take_iffN {l1 l2 : List Nat} {k : Nat} (h1 : k < l1.length) (h2 : k < l2.length) (h : l1.take k = l2.take k) : l1[k] = l2[k] ↔ l1.take (k + 1) = l2.take (k + 1) := by
  rw [List.take_succ_eq_append_getElem h1, List.take_succ_eq_append_getElem h2, h]
  constructor
  · intro e; rw [e]
  · intro e
    have := List.append_cancel_left e
    exact (List.cons.inj this).1

theorem ne_limb (x y : Nat) : ((x : Int) != (y : Int)) = !decide (x = y) := by
  by_cases h : x = y
  · subst h; simp
  · simp [h]; omega

end Go.Proofs.Ytefpjjonmoofpaa
