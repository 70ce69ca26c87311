import Derived.Test.YtefpjjonmoofpaaNtShr
import Derived.Test.YtefpjjonmoofpaaNtEstM
import Derived.WalkMore
namespace Go.Proofs.Ytefpjjonmoofpaa
open Go.RowKit

theorem est_bound {top head g left : Nat} (h1 : g * top + left = head) (ht : head ≤ top * 4294967296 + 4294967295) (hl : 4294967296 ≤ left) : g < 4294967296 := by
  rcases Nat.lt_or_ge g 4294967296 with h | h
  · exact h
  · exfalso
    have : 4294967296 * top ≤ g * top := Nat.mul_le_mul_right _ h
    omega

end Go.Proofs.Ytefpjjonmoofpaa
