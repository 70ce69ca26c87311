import Derived.Test.YtefpjjonmoofpaaNtDivMod
import Derived.Test.YtefpjjonmoofpaaNtBits
namespace Go.Proofs.Ytefpjjonmoofpaa
open Go.RowKit

theorem small_limbs (xs : List Nat) (hs : Sm Bs xs) (h : nv Bs xs < 18446744073709551616) : xs.getD 1 0 * 4294967296 + xs.getD 0 0 = nv Bs xs := by
  have h0 := nv_getD Bs_pos hs 0
  have h1 := nv_getD Bs_pos hs 1
  rw [Nat.pow_zero, Nat.div_one, Bs_eq] at h0
  rw [Nat.pow_one, Bs_eq] at h1
  rw [h0, h1, ← Bs_eq]
  generalize nv Bs xs = N at *
  rw [Bs_eq]
  omega

end Go.Proofs.Ytefpjjonmoofpaa
