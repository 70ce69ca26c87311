import Derived.Test.YtefpjjonmoofpaaNtOps
import Derived.Test.YtefpjjonmoofpaaNtLen
namespace Go.Proofs.Ytefpjjonmoofpaa
open Go.RowKit

theorem bl_limbs (X : List Nat) (m : Nat) (sX : Sm Bs X) (hl : X.length = m + 1) (ht : X.getD m 0 ≠ 0) : bl (nv Bs X) = m * 32 + bl (X.getD m 0) := by
  have e2 := nv_take_succ Bs X m
  rw [List.take_of_length_le (by omega)] at e2
  have h4 := nv_lt Bs_pos (sX.take m)
  rw [List.length_take, Nat.min_eq_left (by omega)] at h4
  have hB : Bs ^ m = 2 ^ (32 * m) := by rw [Nat.pow_mul]; rfl
  have hq : nv Bs X / 2 ^ (32 * m) = X.getD m 0 := by
    rw [← hB, e2, Nat.add_mul_div_left _ _ (Nat.pow_pos Bs_pos), Nat.div_eq_of_lt h4, Nat.zero_add]
  rw [bl_shift (nv Bs X) (32 * m) (by rw [hq]; exact ht), hq]
  omega

theorem dg_top {B : Nat} (hB : 2 ≤ B) (v m : Nat) (h : (dg B v).length = m + 1) : (dg B v).getD m 0 ≠ 0 := by
  intro e
  have h3 := dg_low hB m v h
  have e2 := nv_take_succ B (dg B v) m
  rw [List.take_of_length_le (by omega), e, Nat.mul_zero, Nat.add_zero, dg_nv hB] at e2
  have h4 := nv_lt (by omega) ((dg_sm hB v).take m)
  rw [List.length_take, Nat.min_eq_left (by omega), ← e2] at h4
  omega

end Go.Proofs.Ytefpjjonmoofpaa
