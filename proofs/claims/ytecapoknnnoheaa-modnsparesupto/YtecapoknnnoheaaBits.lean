import Derived.Test.YtecapoknnnoheaaOps
import Derived.Test.YtecapoknnnoheaaLen
namespace Go.Proofs.Ytecapoknnnoheaa
open Go.RowKit

theorem bl_limbs (X : List Nat) (m : Nat) (sX : Sm Bs X) (hl : X.length = m + 1) (ht : X.getD m 0 ≠ 0) : bl (nv Bs X) = m * 32 + bl (X.getD m 0) := by
  have e2 := nv_take_succ Bs X m
  rw [List.take_of_length_le (by omega)] at e2
  have h4 := nv_lt Bs_pos (sX.take m)
  rw [List.length_take, Nat.min_eq_left (by omega)] at h4
  have hB : Bs ^ m = 2 ^ (32 * m) := by rw [Nat.pow_mul]; rfl
  have hq : nv Bs X / 2 ^ (32 * m) = X.getD m 0 := by
    rw [← hB, e2, Nat.add_mul_div_left _ _ (Nat.pow_pos Bs_pos), Nat.div_eq_of_lt h4, Nat.zero_add]
  rw [bl_shift (nv Bs X) (32 * m) (by rw [hq]; exact ht), hq]
  omega

theorem dg_top {B : Nat} (hB : 2 ≤ B) (v m : Nat) (h : (dg B v).length = m + 1) : (dg B v).getD m 0 ≠ 0 := by
  intro e
  have h3 := dg_low hB m v h
  have e2 := nv_take_succ B (dg B v) m
  rw [List.take_of_length_le (by omega), e, Nat.mul_zero, Nat.add_zero, dg_nv hB] at e2
  have h4 := nv_lt (by omega) ((dg_sm hB v).take m)
  rw [List.length_take, Nat.min_eq_left (by omega), ← e2] at h4
  omega

set_option maxHeartbeats 400000 in
theorem bits_nm (v : Value) (xs : List Nat) (w : World) (hv : Nm w v xs) (h1 : xs.length ≤ 1000000000) :
    Calls Try.prog 36 #[v] w fun e w' => e = .returned (.int .i64 ((bl (nv Bs xs) : Nat) : Int)) ∧ w' = w := by
  obtain ⟨ax, cx, X, P1, lx1, lx2, RX, SX, EX⟩ := proper_nm v xs w hv h1
  have EX' : nv Bs X = nv Bs xs := by rw [EX, dg_nv Bs_two]
  rw [← EX']
  rcases Nat.eq_zero_or_pos X.length with h0 | h0
  · have := List.eq_nil_of_length_eq_zero h0
    subst this
    clear hv h1 lx1 lx2 RX SX EX EX' h0
    rw [List.length_nil] at P1
    go_enter Try.func36, Try.ntmps36
    go_wp2_with fail
    refine P1.mono ?_
    clear P1
    rintro e w ⟨rfl, rfl⟩
    go_wp2
    go_ret
    exact ⟨rfl, rfl⟩
  · obtain ⟨m, hm⟩ : ∃ m, X.length = m + 1 := ⟨X.length - 1, by omega⟩
    have ht : X.getD m 0 ≠ 0 := by
      rw [EX]
      exact dg_top Bs_two _ m (by rw [← EX]; exact hm)
    have HV : Hid (bl (nv Bs X) = m * 32 + bl (X.getD m 0)) := bl_limbs X m SX hm ht
    obtain ⟨g, off, rfl, _, cc⟩ := RX.cell h0
    have c1 := cc m (by omega)
    obtain ⟨t, Ht⟩ : ∃ t, Hid (X.getD m 0 = t) := ⟨_, rfl⟩
    rw [Ht.out] at c1
    have htb : t < 4294967296 := by rw [← Ht.out, ← Bs_eq]; exact SX.getD Bs_pos m
    have hb : bl t ≤ 32 := by
      have h2 : bl t ≤ bl 4294967295 := bl_mono (by omega)
      exact Nat.le_trans h2 (by decide)
    have C := len_any t w htb
    rw [hm] at P1
    have hmb : m ≤ 1000000000 := by omega
    have HVt : Hid (bl (nv Bs X) = m * 32 + bl t) := by show _ = _; rw [HV.out, Ht.out]
    have e1 : ((m + 1 : Nat) : Int) - 1 = (m : Int) := by omega
    obtain ⟨B, HB⟩ : ∃ B, Hid (bl t = B) := ⟨_, rfl⟩
    rw [HB.out] at C hb HVt
    clear hv h1 lx1 lx2 RX SX EX EX' h0 hm ht HV cc
    go_enter Try.func36, Try.ntmps36
    go_wp2_with fail
    refine P1.mono ?_
    clear P1
    rintro e w ⟨rfl, rfl⟩
    go_wp2_with fail
    refine C.mono ?_
    clear C
    rintro e w ⟨rfl, rfl⟩
    go_wp2
    go_ret
    rw [HVt.out]
    refine ⟨?_, rfl⟩
    simp

end Go.Proofs.Ytecapoknnnoheaa
