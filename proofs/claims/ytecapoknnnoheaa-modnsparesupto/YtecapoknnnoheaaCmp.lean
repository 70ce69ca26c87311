import Derived.Test.YtecapoknnnoheaaCpy
import Derived.Test.YtecapoknnnoheaaTake
namespace Go.Proofs.Ytecapoknnnoheaa
open Go.RowKit

/-- How two whole numbers stand to each other. -/
def cmp3 (a b : Int) : Int := if a < b then -1 else if b < a then 1 else 0

set_option maxHeartbeats 400000 in
theorem isNaN_any (a : Int) (w : World) : Calls Try.prog 68 #[.int .i64 a] w fun e w' => e = .returned (.bool false) ∧ w' = w := by
  go_enter Try.func68, Try.ntmps68
  go_wp2
  go_ret
  exact ⟨by simp, rfl⟩

set_option maxHeartbeats 400000 in
theorem cmpInt_any (a b : Int) (w : World) : Calls Try.prog 50 #[.int .i64 a, .int .i64 b] w fun e w' => e = .returned (.int .i64 (cmp3 a b)) ∧ w' = w := by
  have h : (a < b ∧ Hid (cmp3 a b = -1)) ∨ (¬ a < b ∧ b < a ∧ Hid (cmp3 a b = 1)) ∨ (¬ a < b ∧ ¬ b < a ∧ Hid (cmp3 a b = 0)) := by
    unfold cmp3
    by_cases h1 : a < b
    · exact .inl ⟨h1, by show _ = _; rw [if_pos h1]⟩
    · by_cases h2 : b < a
      · exact .inr (.inl ⟨h1, h2, by show _ = _; rw [if_neg h1, if_pos h2]⟩)
      · exact .inr (.inr ⟨h1, h2, by show _ = _; rw [if_neg h1, if_neg h2]⟩)
  rcases h with ⟨h1, H⟩ | ⟨h1, h2, H⟩ | ⟨h1, h2, H⟩
  all_goals
    go_enter Try.func50, Try.ntmps50
    go_wp2_with fail
    refine (isNaN_any a w).mono ?_
    rintro e w' ⟨rfl, rfl⟩
    go_wp2_with fail
    refine (isNaN_any b _).mono ?_
    rintro e w' ⟨rfl, rfl⟩
    go_wp2
    go_ret
    rw [H.out]
    exact ⟨rfl, rfl⟩

set_option maxHeartbeats 400000 in
theorem isNaNU_any (a : Int) (w : World) : Calls Try.prog 69 #[.int .u32 a] w fun e w' => e = .returned (.bool false) ∧ w' = w := by
  go_enter Try.func69, Try.ntmps69
  go_wp2
  go_ret
  exact ⟨by simp, rfl⟩

set_option maxHeartbeats 400000 in
theorem cmpU_any (a b : Int) (w : World) : Calls Try.prog 51 #[.int .u32 a, .int .u32 b] w fun e w' => e = .returned (.int .i64 (cmp3 a b)) ∧ w' = w := by
  have h : (a < b ∧ Hid (cmp3 a b = -1)) ∨ (¬ a < b ∧ b < a ∧ Hid (cmp3 a b = 1)) ∨ (¬ a < b ∧ ¬ b < a ∧ Hid (cmp3 a b = 0)) := by
    unfold cmp3
    by_cases h1 : a < b
    · exact .inl ⟨h1, by show _ = _; rw [if_pos h1]⟩
    · by_cases h2 : b < a
      · exact .inr (.inl ⟨h1, h2, by show _ = _; rw [if_neg h1, if_pos h2]⟩)
      · exact .inr (.inr ⟨h1, h2, by show _ = _; rw [if_neg h1, if_neg h2]⟩)
  rcases h with ⟨h1, H⟩ | ⟨h1, h2, H⟩ | ⟨h1, h2, H⟩
  all_goals
    go_enter Try.func51, Try.ntmps51
    go_wp2_with fail
    refine (isNaNU_any a w).mono ?_
    rintro e w' ⟨rfl, rfl⟩
    go_wp2_with fail
    refine (isNaNU_any b _).mono ?_
    rintro e w' ⟨rfl, rfl⟩
    go_wp2
    go_ret
    rw [H.out]
    exact ⟨rfl, rfl⟩

theorem cmp3_lt {a b : Int} (h : a < b) : cmp3 a b = -1 := if_pos h
theorem cmp3_gt {a b : Int} (h : b < a) : cmp3 a b = 1 := by unfold cmp3; rw [if_neg (by omega), if_pos h]
theorem cmp3_eq {a b : Int} (h : a = b) : cmp3 a b = 0 := by unfold cmp3; rw [if_neg (by omega), if_neg (by omega)]

theorem limb_lt {B : Nat} (hB : 0 < B) {X Y : List Nat} (hX : Sm B X) (k : Nat) (h1 : k < X.length) (h2 : k < Y.length) (hd : X.drop (k + 1) = Y.drop (k + 1)) (hl : X[k] < Y[k]) : nv B X < nv B Y := by
  have e1 := nv_split B X k (by omega)
  have e2 := nv_split B Y k (by omega)
  rw [List.drop_eq_getElem_cons h1, nv, hd] at e1
  rw [List.drop_eq_getElem_cons h2, nv] at e2
  have h3 := nv_lt hB (hX.take k)
  rw [List.length_take, Nat.min_eq_left (by omega)] at h3
  have h4 : B ^ k * (X[k] + B * nv B (Y.drop (k + 1)) + 1) ≤ B ^ k * (Y[k] + B * nv B (Y.drop (k + 1))) := Nat.mul_le_mul_left _ (by omega)
  rw [Nat.mul_add, Nat.mul_one] at h4
  omega

set_option maxHeartbeats 1000000 in
/-- The limbs are compared from the top on. -/
theorem cmp_any (ax ay : Option Addr) (n m cx cy : Nat) (xs ys : List Nat) (w : World) (hx : Rn w ax xs) (hn : n = xs.length) (hcx : n ≤ cx) (hy : Rn w ay ys) (hm : m = ys.length) (hcy : m ≤ cy) (sx : Sm Bs xs) (sy : Sm Bs ys) (hl : n ≤ 1000000000) (hl2 : m ≤ 1000000000) :
    Calls Try.prog 22 #[.slice ax n cx, .slice ay m cy] w fun e w' => e = .returned (.int .i64 (cmp3 (nv Bs xs) (nv Bs ys))) ∧ ∃ q, w' = w.drewN q := by
  have P1 := proper_any ax n cx xs w hx hn hcx hl
  have P2 := proper_any ay m cy ys w hy hm hcy hl2
  obtain ⟨X, HX⟩ : ∃ X, Hid (X = dg Bs (nv Bs xs)) := ⟨_, rfl⟩
  obtain ⟨Y, HY⟩ : ∃ Y, Hid (Y = dg Bs (nv Bs ys)) := ⟨_, rfl⟩
  obtain ⟨V, HV⟩ : ∃ V : Int, Hid (cmp3 (nv Bs xs) (nv Bs ys) = V) := ⟨_, rfl⟩
  have RX : Hid (Rn w ax X) := by have := hx.take (tl xs); rw [trim_dg Bs_two sx, ← HX.out] at this; exact this
  have RY : Hid (Rn w ay Y) := by have := hy.take (tl ys); rw [trim_dg Bs_two sy, ← HY.out] at this; exact this
  have LX : Hid (tl xs = X.length) := by show _ = _; rw [HX.out, dg_length Bs_two sx]
  have LY : Hid (tl ys = Y.length) := by show _ = _; rw [HY.out, dg_length Bs_two sy]
  have HVX : Hid (cmp3 (nv Bs X) (nv Bs Y) = V) := by show _ = _; rw [HX.out, HY.out, dg_nv Bs_two, dg_nv Bs_two]; exact HV.out
  have SX : Hid (Sm Bs X) := by show Sm _ _; rw [HX.out]; exact dg_sm Bs_two _
  have SY : Hid (Sm Bs Y) := by show Sm _ _; rw [HY.out]; exact dg_sm Bs_two _
  have HM1 : Hid (X.length < Y.length → V = -1) := fun h => by rw [← HV.out]; rw [HX.out, HY.out] at h; exact cmp3_lt (by have := dg_mono Bs_two h; omega)
  have HM2 : Hid (Y.length < X.length → V = 1) := fun h => by rw [← HV.out]; rw [HX.out, HY.out] at h; exact cmp3_gt (by have := dg_mono Bs_two h; omega)
  have hX0 : tl xs ≤ 1000000000 := by have := tl_le xs; omega
  have hY0 : tl ys ≤ 1000000000 := by have := tl_le ys; omega
  rw [HV.out]
  rw [LX.out] at P1 hX0
  rw [LY.out] at P2 hY0
  clear hx hn hy hm sx sy HX HY LX LY HV hcx hcy hl hl2
  go_enter Try.func22, Try.ntmps22
  go_wp2_with fail
  refine P1.mono ?_
  clear P1
  rintro e w ⟨rfl, rfl⟩
  go_wp2_with fail
  refine P2.mono ?_
  clear P2
  rintro e w ⟨rfl, rfl⟩
  go_wp2_with fail
  refine (cmpInt_any _ _ _).mono ?_
  rintro e w ⟨rfl, rfl⟩
  obtain ⟨o, Ho⟩ : ∃ o : Int, Hid (cmp3 (X.length : Int) (Y.length : Int) = o) := ⟨_, rfl⟩
  rw [Ho.out]
  have HO : Hid ((o = 0 ∧ X.length = Y.length) ∨ (o ≠ 0 ∧ o = V)) := by
    rcases Nat.lt_trichotomy X.length Y.length with h | h | h
    · exact .inr ⟨by rw [← Ho.out, cmp3_lt (by omega)]; decide, by rw [← Ho.out, cmp3_lt (by omega), HM1.out h]⟩
    · exact .inl ⟨by rw [← Ho.out, cmp3_eq (by omega)], h⟩
    · exact .inr ⟨by rw [← Ho.out, cmp3_gt (by omega)]; decide, by rw [← Ho.out, cmp3_gt (by omega), HM2.out h]⟩
  clear Ho
  go_wp2
  go_loopw [5, 6] (fun s5 s6 wr => ∃ (k q : Nat) (o : Int), s5 = .int .i64 o ∧ s6 = .int .i64 ((k : Int) - 1) ∧ k ≤ X.length ∧ wr = w.drewN q ∧ Hid ((o = 0 ∧ X.length = Y.length ∧ X.drop k = Y.drop k) ∨ (o ≠ 0 ∧ o = V))) (fun _ s _ => (intOf s + 1).toNat)
  case atStart =>
    refine ⟨X.length, 0, o, rfl, rfl, Nat.le_refl _, rfl, ?_⟩
    rcases HO.out with ⟨h1, h2⟩ | h
    · exact .inl ⟨h1, h2, by rw [List.drop_of_length_le (Nat.le_refl _), List.drop_of_length_le (by omega)]⟩
    · exact .inr h
  case round =>
    clear HO
    obtain ⟨k, q, o, rfl, rfl, hk, rfl, HO⟩ := hrel
    rcases k with _ | k
    · have HV0 : Hid (o = V) := by
        rcases HO.out with ⟨rfl, h1, h2⟩ | h
        · rw [List.drop_zero, List.drop_zero] at h2
          show _ = _
          rw [← HVX.out, cmp3_eq (by rw [h2])]
        · exact h.2
      clear HO
      have e0 : ((0 : Nat) : Int) - 1 = -1 := rfl
      rw [e0]
      go_wp2
      go_ret
      rw [HV0.out]
      exact ⟨rfl, q, rfl⟩
    · have e0 : ((k + 1 : Nat) : Int) - 1 = (k : Int) := by omega
      rw [e0]
      clear e0
      by_cases ho : o = 0
      · subst ho
        have HD : Hid (X.length = Y.length ∧ X.drop (k + 1) = Y.drop (k + 1)) := by
          rcases HO.out with ⟨_, h⟩ | h
          · exact h
          · exact absurd rfl h.1
        clear HO
        have hkX : k < X.length := by omega
        have hkY : k < Y.length := by have := HD.out.1; omega
        obtain ⟨gx, ox, rfl, hgx, cx'⟩ := RX.out.cell (by omega)
        obtain ⟨gy, oy, rfl, hgy, cy'⟩ := RY.out.cell (by omega)
        have c1 := cx' k hkX
        have c2 := cy' k hkY
        rw [getD_eq _ _ hkX] at c1
        rw [getD_eq _ _ hkY] at c2
        obtain ⟨x, Hx⟩ : ∃ x, Hid (X[k] = x) := ⟨X[k], (rfl : X[k] = X[k])⟩
        obtain ⟨y, Hy⟩ : ∃ y, Hid (Y[k] = y) := ⟨Y[k], (rfl : Y[k] = Y[k])⟩
        rw [Hx.out] at c1
        rw [Hy.out] at c2
        clear cx' cy'
        have C := cmpU_any (x : Int) (y : Int)
        have HN : Hid ((cmp3 (x : Int) (y : Int) = 0 ∧ X.length = Y.length ∧ X.drop k = Y.drop k) ∨ (cmp3 (x : Int) (y : Int) ≠ 0 ∧ cmp3 (x : Int) (y : Int) = V)) := by
          rcases Nat.lt_trichotomy x y with h | h | h
          · refine .inr ⟨by rw [cmp3_lt (by omega)]; decide, ?_⟩
            rw [cmp3_lt (by omega), ← HVX.out, cmp3_lt]
            have := limb_lt Bs_pos SX.out k hkX hkY HD.out.2 (by rw [Hx.out, Hy.out]; exact h)
            omega
          · refine .inl ⟨cmp3_eq (by omega), HD.out.1, ?_⟩
            rw [List.drop_eq_getElem_cons hkX, List.drop_eq_getElem_cons hkY, HD.out.2, Hx.out, Hy.out, h]
          · refine .inr ⟨by rw [cmp3_gt (by omega)]; decide, ?_⟩
            rw [cmp3_gt (by omega), ← HVX.out, cmp3_gt]
            have := limb_lt Bs_pos SY.out k hkY hkX HD.out.2.symm (by rw [Hx.out, Hy.out]; exact h)
            omega
        have hkYI : (k : Int) < (Y.length : Int) := by omega
        go_wp2
        go_quiet ((refine (C _).mono ?_; rintro e w' ⟨rfl, rfl⟩; exact ⟨rfl, _, rfl⟩))
        go_wp2
        go_roundw
        case rel => exact ⟨k, _, cmp3 (x : Int) (y : Int), rfl, rfl, by omega, rfl, HN⟩
        case measure => simp [intOf]
      · have HV0 : Hid (o = V) := by
          rcases HO.out with ⟨h, _⟩ | h
          · exact absurd h ho
          · exact h.2
        have hob : (o == 0) = false := by simpa using ho
        clear HO ho
        go_wp2
        go_ret
        rw [HV0.out]
        exact ⟨rfl, q, rfl⟩

end Go.Proofs.Ytecapoknnnoheaa
