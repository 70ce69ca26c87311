import Derived.Test.YtefpjjonmoofpaaNtApp
import Derived.Test.YtefpjjonmoofpaaNtLsame
namespace Go.Proofs.Ytefpjjonmoofpaa
open Go.RowKit

theorem take_lt {B : Nat} (xs ys : List Nat) (k m : Nat) (hm : k ≤ m) (h : nv B (xs.take k) < nv B (ys.take k)) (he : ∀ j, k ≤ j → xs.getD j 0 = ys.getD j 0) : nv B (xs.take m) < nv B (ys.take m) := by
  induction m with
  | zero => rw [show k = 0 by omega] at h; exact h
  | succ m ih =>
    rcases Nat.lt_or_ge m k with h1 | h1
    · rw [show m + 1 = k by omega]; exact h
    · rw [nv_take_succ, nv_take_succ, he m h1]
      have := ih h1
      omega
theorem limb_lt' {B : Nat} (hB : 0 < B) {xs ys : List Nat} (sx : Sm B xs) (k m : Nat) (hm : k < m) (hx : xs.length ≤ m) (hy : ys.length ≤ m) (he : ∀ j, k + 1 ≤ j → xs.getD j 0 = ys.getD j 0) (h : xs.getD k 0 < ys.getD k 0) : nv B xs < nv B ys := by
  have h1 : nv B (xs.take (k + 1)) < nv B (ys.take (k + 1)) := by
    rw [nv_take_succ, nv_take_succ]
    have h2 := nv_lt hB (sx.take k)
    have h3 : B ^ (xs.take k).length ≤ B ^ k := Nat.pow_le_pow_right hB (by rw [List.length_take]; omega)
    have h4 : B ^ k * (xs.getD k 0 + 1) ≤ B ^ k * ys.getD k 0 := Nat.mul_le_mul_left _ h
    rw [Nat.mul_add, Nat.mul_one] at h4
    omega
  have := take_lt xs ys (k + 1) m (by omega) h1 he
  rwa [List.take_of_length_le hx, List.take_of_length_le hy] at this
theorem nv_ext {B : Nat} (xs ys : List Nat) (he : ∀ j, xs.getD j 0 = ys.getD j 0) : nv B xs = nv B ys := by
  have h : ∀ m, nv B (xs.take m) = nv B (ys.take m) := fun m => by
    induction m with
    | zero => simp
    | succ m ih => rw [nv_take_succ, nv_take_succ, ih, he m]
  have := h (xs.length + ys.length)
  rwa [List.take_of_length_le (by omega), List.take_of_length_le (by omega)] at this
theorem nv_low {B : Nat} (_hB : 0 < B) (ys : List Nat) (n : Nat) (h : nv B ys < B ^ n) : nv B (ys.take n) = nv B ys := by
  rcases Nat.lt_or_ge n ys.length with h1 | h1
  · have e := nv_split B ys n (by omega)
    rcases Nat.eq_zero_or_pos (nv B (ys.drop n)) with h2 | h2
    · rw [h2, Nat.mul_zero, Nat.add_zero] at e; exact e.symm
    · exfalso
      have : B ^ n * 1 ≤ B ^ n * nv B (ys.drop n) := Nat.mul_le_mul_left _ h2
      omega
  · rw [List.take_of_length_le h1]

set_option maxHeartbeats 1000000 in
theorem rcmp_le (ax ay : Option Addr) (cx cy : Nat) (xs ys : List Nat) (w : World) (hx : Rn w ax xs) (hy : Rn w ay ys) (sx : Sm Bs xs) (sy : Sm Bs ys) (_h1 : xs.length ≤ 1000000000) (_h2 : ys.length ≤ 1000000000) (hgt : ys.length ≤ xs.length) :
    Calls Try.prog 14 #[.slice ax xs.length cx, .slice ay ys.length cy] w fun e w' => e = .returned (.int .i64 (cmp3 (nv Bs xs) (nv Bs ys))) ∧ w' = w := by
  obtain ⟨V, HV⟩ : ∃ V : Int, Hid (cmp3 (nv Bs xs) (nv Bs ys) = V) := ⟨_, rfl⟩
  rw [HV.out]
  have HX : Hid (Rn w ax xs) := hx
  have HY : Hid (Rn w ay ys) := hy
  have HSX : Hid (Sm Bs xs) := sx
  have HSY : Hid (Sm Bs ys) := sy
  have hgB : decide ((ys.length : Int) > (xs.length : Int)) = false := decide_eq_false (by omega)
  have hgN : decide (xs.length < ys.length) = false := decide_eq_false (by omega)
  clear hx hy sx sy
  go_enter Try.func14, Try.ntmps14
  go_wp2
  go_loopw [6, 7, 8] (fun s _ _ wr => ∃ k : Nat, s = .int .i64 ((k : Int) - 1) ∧ k ≤ xs.length ∧ wr = w ∧ Hid (∀ j, k ≤ j → xs.getD j 0 = ys.getD j 0)) (fun s _ _ _ => (intOf s + 1).toNat)
  case atStart => exact ⟨xs.length, rfl, Nat.le_refl _, rfl, fun j hj => by rw [getD_none _ _ (by omega), getD_none _ _ (by omega)]⟩
  case round =>
    obtain ⟨k, rfl, hk, rfl, HI⟩ := hrel
    rcases k with _ | k
    · have HV0 : Hid (V = 0) := by show _ = _; rw [← HV.out, cmp3_eq (by rw [nv_ext xs ys (fun j => HI.out j (Nat.zero_le _))])]
      have e0 : ((0 : Nat) : Int) - 1 = -1 := rfl
      rw [e0]
      go_wp2
      go_ret
      rw [HV0.out]
      exact ⟨rfl, rfl⟩
    · have e0 : ((k + 1 : Nat) : Int) - 1 = (k : Int) := by omega
      rw [e0]
      clear e0
      have C1 := rlimb_any ax xs.length cx k xs wr HX.out HSX.out rfl
      have C2 := rlimb_any ay ys.length cy k ys wr HY.out HSY.out rfl
      obtain ⟨x, Hx⟩ : ∃ x, Hid (xs.getD k 0 = x) := ⟨_, rfl⟩
      obtain ⟨y, Hy⟩ : ∃ y, Hid (ys.getD k 0 = y) := ⟨_, rfl⟩
      rw [Hx.out] at C1
      rw [Hy.out] at C2
      rcases Nat.lt_trichotomy x y with h | h | h
      · have HV0 : Hid (V = -1) := by
          show _ = _
          rw [← HV.out]
          have := limb_lt' Bs_pos HSX.out k xs.length (by omega) (by omega) (by omega) HI.out (by rw [Hx.out, Hy.out]; exact h)
          exact cmp3_lt (by omega)
        have hb1 : decide ((x : Int) < (y : Int)) = true := decide_eq_true (by omega)
        go_wp2_with fail
        refine C1.mono ?_
        rintro e wr ⟨rfl, rfl⟩
        go_wp2_with fail
        refine C2.mono ?_
        rintro e wr ⟨rfl, rfl⟩
        go_wp2
        go_ret
        rw [HV0.out]
        exact ⟨rfl, rfl⟩
      · subst h
        have HI1 : Hid (∀ j, k ≤ j → xs.getD j 0 = ys.getD j 0) := fun j hj => by
          rcases Nat.lt_or_ge k j with h | h
          · exact HI.out j h
          · obtain rfl : j = k := by omega
            rw [Hx.out, Hy.out]
        have hb1 : decide ((x : Int) < (x : Int)) = false := decide_eq_false (by omega)
        have hb2 : decide ((x : Int) > (x : Int)) = false := decide_eq_false (by omega)
        go_wp2_with fail
        refine C1.mono ?_
        rintro e wr ⟨rfl, rfl⟩
        go_wp2_with fail
        refine C2.mono ?_
        rintro e wr ⟨rfl, rfl⟩
        go_wp2
        go_roundw
        case rel => first | exact ⟨k, rfl, by omega, rfl, HI1⟩ | exact ⟨k, rfl, by omega, trivial, HI1⟩
        case measure => simp [intOf]
      · have HV0 : Hid (V = 1) := by
          show _ = _
          rw [← HV.out]
          have := limb_lt' Bs_pos HSY.out k xs.length (by omega) (by omega) (by omega) (fun j hj => (HI.out j hj).symm) (by rw [Hx.out, Hy.out]; exact h)
          exact cmp3_gt (by omega)
        have hb1 : decide ((x : Int) < (y : Int)) = false := decide_eq_false (by omega)
        have hb2 : decide ((x : Int) > (y : Int)) = true := decide_eq_true (by omega)
        go_wp2_with fail
        refine C1.mono ?_
        rintro e wr ⟨rfl, rfl⟩
        go_wp2_with fail
        refine C2.mono ?_
        rintro e wr ⟨rfl, rfl⟩
        go_wp2
        go_ret
        rw [HV0.out]
        exact ⟨rfl, rfl⟩

set_option maxHeartbeats 1000000 in
theorem rcmp_gt (ax ay : Option Addr) (cx cy : Nat) (xs ys : List Nat) (w : World) (hx : Rn w ax xs) (hy : Rn w ay ys) (sx : Sm Bs xs) (sy : Sm Bs ys) (_h1 : xs.length ≤ 1000000000) (_h2 : ys.length ≤ 1000000000) (hgt : xs.length < ys.length) :
    Calls Try.prog 14 #[.slice ax xs.length cx, .slice ay ys.length cy] w fun e w' => e = .returned (.int .i64 (cmp3 (nv Bs xs) (nv Bs ys))) ∧ w' = w := by
  obtain ⟨V, HV⟩ : ∃ V : Int, Hid (cmp3 (nv Bs xs) (nv Bs ys) = V) := ⟨_, rfl⟩
  rw [HV.out]
  have HX : Hid (Rn w ax xs) := hx
  have HY : Hid (Rn w ay ys) := hy
  have HSX : Hid (Sm Bs xs) := sx
  have HSY : Hid (Sm Bs ys) := sy
  have hgB : decide ((ys.length : Int) > (xs.length : Int)) = true := decide_eq_true (by omega)
  have hgN : decide (xs.length < ys.length) = true := decide_eq_true (by omega)
  clear hx hy sx sy
  go_enter Try.func14, Try.ntmps14
  go_wp2
  go_loopw [6, 7, 8] (fun s _ _ wr => ∃ k : Nat, s = .int .i64 ((k : Int) - 1) ∧ k ≤ ys.length ∧ wr = w ∧ Hid (∀ j, k ≤ j → xs.getD j 0 = ys.getD j 0)) (fun s _ _ _ => (intOf s + 1).toNat)
  case atStart => exact ⟨ys.length, rfl, Nat.le_refl _, rfl, fun j hj => by rw [getD_none _ _ (by omega), getD_none _ _ (by omega)]⟩
  case round =>
    obtain ⟨k, rfl, hk, rfl, HI⟩ := hrel
    rcases k with _ | k
    · have HV0 : Hid (V = 0) := by show _ = _; rw [← HV.out, cmp3_eq (by rw [nv_ext xs ys (fun j => HI.out j (Nat.zero_le _))])]
      have e0 : ((0 : Nat) : Int) - 1 = -1 := rfl
      rw [e0]
      go_wp2
      go_ret
      rw [HV0.out]
      exact ⟨rfl, rfl⟩
    · have e0 : ((k + 1 : Nat) : Int) - 1 = (k : Int) := by omega
      rw [e0]
      clear e0
      have C1 := rlimb_any ax xs.length cx k xs wr HX.out HSX.out rfl
      have C2 := rlimb_any ay ys.length cy k ys wr HY.out HSY.out rfl
      obtain ⟨x, Hx⟩ : ∃ x, Hid (xs.getD k 0 = x) := ⟨_, rfl⟩
      obtain ⟨y, Hy⟩ : ∃ y, Hid (ys.getD k 0 = y) := ⟨_, rfl⟩
      rw [Hx.out] at C1
      rw [Hy.out] at C2
      rcases Nat.lt_trichotomy x y with h | h | h
      · have HV0 : Hid (V = -1) := by
          show _ = _
          rw [← HV.out]
          have := limb_lt' Bs_pos HSX.out k ys.length (by omega) (by omega) (by omega) HI.out (by rw [Hx.out, Hy.out]; exact h)
          exact cmp3_lt (by omega)
        have hb1 : decide ((x : Int) < (y : Int)) = true := decide_eq_true (by omega)
        go_wp2_with fail
        refine C1.mono ?_
        rintro e wr ⟨rfl, rfl⟩
        go_wp2_with fail
        refine C2.mono ?_
        rintro e wr ⟨rfl, rfl⟩
        go_wp2
        go_ret
        rw [HV0.out]
        exact ⟨rfl, rfl⟩
      · subst h
        have HI1 : Hid (∀ j, k ≤ j → xs.getD j 0 = ys.getD j 0) := fun j hj => by
          rcases Nat.lt_or_ge k j with h | h
          · exact HI.out j h
          · obtain rfl : j = k := by omega
            rw [Hx.out, Hy.out]
        have hb1 : decide ((x : Int) < (x : Int)) = false := decide_eq_false (by omega)
        have hb2 : decide ((x : Int) > (x : Int)) = false := decide_eq_false (by omega)
        go_wp2_with fail
        refine C1.mono ?_
        rintro e wr ⟨rfl, rfl⟩
        go_wp2_with fail
        refine C2.mono ?_
        rintro e wr ⟨rfl, rfl⟩
        go_wp2
        go_roundw
        case rel => first | exact ⟨k, rfl, by omega, rfl, HI1⟩ | exact ⟨k, rfl, by omega, trivial, HI1⟩
        case measure => simp [intOf]
      · have HV0 : Hid (V = 1) := by
          show _ = _
          rw [← HV.out]
          have := limb_lt' Bs_pos HSY.out k ys.length (by omega) (by omega) (by omega) (fun j hj => (HI.out j hj).symm) (by rw [Hx.out, Hy.out]; exact h)
          exact cmp3_gt (by omega)
        have hb1 : decide ((x : Int) < (y : Int)) = false := decide_eq_false (by omega)
        have hb2 : decide ((x : Int) > (y : Int)) = true := decide_eq_true (by omega)
        go_wp2_with fail
        refine C1.mono ?_
        rintro e wr ⟨rfl, rfl⟩
        go_wp2_with fail
        refine C2.mono ?_
        rintro e wr ⟨rfl, rfl⟩
        go_wp2
        go_ret
        rw [HV0.out]
        exact ⟨rfl, rfl⟩

theorem rcmp_nm (v u : Value) (xs ys : List Nat) (w : World) (hv : Nm w v xs) (hu : Nm w u ys) (h1 : xs.length ≤ 1000000000) (h2 : ys.length ≤ 1000000000) :
    Calls Try.prog 14 #[v, u] w fun e w' => e = .returned (.int .i64 (cmp3 (nv Bs xs) (nv Bs ys))) ∧ w' = w := by
  obtain ⟨ax, cx, rfl, hcx, hx, sx⟩ := hv
  obtain ⟨ay, cy, rfl, hcy, hy, sy⟩ := hu
  rcases Nat.lt_or_ge xs.length ys.length with h | h
  · exact rcmp_gt ax ay cx cy xs ys w hx hy sx sy h1 h2 h
  · exact rcmp_le ax ay cx cy xs ys w hx hy sx sy h1 h2 h

theorem rproper_nm (v : Value) (xs : List Nat) (w : World) (hv : Nm w v xs) (h1 : xs.length ≤ 1000000000) :
    Calls Try.prog 16 #[v] w fun e w' => ∃ r, e = .returned r ∧ Ow w' w.heap.size r (dg Bs (nv Bs xs)) ∧ Below w.heap.size w w' := by
  obtain ⟨ax, cx, rfl, hcx, hx, sx⟩ := hv
  exact rproper_any ax _ cx xs w hx sx rfl h1

/-- What proper makes of a row of one's own. -/
theorem OB.proper {w wr : World} {v : Value} {ds : List Nat} (h : OB w.heap.size w wr v ds) (sd : Sm Bs ds) (hl : ds.length ≤ 1000000000) :
    Calls Try.prog 16 #[v] wr fun e w' => ∃ r, e = .returned r ∧ Ow w' w.heap.size r (dg Bs (nv Bs ds)) ∧ Below w.heap.size w w' := by
  refine (rproper_nm v ds wr (h.own.nm sd) hl).mono ?_
  rintro e w' ⟨r, rfl, h1, h2⟩
  exact ⟨r, rfl, h1.base h.bel.size, h.bel.trans (h2.mono h.bel.size)⟩

end Go.Proofs.Ytefpjjonmoofpaa
