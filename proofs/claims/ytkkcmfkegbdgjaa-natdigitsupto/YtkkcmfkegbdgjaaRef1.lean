import Derived.Test.YtkkcmfkegbdgjaaApp
import Derived.Test.YtkkcmfkegbdgjaaLsame
namespace Go.Proofs.Ytkkcmfkegbdgjaa
open Go.RowKit

theorem take_lt {B : Nat} (xs ys : List Nat) (k m : Nat) (hm : k ≤ m) (h : nv B (xs.take k) < nv B (ys.take k)) (he : ∀ j, k ≤ j → xs.getD j 0 = ys.getD j 0) : nv B (xs.take m) < nv B (ys.take m) := by
  induction m with
  | zero => rw [show k = 0 by omega] at h; exact h
  | succ m ih =>
    rcases Nat.lt_or_ge m k with h1 | h1
    · rw [show m + 1 = k by omega]; exact h
    · rw [nv_take_succ, nv_take_succ, he m h1]
      have := ih h1
      omega
theorem limb_lt' {B : Nat} (hB : 0 < B) {xs ys : List Nat} (sx : Sm B xs) (k m : Nat) (hm : k < m) (hx : xs.length ≤ m) (hy : ys.length ≤ m) (he : ∀ j, k + 1 ≤ j → xs.getD j 0 = ys.getD j 0) (h : xs.getD k 0 < ys.getD k 0) : nv B xs < nv B ys := by
  have h1 : nv B (xs.take (k + 1)) < nv B (ys.take (k + 1)) := by
    rw [nv_take_succ, nv_take_succ]
    have h2 := nv_lt hB (sx.take k)
    have h3 : B ^ (xs.take k).length ≤ B ^ k := Nat.pow_le_pow_right hB (by rw [List.length_take]; omega)
    have h4 : B ^ k * (xs.getD k 0 + 1) ≤ B ^ k * ys.getD k 0 := Nat.mul_le_mul_left _ h
    rw [Nat.mul_add, Nat.mul_one] at h4
    omega
  have := take_lt xs ys (k + 1) m (by omega) h1 he
  rwa [List.take_of_length_le hx, List.take_of_length_le hy] at this
theorem nv_ext {B : Nat} (xs ys : List Nat) (he : ∀ j, xs.getD j 0 = ys.getD j 0) : nv B xs = nv B ys := by
  have h : ∀ m, nv B (xs.take m) = nv B (ys.take m) := fun m => by
    induction m with
    | zero => simp
    | succ m ih => rw [nv_take_succ, nv_take_succ, ih, he m]
  have := h (xs.length + ys.length)
  rwa [List.take_of_length_le (by omega), List.take_of_length_le (by omega)] at this
theorem nv_low {B : Nat} (_hB : 0 < B) (ys : List Nat) (n : Nat) (h : nv B ys < B ^ n) : nv B (ys.take n) = nv B ys := by
  rcases Nat.lt_or_ge n ys.length with h1 | h1
  · have e := nv_split B ys n (by omega)
    rcases Nat.eq_zero_or_pos (nv B (ys.drop n)) with h2 | h2
    · rw [h2, Nat.mul_zero, Nat.add_zero] at e; exact e.symm
    · exfalso
      have : B ^ n * 1 ≤ B ^ n * nv B (ys.drop n) := Nat.mul_le_mul_left _ h2
      omega
  · rw [List.take_of_length_le h1]

set_option maxHeartbeats 1000000 in
theorem rcmp_le (ax ay : Option Addr) (cx cy : Nat) (xs ys : List Nat) (w : World) (hx : Rn w ax xs) (hy : Rn w ay ys) (sx : Sm Bs xs) (sy : Sm Bs ys) (_h1 : xs.length ≤ 1000000000) (_h2 : ys.length ≤ 1000000000) (hgt : ys.length ≤ xs.length) :
    Calls Try.prog 20 #[.slice ax xs.length cx, .slice ay ys.length cy] w fun e w' => e = .returned (.int .i64 (cmp3 (nv Bs xs) (nv Bs ys))) ∧ w' = w := by
  obtain ⟨V, HV⟩ : ∃ V : Int, Hid (cmp3 (nv Bs xs) (nv Bs ys) = V) := ⟨_, rfl⟩
  rw [HV.out]
  have HX : Hid (Rn w ax xs) := hx
  have HY : Hid (Rn w ay ys) := hy
  have HSX : Hid (Sm Bs xs) := sx
  have HSY : Hid (Sm Bs ys) := sy
  have hgB : decide ((ys.length : Int) > (xs.length : Int)) = false := decide_eq_false (by omega)
  have hgN : decide (xs.length < ys.length) = false := decide_eq_false (by omega)
  clear hx hy sx sy
  go_enter Try.func20, Try.ntmps20
  go_wp2
  go_loopw [6, 7, 8] (fun s _ _ wr => ∃ k : Nat, s = .int .i64 ((k : Int) - 1) ∧ k ≤ xs.length ∧ wr = w ∧ Hid (∀ j, k ≤ j → xs.getD j 0 = ys.getD j 0)) (fun s _ _ _ => (intOf s + 1).toNat)
  case atStart => exact ⟨xs.length, rfl, Nat.le_refl _, rfl, fun j hj => by rw [getD_none _ _ (by omega), getD_none _ _ (by omega)]⟩
  case round =>
    obtain ⟨k, rfl, hk, rfl, HI⟩ := hrel
    rcases k with _ | k
    · have HV0 : Hid (V = 0) := by show _ = _; rw [← HV.out, cmp3_eq (by rw [nv_ext xs ys (fun j => HI.out j (Nat.zero_le _))])]
      have e0 : ((0 : Nat) : Int) - 1 = -1 := rfl
      rw [e0]
      go_wp2
      go_ret
      rw [HV0.out]
      exact ⟨rfl, rfl⟩
    · have e0 : ((k + 1 : Nat) : Int) - 1 = (k : Int) := by omega
      rw [e0]
      clear e0
      have C1 := rlimb_any ax xs.length cx k xs wr HX.out HSX.out rfl
      have C2 := rlimb_any ay ys.length cy k ys wr HY.out HSY.out rfl
      obtain ⟨x, Hx⟩ : ∃ x, Hid (xs.getD k 0 = x) := ⟨_, rfl⟩
      obtain ⟨y, Hy⟩ : ∃ y, Hid (ys.getD k 0 = y) := ⟨_, rfl⟩
      rw [Hx.out] at C1
      rw [Hy.out] at C2
      rcases Nat.lt_trichotomy x y with h | h | h
      · have HV0 : Hid (V = -1) := by
          show _ = _
          rw [← HV.out]
          have := limb_lt' Bs_pos HSX.out k xs.length (by omega) (by omega) (by omega) HI.out (by rw [Hx.out, Hy.out]; exact h)
          exact cmp3_lt (by omega)
        have hb1 : decide ((x : Int) < (y : Int)) = true := decide_eq_true (by omega)
        go_wp2_with fail
        refine C1.mono ?_
        rintro e wr ⟨rfl, rfl⟩
        go_wp2_with fail
        refine C2.mono ?_
        rintro e wr ⟨rfl, rfl⟩
        go_wp2
        go_ret
        rw [HV0.out]
        exact ⟨rfl, rfl⟩
      · subst h
        have HI1 : Hid (∀ j, k ≤ j → xs.getD j 0 = ys.getD j 0) := fun j hj => by
          rcases Nat.lt_or_ge k j with h | h
          · exact HI.out j h
          · obtain rfl : j = k := by omega
            rw [Hx.out, Hy.out]
        have hb1 : decide ((x : Int) < (x : Int)) = false := decide_eq_false (by omega)
        have hb2 : decide ((x : Int) > (x : Int)) = false := decide_eq_false (by omega)
        go_wp2_with fail
        refine C1.mono ?_
        rintro e wr ⟨rfl, rfl⟩
        go_wp2_with fail
        refine C2.mono ?_
        rintro e wr ⟨rfl, rfl⟩
        go_wp2
        go_roundw
        case rel => first | exact ⟨k, rfl, by omega, rfl, HI1⟩ | exact ⟨k, rfl, by omega, trivial, HI1⟩
        case measure => simp [intOf]
      · have HV0 : Hid (V = 1) := by
          show _ = _
          rw [← HV.out]
          have := limb_lt' Bs_pos HSY.out k xs.length (by omega) (by omega) (by omega) (fun j hj => (HI.out j hj).symm) (by rw [Hx.out, Hy.out]; exact h)
          exact cmp3_gt (by omega)
        have hb1 : decide ((x : Int) < (y : Int)) = false := decide_eq_false (by omega)
        have hb2 : decide ((x : Int) > (y : Int)) = true := decide_eq_true (by omega)
        go_wp2_with fail
        refine C1.mono ?_
        rintro e wr ⟨rfl, rfl⟩
        go_wp2_with fail
        refine C2.mono ?_
        rintro e wr ⟨rfl, rfl⟩
        go_wp2
        go_ret
        rw [HV0.out]
        exact ⟨rfl, rfl⟩

set_option maxHeartbeats 1000000 in
theorem rcmp_gt (ax ay : Option Addr) (cx cy : Nat) (xs ys : List Nat) (w : World) (hx : Rn w ax xs) (hy : Rn w ay ys) (sx : Sm Bs xs) (sy : Sm Bs ys) (_h1 : xs.length ≤ 1000000000) (_h2 : ys.length ≤ 1000000000) (hgt : xs.length < ys.length) :
    Calls Try.prog 20 #[.slice ax xs.length cx, .slice ay ys.length cy] w fun e w' => e = .returned (.int .i64 (cmp3 (nv Bs xs) (nv Bs ys))) ∧ w' = w := by
  obtain ⟨V, HV⟩ : ∃ V : Int, Hid (cmp3 (nv Bs xs) (nv Bs ys) = V) := ⟨_, rfl⟩
  rw [HV.out]
  have HX : Hid (Rn w ax xs) := hx
  have HY : Hid (Rn w ay ys) := hy
  have HSX : Hid (Sm Bs xs) := sx
  have HSY : Hid (Sm Bs ys) := sy
  have hgB : decide ((ys.length : Int) > (xs.length : Int)) = true := decide_eq_true (by omega)
  have hgN : decide (xs.length < ys.length) = true := decide_eq_true (by omega)
  clear hx hy sx sy
  go_enter Try.func20, Try.ntmps20
  go_wp2
  go_loopw [6, 7, 8] (fun s _ _ wr => ∃ k : Nat, s = .int .i64 ((k : Int) - 1) ∧ k ≤ ys.length ∧ wr = w ∧ Hid (∀ j, k ≤ j → xs.getD j 0 = ys.getD j 0)) (fun s _ _ _ => (intOf s + 1).toNat)
  case atStart => exact ⟨ys.length, rfl, Nat.le_refl _, rfl, fun j hj => by rw [getD_none _ _ (by omega), getD_none _ _ (by omega)]⟩
  case round =>
    obtain ⟨k, rfl, hk, rfl, HI⟩ := hrel
    rcases k with _ | k
    · have HV0 : Hid (V = 0) := by show _ = _; rw [← HV.out, cmp3_eq (by rw [nv_ext xs ys (fun j => HI.out j (Nat.zero_le _))])]
      have e0 : ((0 : Nat) : Int) - 1 = -1 := rfl
      rw [e0]
      go_wp2
      go_ret
      rw [HV0.out]
      exact ⟨rfl, rfl⟩
    · have e0 : ((k + 1 : Nat) : Int) - 1 = (k : Int) := by omega
      rw [e0]
      clear e0
      have C1 := rlimb_any ax xs.length cx k xs wr HX.out HSX.out rfl
      have C2 := rlimb_any ay ys.length cy k ys wr HY.out HSY.out rfl
      obtain ⟨x, Hx⟩ : ∃ x, Hid (xs.getD k 0 = x) := ⟨_, rfl⟩
      obtain ⟨y, Hy⟩ : ∃ y, Hid (ys.getD k 0 = y) := ⟨_, rfl⟩
      rw [Hx.out] at C1
      rw [Hy.out] at C2
      rcases Nat.lt_trichotomy x y with h | h | h
      · have HV0 : Hid (V = -1) := by
          show _ = _
          rw [← HV.out]
          have := limb_lt' Bs_pos HSX.out k ys.length (by omega) (by omega) (by omega) HI.out (by rw [Hx.out, Hy.out]; exact h)
          exact cmp3_lt (by omega)
        have hb1 : decide ((x : Int) < (y : Int)) = true := decide_eq_true (by omega)
        go_wp2_with fail
        refine C1.mono ?_
        rintro e wr ⟨rfl, rfl⟩
        go_wp2_with fail
        refine C2.mono ?_
        rintro e wr ⟨rfl, rfl⟩
        go_wp2
        go_ret
        rw [HV0.out]
        exact ⟨rfl, rfl⟩
      · subst h
        have HI1 : Hid (∀ j, k ≤ j → xs.getD j 0 = ys.getD j 0) := fun j hj => by
          rcases Nat.lt_or_ge k j with h | h
          · exact HI.out j h
          · obtain rfl : j = k := by omega
            rw [Hx.out, Hy.out]
        have hb1 : decide ((x : Int) < (x : Int)) = false := decide_eq_false (by omega)
        have hb2 : decide ((x : Int) > (x : Int)) = false := decide_eq_false (by omega)
        go_wp2_with fail
        refine C1.mono ?_
        rintro e wr ⟨rfl, rfl⟩
        go_wp2_with fail
        refine C2.mono ?_
        rintro e wr ⟨rfl, rfl⟩
        go_wp2
        go_roundw
        case rel => first | exact ⟨k, rfl, by omega, rfl, HI1⟩ | exact ⟨k, rfl, by omega, trivial, HI1⟩
        case measure => simp [intOf]
      · have HV0 : Hid (V = 1) := by
          show _ = _
          rw [← HV.out]
          have := limb_lt' Bs_pos HSY.out k ys.length (by omega) (by omega) (by omega) (fun j hj => (HI.out j hj).symm) (by rw [Hx.out, Hy.out]; exact h)
          exact cmp3_gt (by omega)
        have hb1 : decide ((x : Int) < (y : Int)) = false := decide_eq_false (by omega)
        have hb2 : decide ((x : Int) > (y : Int)) = true := decide_eq_true (by omega)
        go_wp2_with fail
        refine C1.mono ?_
        rintro e wr ⟨rfl, rfl⟩
        go_wp2_with fail
        refine C2.mono ?_
        rintro e wr ⟨rfl, rfl⟩
        go_wp2
        go_ret
        rw [HV0.out]
        exact ⟨rfl, rfl⟩

theorem rcmp_nm (v u : Value) (xs ys : List Nat) (w : World) (hv : Nm w v xs) (hu : Nm w u ys) (h1 : xs.length ≤ 1000000000) (h2 : ys.length ≤ 1000000000) :
    Calls Try.prog 20 #[v, u] w fun e w' => e = .returned (.int .i64 (cmp3 (nv Bs xs) (nv Bs ys))) ∧ w' = w := by
  obtain ⟨ax, cx, rfl, hcx, hx, sx⟩ := hv
  obtain ⟨ay, cy, rfl, hcy, hy, sy⟩ := hu
  rcases Nat.lt_or_ge xs.length ys.length with h | h
  · exact rcmp_gt ax ay cx cy xs ys w hx hy sx sy h1 h2 h
  · exact rcmp_le ax ay cx cy xs ys w hx hy sx sy h1 h2 h

theorem rproper_nm (v : Value) (xs : List Nat) (w : World) (hv : Nm w v xs) (h1 : xs.length ≤ 1000000000) :
    Calls Try.prog 58 #[v] w fun e w' => ∃ r, e = .returned r ∧ Ow w' w.heap.size r (dg Bs (nv Bs xs)) ∧ Below w.heap.size w w' := by
  obtain ⟨ax, cx, rfl, hcx, hx, sx⟩ := hv
  exact rproper_any ax _ cx xs w hx sx rfl h1

/-- What proper makes of a row of one's own. -/
theorem OB.proper {w wr : World} {v : Value} {ds : List Nat} (h : OB w.heap.size w wr v ds) (sd : Sm Bs ds) (hl : ds.length ≤ 1000000000) :
    Calls Try.prog 58 #[v] wr fun e w' => ∃ r, e = .returned r ∧ Ow w' w.heap.size r (dg Bs (nv Bs ds)) ∧ Below w.heap.size w w' := by
  refine (rproper_nm v ds wr (h.own.nm sd) hl).mono ?_
  rintro e w' ⟨r, rfl, h1, h2⟩
  exact ⟨r, rfl, h1.base h.bel.size, h.bel.trans (h2.mono h.bel.size)⟩

set_option maxHeartbeats 1000000 in
theorem radd_any (ax ay : Option Addr) (cx cY : Nat) (xs ys : List Nat) (w : World) (hx : Rn w ax xs) (hy : Rn w ay ys) (sx : Sm Bs xs) (sy : Sm Bs ys) (h1 : xs.length ≤ 100000000) (h2 : ys.length ≤ 100000000) :
    Calls Try.prog 18 #[.slice ax xs.length cx, .slice ay ys.length cY] w fun e w' => ∃ r, e = .returned r ∧ Ow w' w.heap.size r (dg Bs (nv Bs xs + nv Bs ys)) ∧ Below w.heap.size w w' := by
  have HX : Hid (Rn w ax xs) := hx
  have HY : Hid (Rn w ay ys) := hy
  have HSX : Hid (Sm Bs xs) := sx
  have HSY : Hid (Sm Bs ys) := sy
  have HN0 : Hid (OB w.heap.size w w (.slice none 0 0) []) := OB.nil w
  obtain ⟨M, HM⟩ : ∃ M, Hid (M = max xs.length ys.length) := ⟨_, rfl⟩
  have hM1 : xs.length ≤ M := by rw [HM.out]; exact Nat.le_max_left _ _
  have hM2 : ys.length ≤ M := by rw [HM.out]; exact Nat.le_max_right _ _
  have hM3 : M ≤ 100000000 := by rw [HM.out]; exact Nat.max_le.2 ⟨h1, h2⟩
  have HMc : Hid (M = xs.length ∨ M = ys.length) := by show _ ∨ _; rw [HM.out]; omega
  clear hx hy sx sy
  go_enter Try.func18, Try.ntmps18
  go_wp2
  go_loopw [5, 6, 7] (fun s5 s6 s7 wr => ∃ (i cy : Nat) (ds : List Nat), s6 = .int .u64 (cy : Int) ∧ s7 = .int .i64 (i : Int) ∧ i ≤ M ∧ cy ≤ 1 ∧ Hid (OB w.heap.size w wr s5 ds ∧ ds.length = i ∧ Sm Bs ds ∧ nv Bs ds + Bs ^ i * cy = nv Bs (xs.take i) + nv Bs (ys.take i))) (fun _ _ s _ => M - (intOf s).toNat)
  case atStart => exact ⟨0, 0, [], rfl, rfl, Nat.zero_le _, by omega, HN0.out, rfl, Sm.nil _, by simp [nv]⟩
  case round =>
    clear HN0
    obtain ⟨i, cy, ds, rfl, rfl, hi, hcy, HI⟩ := hrel
    have HDl : Hid (ds.length ≤ 1000000000) := by show _ ≤ _; rw [HI.out.2.1]; omega
    by_cases hlt : i < M
    · have C1 := rlimb_any ax xs.length cx i xs wr (HX.out.below HI.out.1.bel (Nat.le_refl _)) HSX.out rfl
      have C2 := rlimb_any ay ys.length cY i ys wr (HY.out.below HI.out.1.bel (Nat.le_refl _)) HSY.out rfl
      obtain ⟨x, Hx⟩ : ∃ x, Hid (xs.getD i 0 = x) := ⟨_, rfl⟩
      obtain ⟨y, Hy⟩ : ∃ y, Hid (ys.getD i 0 = y) := ⟨_, rfl⟩
      have hx : x < 4294967296 := by rw [← Hx.out, ← Bs_eq]; exact HSX.out.getD Bs_pos i
      have hy : y < 4294967296 := by rw [← Hy.out, ← Bs_eq]; exact HSY.out.getD Bs_pos i
      rw [Hx.out] at C1
      rw [Hy.out] at C2
      obtain ⟨t, Ht⟩ : ∃ t, Hid (x + y + cy = t) := ⟨_, rfl⟩
      have ht : t < 8589934592 := by rw [← Ht.out]; omega
      have e0 : IntKind.u64.wrap ((x : Int) + (y : Int)) = ((x + y : Nat) : Int) := by rw [IntKind.wrap_u64]; omega
      have e1 : ((x + y : Nat) : Int) + (cy : Int) = (t : Int) := by have := Ht.out; omega
      have e1' : (x : Int) + (y : Int) + (cy : Int) = (t : Int) := by have := Ht.out; omega
      have e11 : IntKind.u64.wrap (t : Int) = (t : Int) := by rw [IntKind.wrap_u64]; omega
      obtain ⟨z, Hz⟩ : ∃ z, Hid (t % 4294967296 = z) := ⟨_, rfl⟩
      obtain ⟨c', Hc'⟩ : ∃ z, Hid (t / 4294967296 = z) := ⟨_, rfl⟩
      have hz : z < 4294967296 := by rw [← Hz.out]; omega
      have hc' : c' ≤ 1 := by rw [← Hc'.out]; omega
      have e2 : Int.tmod (t : Int) 4294967296 = (z : Int) := by rw [Int.tmod_eq_emod_of_nonneg (by omega), ← Hz.out]; omega
      have e2' : (t : Int) % 4294967296 = (z : Int) := by rw [← Hz.out]; omega
      have e3 : Int.tdiv (t : Int) 4294967296 = (c' : Int) := by rw [Int.tdiv_eq_ediv_of_nonneg (by omega), ← Hc'.out]; omega
      have e3' : (t : Int) / 4294967296 = (c' : Int) := by rw [← Hc'.out]; omega
      have e5 : IntKind.u32.wrap (z : Int) = (z : Int) := by rw [IntKind.wrap_u32]; omega
      have HN : Hid ((ds ++ [z]).length = i + 1 ∧ Sm Bs (ds ++ [z]) ∧ nv Bs (ds ++ [z]) + Bs ^ (i + 1) * c' = nv Bs (xs.take (i + 1)) + nv Bs (ys.take (i + 1))) := by
        refine ⟨by rw [List.length_append, HI.out.2.1]; rfl, HI.out.2.2.1.snoc (by rw [Bs_eq]; omega), ?_⟩
        rw [nv_snoc, nv_take_succ, nv_take_succ, HI.out.2.1, Hx.out, Hy.out, Nat.pow_succ]
        exact add_step _ _ _ _ _ _ _ _ _ _ HI.out.2.2.2 (by have := Ht.out; have := Hz.out; have := Hc'.out; rw [Bs_eq]; omega)
      clear Hz Hc'
      by_cases hix : i < xs.length
      · skip
        have hc1 : decide ((i : Int) < (xs.length : Int)) = true := decide_eq_true (by omega)
        go_wp2_with fail
        refine C1.mono ?_
        clear C1
        rintro e wr ⟨rfl, rfl⟩
        go_wp2_with fail
        refine C2.mono ?_
        clear C2
        rintro e wr ⟨rfl, rfl⟩
        go_wp2_with (at_builtin; refine append_one (w := w) rfl (.tmp 30) (.tmp 34) rfl w.heap.size _ ds z rfl HI.out.1 rfl HDl.out (Nat.le_refl _) ?_; intro v5 w5 h5)
        have HO : Hid (OB w.heap.size w w5 v5 (ds ++ [z])) := h5
        clear h5
        go_wp2
        go_roundw
        case rel =>
          exact ⟨i + 1, c', ds ++ [z], rfl, by go_num, by omega, hc', HO.out, HN.out⟩
        case measure => simp [intOf]; omega
      · have hiy : i < ys.length := by have := HMc.out; omega
        have hc1 : decide ((i : Int) < (xs.length : Int)) = false := decide_eq_false (by omega)
        have hc2 : decide ((i : Int) < (ys.length : Int)) = true := decide_eq_true (by omega)
        go_wp2_with fail
        refine C1.mono ?_
        clear C1
        rintro e wr ⟨rfl, rfl⟩
        go_wp2_with fail
        refine C2.mono ?_
        clear C2
        rintro e wr ⟨rfl, rfl⟩
        go_wp2_with (at_builtin; refine append_one (w := w) rfl (.tmp 30) (.tmp 34) rfl w.heap.size _ ds z rfl HI.out.1 rfl HDl.out (Nat.le_refl _) ?_; intro v5 w5 h5)
        have HO : Hid (OB w.heap.size w w5 v5 (ds ++ [z])) := h5
        clear h5
        go_wp2
        go_roundw
        case rel =>
          exact ⟨i + 1, c', ds ++ [z], rfl, by go_num, by omega, hc', HO.out, HN.out⟩
        case measure => simp [intOf]; omega
    · obtain rfl : i = M := by omega
      have hc1 : decide ((i : Int) < (xs.length : Int)) = false := decide_eq_false (by omega)
      have hc2 : decide ((i : Int) < (ys.length : Int)) = false := decide_eq_false (by omega)
      have e3 : IntKind.u32.wrap (cy : Int) = (cy : Int) := by rw [IntKind.wrap_u32]; omega
      have hval := HI.out.2.2.2
      rw [List.take_of_length_le hM1, List.take_of_length_le hM2] at hval
      have HV : Hid (nv Bs (ds ++ [cy]) = nv Bs xs + nv Bs ys) := by show _ = _; rw [nv_snoc, HI.out.2.1]; exact hval
      clear hval
      go_wp2_with (at_builtin; refine append_one (w := w) rfl (.tmp 38) (.tmp 41) rfl w.heap.size _ ds cy rfl HI.out.1 rfl HDl.out (Nat.le_refl _) ?_; intro v5 w5 h5)
      have C := h5.proper (HI.out.2.2.1.snoc (by rw [Bs_eq]; omega)) (by rw [List.length_append, HI.out.2.1]; simp; omega)
      rw [HV.out] at C
      clear h5
      go_wp2_with fail
      refine C.mono ?_
      clear C
      rintro e w6 ⟨r, rfl, h6, h7⟩
      have HR : Hid (Ow w6 w.heap.size r (dg Bs (nv Bs xs + nv Bs ys)) ∧ Below w.heap.size w w6) := ⟨h6, h7⟩
      clear h6 h7
      go_wp2
      go_ret
      exact ⟨r, rfl, HR.out⟩

theorem radd_nm (v u : Value) (xs ys : List Nat) (w : World) (hv : Nm w v xs) (hu : Nm w u ys) (h1 : xs.length ≤ 100000000) (h2 : ys.length ≤ 100000000) :
    Calls Try.prog 18 #[v, u] w fun e w' => ∃ r, e = .returned r ∧ Ow w' w.heap.size r (dg Bs (nv Bs xs + nv Bs ys)) ∧ Below w.heap.size w w' := by
  obtain ⟨ax, cx, rfl, hcx, hx, sx⟩ := hv
  obtain ⟨ay, cy, rfl, hcy, hy, sy⟩ := hu
  exact radd_any ax ay cx cy xs ys w hx hy sx sy h1 h2

end Go.Proofs.Ytkkcmfkegbdgjaa
