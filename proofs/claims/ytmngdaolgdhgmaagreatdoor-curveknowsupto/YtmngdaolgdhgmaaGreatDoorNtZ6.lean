import Derived.Test.YtmngdaolgdhgmaaGreatDoorNtZ5
import Derived.Test.YtmngdaolgdhgmaaGreatDoorNtZ4
namespace Go.Proofs.YtmngdaolgdhgmaaGreatDoor
open Go.RowKit

theorem take_lt {B : Nat} (xs ys : List Nat) (k m : Nat) (hm : k ≤ m) (h : nv B (xs.take k) < nv B (ys.take k)) (he : ∀ j, k ≤ j → xs.getD j 0 = ys.getD j 0) : nv B (xs.take m) < nv B (ys.take m) := by
  induction m with
  | zero => rw [show k = 0 by omega] at h; exact h
  | succ m ih =>
    rcases Nat.lt_or_ge m k with h1 | h1
    · rw [show m + 1 = k by omega]; exact h
    · rw [nv_take_succ, nv_take_succ, he m h1]
      have := ih h1
      omega
theorem limb_lt' {B : Nat} (hB : 0 < B) {xs ys : List Nat} (sx : Sm B xs) (k m : Nat) (hm : k < m) (hx : xs.length ≤ m) (hy : ys.length ≤ m) (he : ∀ j, k + 1 ≤ j → xs.getD j 0 = ys.getD j 0) (h : xs.getD k 0 < ys.getD k 0) : nv B xs < nv B ys := by
  have h1 : nv B (xs.take (k + 1)) < nv B (ys.take (k + 1)) := by
    rw [nv_take_succ, nv_take_succ]
    have h2 := nv_lt hB (sx.take k)
    have h3 : B ^ (xs.take k).length ≤ B ^ k := Nat.pow_le_pow_right hB (by rw [List.length_take]; omega)
    have h4 : B ^ k * (xs.getD k 0 + 1) ≤ B ^ k * ys.getD k 0 := Nat.mul_le_mul_left _ h
    rw [Nat.mul_add, Nat.mul_one] at h4
    omega
  have := take_lt xs ys (k + 1) m (by omega) h1 he
  rwa [List.take_of_length_le hx, List.take_of_length_le hy] at this
theorem nv_ext {B : Nat} (xs ys : List Nat) (he : ∀ j, xs.getD j 0 = ys.getD j 0) : nv B xs = nv B ys := by
  have h : ∀ m, nv B (xs.take m) = nv B (ys.take m) := fun m => by
    induction m with
    | zero => simp
    | succ m ih => rw [nv_take_succ, nv_take_succ, ih, he m]
  have := h (xs.length + ys.length)
  rwa [List.take_of_length_le (by omega), List.take_of_length_le (by omega)] at this
theorem nv_low {B : Nat} (_hB : 0 < B) (ys : List Nat) (n : Nat) (h : nv B ys < B ^ n) : nv B (ys.take n) = nv B ys := by
  rcases Nat.lt_or_ge n ys.length with h1 | h1
  · have e := nv_split B ys n (by omega)
    rcases Nat.eq_zero_or_pos (nv B (ys.drop n)) with h2 | h2
    · rw [h2, Nat.mul_zero, Nat.add_zero] at e; exact e.symm
    · exfalso
      have : B ^ n * 1 ≤ B ^ n * nv B (ys.drop n) := Nat.mul_le_mul_left _ h2
      omega
  · rw [List.take_of_length_le h1]

set_option maxHeartbeats 1000000 in
theorem rcmp_le (ax ay : Option Addr) (cx cy : Nat) (xs ys : List Nat) (w : World) (hx : Rn w ax xs) (hy : Rn w ay ys) (sx : Sm Bs xs) (sy : Sm Bs ys) (_h1 : xs.length ≤ 1000000000) (_h2 : ys.length ≤ 1000000000) (hgt : ys.length ≤ xs.length) :
    Calls Tryz.prog 45 #[.slice ax xs.length cx, .slice ay ys.length cy] w fun e w' => e = .returned (.int .i64 (cmp3 (nv Bs xs) (nv Bs ys))) ∧ w' = w := by
  obtain ⟨V, HV⟩ : ∃ V : Int, Hid (cmp3 (nv Bs xs) (nv Bs ys) = V) := ⟨_, rfl⟩
  rw [HV.out]
  have HX : Hid (Rn w ax xs) := hx
  have HY : Hid (Rn w ay ys) := hy
  have HSX : Hid (Sm Bs xs) := sx
  have HSY : Hid (Sm Bs ys) := sy
  have hgB : decide ((ys.length : Int) > (xs.length : Int)) = false := decide_eq_false (by omega)
  have hgN : decide (xs.length < ys.length) = false := decide_eq_false (by omega)
  clear hx hy sx sy
  go_enter Tryz.func45, Tryz.ntmps45
  go_wp2
  go_loopw [6, 7, 8] (fun s _ _ wr => ∃ k : Nat, s = .int .i64 ((k : Int) - 1) ∧ k ≤ xs.length ∧ wr = w ∧ Hid (∀ j, k ≤ j → xs.getD j 0 = ys.getD j 0)) (fun s _ _ _ => (intOf s + 1).toNat)
  case atStart => exact ⟨xs.length, rfl, Nat.le_refl _, rfl, fun j hj => by rw [getD_none _ _ (by omega), getD_none _ _ (by omega)]⟩
  case round =>
    obtain ⟨k, rfl, hk, rfl, HI⟩ := hrel
    rcases k with _ | k
    · have HV0 : Hid (V = 0) := by show _ = _; rw [← HV.out, cmp3_eq (by rw [nv_ext xs ys (fun j => HI.out j (Nat.zero_le _))])]
      have e0 : ((0 : Nat) : Int) - 1 = -1 := rfl
      rw [e0]
      go_wp2
      go_ret
      rw [HV0.out]
      exact ⟨rfl, rfl⟩
    · have e0 : ((k + 1 : Nat) : Int) - 1 = (k : Int) := by omega
      rw [e0]
      clear e0
      have C1 := rlimb_any ax xs.length cx k xs wr HX.out HSX.out rfl
      have C2 := rlimb_any ay ys.length cy k ys wr HY.out HSY.out rfl
      obtain ⟨x, Hx⟩ : ∃ x, Hid (xs.getD k 0 = x) := ⟨_, rfl⟩
      obtain ⟨y, Hy⟩ : ∃ y, Hid (ys.getD k 0 = y) := ⟨_, rfl⟩
      rw [Hx.out] at C1
      rw [Hy.out] at C2
      rcases Nat.lt_trichotomy x y with h | h | h
      · have HV0 : Hid (V = -1) := by
          show _ = _
          rw [← HV.out]
          have := limb_lt' Bs_pos HSX.out k xs.length (by omega) (by omega) (by omega) HI.out (by rw [Hx.out, Hy.out]; exact h)
          exact cmp3_lt (by omega)
        have hb1 : decide ((x : Int) < (y : Int)) = true := decide_eq_true (by omega)
        go_wp2_with fail
        refine C1.mono ?_
        rintro e wr ⟨rfl, rfl⟩
        go_wp2_with fail
        refine C2.mono ?_
        rintro e wr ⟨rfl, rfl⟩
        go_wp2
        go_ret
        rw [HV0.out]
        exact ⟨rfl, rfl⟩
      · subst h
        have HI1 : Hid (∀ j, k ≤ j → xs.getD j 0 = ys.getD j 0) := fun j hj => by
          rcases Nat.lt_or_ge k j with h | h
          · exact HI.out j h
          · obtain rfl : j = k := by omega
            rw [Hx.out, Hy.out]
        have hb1 : decide ((x : Int) < (x : Int)) = false := decide_eq_false (by omega)
        have hb2 : decide ((x : Int) > (x : Int)) = false := decide_eq_false (by omega)
        go_wp2_with fail
        refine C1.mono ?_
        rintro e wr ⟨rfl, rfl⟩
        go_wp2_with fail
        refine C2.mono ?_
        rintro e wr ⟨rfl, rfl⟩
        go_wp2
        go_roundw
        case rel => first | exact ⟨k, rfl, by omega, rfl, HI1⟩ | exact ⟨k, rfl, by omega, trivial, HI1⟩
        case measure => simp [intOf]
      · have HV0 : Hid (V = 1) := by
          show _ = _
          rw [← HV.out]
          have := limb_lt' Bs_pos HSY.out k xs.length (by omega) (by omega) (by omega) (fun j hj => (HI.out j hj).symm) (by rw [Hx.out, Hy.out]; exact h)
          exact cmp3_gt (by omega)
        have hb1 : decide ((x : Int) < (y : Int)) = false := decide_eq_false (by omega)
        have hb2 : decide ((x : Int) > (y : Int)) = true := decide_eq_true (by omega)
        go_wp2_with fail
        refine C1.mono ?_
        rintro e wr ⟨rfl, rfl⟩
        go_wp2_with fail
        refine C2.mono ?_
        rintro e wr ⟨rfl, rfl⟩
        go_wp2
        go_ret
        rw [HV0.out]
        exact ⟨rfl, rfl⟩

set_option maxHeartbeats 1000000 in
theorem rcmp_gt (ax ay : Option Addr) (cx cy : Nat) (xs ys : List Nat) (w : World) (hx : Rn w ax xs) (hy : Rn w ay ys) (sx : Sm Bs xs) (sy : Sm Bs ys) (_h1 : xs.length ≤ 1000000000) (_h2 : ys.length ≤ 1000000000) (hgt : xs.length < ys.length) :
    Calls Tryz.prog 45 #[.slice ax xs.length cx, .slice ay ys.length cy] w fun e w' => e = .returned (.int .i64 (cmp3 (nv Bs xs) (nv Bs ys))) ∧ w' = w := by
  obtain ⟨V, HV⟩ : ∃ V : Int, Hid (cmp3 (nv Bs xs) (nv Bs ys) = V) := ⟨_, rfl⟩
  rw [HV.out]
  have HX : Hid (Rn w ax xs) := hx
  have HY : Hid (Rn w ay ys) := hy
  have HSX : Hid (Sm Bs xs) := sx
  have HSY : Hid (Sm Bs ys) := sy
  have hgB : decide ((ys.length : Int) > (xs.length : Int)) = true := decide_eq_true (by omega)
  have hgN : decide (xs.length < ys.length) = true := decide_eq_true (by omega)
  clear hx hy sx sy
  go_enter Tryz.func45, Tryz.ntmps45
  go_wp2
  go_loopw [6, 7, 8] (fun s _ _ wr => ∃ k : Nat, s = .int .i64 ((k : Int) - 1) ∧ k ≤ ys.length ∧ wr = w ∧ Hid (∀ j, k ≤ j → xs.getD j 0 = ys.getD j 0)) (fun s _ _ _ => (intOf s + 1).toNat)
  case atStart => exact ⟨ys.length, rfl, Nat.le_refl _, rfl, fun j hj => by rw [getD_none _ _ (by omega), getD_none _ _ (by omega)]⟩
  case round =>
    obtain ⟨k, rfl, hk, rfl, HI⟩ := hrel
    rcases k with _ | k
    · have HV0 : Hid (V = 0) := by show _ = _; rw [← HV.out, cmp3_eq (by rw [nv_ext xs ys (fun j => HI.out j (Nat.zero_le _))])]
      have e0 : ((0 : Nat) : Int) - 1 = -1 := rfl
      rw [e0]
      go_wp2
      go_ret
      rw [HV0.out]
      exact ⟨rfl, rfl⟩
    · have e0 : ((k + 1 : Nat) : Int) - 1 = (k : Int) := by omega
      rw [e0]
      clear e0
      have C1 := rlimb_any ax xs.length cx k xs wr HX.out HSX.out rfl
      have C2 := rlimb_any ay ys.length cy k ys wr HY.out HSY.out rfl
      obtain ⟨x, Hx⟩ : ∃ x, Hid (xs.getD k 0 = x) := ⟨_, rfl⟩
      obtain ⟨y, Hy⟩ : ∃ y, Hid (ys.getD k 0 = y) := ⟨_, rfl⟩
      rw [Hx.out] at C1
      rw [Hy.out] at C2
      rcases Nat.lt_trichotomy x y with h | h | h
      · have HV0 : Hid (V = -1) := by
          show _ = _
          rw [← HV.out]
          have := limb_lt' Bs_pos HSX.out k ys.length (by omega) (by omega) (by omega) HI.out (by rw [Hx.out, Hy.out]; exact h)
          exact cmp3_lt (by omega)
        have hb1 : decide ((x : Int) < (y : Int)) = true := decide_eq_true (by omega)
        go_wp2_with fail
        refine C1.mono ?_
        rintro e wr ⟨rfl, rfl⟩
        go_wp2_with fail
        refine C2.mono ?_
        rintro e wr ⟨rfl, rfl⟩
        go_wp2
        go_ret
        rw [HV0.out]
        exact ⟨rfl, rfl⟩
      · subst h
        have HI1 : Hid (∀ j, k ≤ j → xs.getD j 0 = ys.getD j 0) := fun j hj => by
          rcases Nat.lt_or_ge k j with h | h
          · exact HI.out j h
          · obtain rfl : j = k := by omega
            rw [Hx.out, Hy.out]
        have hb1 : decide ((x : Int) < (x : Int)) = false := decide_eq_false (by omega)
        have hb2 : decide ((x : Int) > (x : Int)) = false := decide_eq_false (by omega)
        go_wp2_with fail
        refine C1.mono ?_
        rintro e wr ⟨rfl, rfl⟩
        go_wp2_with fail
        refine C2.mono ?_
        rintro e wr ⟨rfl, rfl⟩
        go_wp2
        go_roundw
        case rel => first | exact ⟨k, rfl, by omega, rfl, HI1⟩ | exact ⟨k, rfl, by omega, trivial, HI1⟩
        case measure => simp [intOf]
      · have HV0 : Hid (V = 1) := by
          show _ = _
          rw [← HV.out]
          have := limb_lt' Bs_pos HSY.out k ys.length (by omega) (by omega) (by omega) (fun j hj => (HI.out j hj).symm) (by rw [Hx.out, Hy.out]; exact h)
          exact cmp3_gt (by omega)
        have hb1 : decide ((x : Int) < (y : Int)) = false := decide_eq_false (by omega)
        have hb2 : decide ((x : Int) > (y : Int)) = true := decide_eq_true (by omega)
        go_wp2_with fail
        refine C1.mono ?_
        rintro e wr ⟨rfl, rfl⟩
        go_wp2_with fail
        refine C2.mono ?_
        rintro e wr ⟨rfl, rfl⟩
        go_wp2
        go_ret
        rw [HV0.out]
        exact ⟨rfl, rfl⟩

theorem rcmp_nm (v u : Value) (xs ys : List Nat) (w : World) (hv : Nm w v xs) (hu : Nm w u ys) (h1 : xs.length ≤ 1000000000) (h2 : ys.length ≤ 1000000000) :
    Calls Tryz.prog 45 #[v, u] w fun e w' => e = .returned (.int .i64 (cmp3 (nv Bs xs) (nv Bs ys))) ∧ w' = w := by
  obtain ⟨ax, cx, rfl, hcx, hx, sx⟩ := hv
  obtain ⟨ay, cy, rfl, hcy, hy, sy⟩ := hu
  rcases Nat.lt_or_ge xs.length ys.length with h | h
  · exact rcmp_gt ax ay cx cy xs ys w hx hy sx sy h1 h2 h
  · exact rcmp_le ax ay cx cy xs ys w hx hy sx sy h1 h2 h

theorem rproper_nm (v : Value) (xs : List Nat) (w : World) (hv : Nm w v xs) (h1 : xs.length ≤ 1000000000) :
    Calls Tryz.prog 91 #[v] w fun e w' => ∃ r, e = .returned r ∧ Ow w' w.heap.size r (dg Bs (nv Bs xs)) ∧ Below w.heap.size w w' := by
  obtain ⟨ax, cx, rfl, hcx, hx, sx⟩ := hv
  exact rproper_any ax _ cx xs w hx sx rfl h1

/-- What proper makes of a row of one's own. -/
theorem OB.proper {w wr : World} {v : Value} {ds : List Nat} (h : OB w.heap.size w wr v ds) (sd : Sm Bs ds) (hl : ds.length ≤ 1000000000) :
    Calls Tryz.prog 91 #[v] wr fun e w' => ∃ r, e = .returned r ∧ Ow w' w.heap.size r (dg Bs (nv Bs ds)) ∧ Below w.heap.size w w' := by
  refine (rproper_nm v ds wr (h.own.nm sd) hl).mono ?_
  rintro e w' ⟨r, rfl, h1, h2⟩
  exact ⟨r, rfl, h1.base h.bel.size, h.bel.trans (h2.mono h.bel.size)⟩

end Go.Proofs.YtmngdaolgdhgmaaGreatDoor

namespace Go.Proofs.YtmngdaolgdhgmaaGreatDoor
open Go.RowKit

theorem sub_limb (x y bw : Nat) (hx : x < 4294967296) (hy : y < 4294967296) (hb : bw ≤ 1) : ∃ z b' : Nat, z < 4294967296 ∧ b' ≤ 1 ∧ z + bw + 1 * y = x + 4294967296 * b' ∧ (x < y + bw → b' = 1 ∧ (x : Int) + 4294967296 - ((y + bw : Nat) : Int) = (z : Int)) ∧ (¬ x < y + bw → b' = 0 ∧ (x : Int) - ((y + bw : Nat) : Int) = (z : Int)) := by
  by_cases h : x < y + bw
  · exact ⟨x + 4294967296 - (y + bw), 1, by omega, by omega, by omega, fun _ => ⟨rfl, by omega⟩, fun h2 => absurd h h2⟩
  · exact ⟨x - (y + bw), 0, by omega, by omega, by omega, fun h2 => absurd h2 h, fun _ => ⟨rfl, by omega⟩⟩

theorem times_step (B p A c X x v c' d Z q : Nat) (h : A + p * c = Z * (d * X)) (hs : v + B * c' = x * d + c) (hp : p = Z * q) : (A + p * v) + (p * B) * c' = Z * (d * (X + q * x)) := by
  have h1 := congrArg (p * ·) hs
  have h2 : Z * (d * (q * x)) = p * (x * d) := by rw [hp]; ac_rfl
  rw [Nat.mul_add, Nat.mul_add, h2]
  simp only [Nat.mul_add, ← Nat.mul_assoc] at h1 h ⊢
  omega

end Go.Proofs.YtmngdaolgdhgmaaGreatDoor

namespace Go.Proofs.YtmngdaolgdhgmaaGreatDoor
open Go.RowKit

theorem proper_of_ge {B : Nat} (hB : 2 ≤ B) {L : List Nat} (hs : Sm B L) (m : Nat) (hl : L.length = m + 1) (h : B ^ m ≤ nv B L) : L = dg B (nv B L) := by
  have h1 := trim_dg hB hs
  have h2 := tl_le L
  have h3 := dg_up hB (nv B L)
  rw [← h1, List.length_take, Nat.min_eq_left h2] at h3
  rcases Nat.lt_or_ge (tl L) (m + 1) with h4 | h4
  · exfalso
    have : B ^ tl L ≤ B ^ m := Nat.pow_le_pow_right (by omega) (by omega)
    omega
  · rw [List.take_of_length_le (by omega)] at h1
    exact h1

theorem bl_half (u : Nat) (h : u ≠ 0) : bl u = bl (u / 2) + 1 := by
  by_cases h1 : u / 2 = 0
  · obtain rfl : u = 1 := by omega
    rfl
  · have := bl_shift u 1 (by rw [Nat.pow_one]; exact h1)
    rw [Nat.pow_one] at this
    exact this

set_option maxHeartbeats 1000000 in
theorem rbits_nm (v : Value) (xs : List Nat) (w : World) (hv : Nm w v xs) (h1 : xs.length ≤ 100000000) :
    Calls Tryz.prog 95 #[v] w fun e w' => e = .returned (.int .i64 ((bl (nv Bs xs) : Nat) : Int)) ∧ Below w.heap.size w w' := by
  have C := rproper_nm v xs w hv (by omega)
  have L1 : Hid ((dg Bs (nv Bs xs)).length ≤ 100000000) := dgl_arg xs _ hv.sm h1
  clear hv
  go_enter Tryz.func95, Tryz.ntmps95
  go_wp2_with fail
  refine C.mono ?_
  clear C
  rintro e w1 ⟨r, rfl, h2, h3⟩
  have HB : Hid (Below w.heap.size w w1) := h3
  obtain ⟨ao, c, rfl, _, hr, hs⟩ := h2.nm (dg_sm Bs_two _)
  rcases Nat.eq_zero_or_pos (dg Bs (nv Bs xs)).length with h0 | h0
  · have HV : Hid (bl (nv Bs xs) = 0) := by
      have h5 := dg_nv Bs_two (nv Bs xs)
      rw [List.eq_nil_of_length_eq_zero h0] at h5
      show _ = _
      rw [← h5]
      rfl
    rw [h0]
    clear h2 h3 hr hs h0
    go_wp2
    go_ret
    rw [HV.out]
    exact ⟨rfl, HB.out⟩
  · obtain ⟨m, hm⟩ : ∃ m, (dg Bs (nv Bs xs)).length = m + 1 := ⟨(dg Bs (nv Bs xs)).length - 1, by omega⟩
    have ht := dg_top Bs_two (nv Bs xs) m hm
    have HV := bl_limbs (dg Bs (nv Bs xs)) m (dg_sm Bs_two _) hm ht
    rw [dg_nv Bs_two] at HV
    obtain ⟨g, off, rfl, _, cc⟩ := hr.cell h0
    have c1 := cc m (by omega)
    have htb : (dg Bs (nv Bs xs)).getD m 0 < 4294967296 := by rw [← Bs_eq]; exact (dg_sm Bs_two _).getD Bs_pos m
    generalize (dg Bs (nv Bs xs)).getD m 0 = t at c1 HV htb ht
    have hmb : m ≤ 100000000 := by have := L1.out; omega
    have HVV : Hid (bl (nv Bs xs) = m * 32 + bl t) := HV
    have hbt : bl t ≤ 32 := by
      have h5 : bl t ≤ bl 4294967295 := bl_mono (by omega)
      exact Nat.le_trans h5 (by decide)
    rw [hm]
    have e1 : ((m + 1 : Nat) : Int) - 1 = (m : Int) := by omega
    clear h2 h3 hr hs h0 cc HV ht hm
    go_wp2
    clear c1
    go_loop [4, 5] (fun s4 s5 => ∃ (o u : Nat), s4 = .int .i64 (o : Int) ∧ s5 = .int .u32 (u : Int) ∧ u ≤ t ∧ o ≤ 10000000000 ∧ Hid (o + bl u = m * 32 + bl t)) (fun _ s => (intOf s).toNat)
    case atStart => exact ⟨m * 32, t, by first | rfl | (congr 1; omega), rfl, Nat.le_refl _, by omega, rfl⟩
    case round =>
      obtain ⟨o, u, rfl, rfl, hu, ho, HI⟩ := hrel
      by_cases h0 : u = 0
      · subst h0
        rw [show ((0 : Nat) : Int) = 0 from rfl]
        go_wp2
        go_ret
        have := HI.out
        rw [bl_zero, Nat.add_zero] at this
        rw [HVV.out, ← this]
        exact ⟨rfl, HB.out⟩
      · have hb1 : decide ((u : Int) > 0) = true := decide_eq_true (by omega)
        have hb2 : decide ((0 : Int) < (u : Int)) = true := decide_eq_true (by omega)
        have hb3 : decide (0 < u) = true := decide_eq_true (by omega)
        have HN : Hid (o + 1 + bl (u / 2) = m * 32 + bl t) := by
          have := HI.out
          rw [bl_half u h0] at this
          show _ = _
          omega
        have hob : o + 1 ≤ 10000000000 := by have := HN.out; omega
        have ed : Int.tdiv (u : Int) 2 = ((u / 2 : Nat) : Int) := by rw [Int.tdiv_eq_ediv_of_nonneg (by omega)]; omega
        go_wp2
        go_round
        case rel =>
          have e2 : (u : Int) / 2 = ((u / 2 : Nat) : Int) := by omega
          exact ⟨o + 1, u / 2, by go_num, by first | rfl | (rw [e2]), by omega, hob, HN⟩
        case measure => simp [intOf]; omega

theorem bit_div (xs : List Nat) (hs : Sm Bs xs) (q s : Nat) : nv Bs xs / 2 ^ (32 * q + s) % 2 = xs.getD q 0 / 2 ^ s % 2 ∨ 32 ≤ s := by
  rcases Nat.lt_or_ge s 32 with h | h
  · left
    rw [nv_getD Bs_pos hs q, Nat.pow_add, Nat.pow_mul, show (2 : Nat) ^ 32 = Bs from rfl, ← Nat.div_div_eq_div_mul]
    generalize nv Bs xs / Bs ^ q = N
    have e : Bs = 2 ^ s * 2 ^ (32 - s) := by rw [← Nat.pow_add, show s + (32 - s) = 32 by omega]; rfl
    rw [e, Nat.mod_mul_right_div_self, Nat.mod_mod_of_dvd]
    exact ⟨2 ^ (32 - s - 1), by rw [← Nat.pow_succ', show (32 - s - 1).succ = 32 - s by omega]⟩
  · exact .inr h

set_option maxHeartbeats 1000000 in
theorem rbit_any (ao : Option Addr) (c k : Nat) (xs : List Nat) (w : World) (hx : Rn w ao xs) (sx : Sm Bs xs) (hl : xs.length ≤ 100000000) (hk : k ≤ 9223372036854775807) :
    Calls Tryz.prog 96 #[.slice ao xs.length c, .int .i64 (k : Int)] w fun e w' => e = .returned (.bool (decide (nv Bs xs / 2 ^ k % 2 = 1))) ∧ w' = w := by
  obtain ⟨q, hq⟩ : ∃ q, k / 32 = q := ⟨_, rfl⟩
  obtain ⟨s, hs⟩ : ∃ s, k % 32 = s := ⟨_, rfl⟩
  have hs32 : s < 32 := by omega
  have eq1 : Int.tdiv (k : Int) 32 = (q : Int) := by rw [Int.tdiv_eq_ediv_of_nonneg (by omega)]; omega
  have eq2 : (k : Int) / 32 = (q : Int) := by omega
  have es1 : Int.tmod (k : Int) 32 = (s : Int) := by rw [Int.tmod_eq_emod_of_nonneg (by omega)]; omega
  have es2 : (k : Int) % 32 = (s : Int) := by omega
  have hq64 : q ≤ 288230376151711744 := by omega
  have eqw : wrap64 (q : Int) = (q : Int) := by unfold wrap64; omega
  have hk0 : decide ((k : Int) < 0) = false := decide_eq_false (by omega)
  have HV : Hid (nv Bs xs / 2 ^ k % 2 = xs.getD q 0 / 2 ^ s % 2) := by
    have := bit_div xs sx q s
    rw [show 32 * q + s = k by omega] at this
    rcases this with h | h
    · exact h
    · omega
  clear hq hs
  by_cases hlt : q < xs.length
  · obtain ⟨g, off, rfl, _, cc⟩ := hx.cell (by omega)
    have c1 := cc q hlt
    obtain ⟨x, Hx⟩ : ∃ x, Hid (xs.getD q 0 = x) := ⟨_, rfl⟩
    rw [Hx.out] at c1 HV
    have hxb : x < 4294967296 := by rw [← Hx.out, ← Bs_eq]; exact sx.getD Bs_pos q
    have hge : decide ((q : Int) ≥ (xs.length : Int)) = false := decide_eq_false (by omega)
    have hge2 : decide (xs.length ≤ q) = false := decide_eq_false (by omega)
    clear cc hx sx
    go_enter Tryz.func96, Tryz.ntmps96
    go_wp2
    clear c1
    go_loop [5, 6] (fun s5 s6 => ∃ (j u : Nat), s5 = .int .u32 (u : Int) ∧ s6 = .int .i64 (j : Int) ∧ j ≤ s ∧ u < 4294967296 ∧ Hid (u = x / 2 ^ j)) (fun _ t => s - (intOf t).toNat)
    case atStart => exact ⟨0, x, rfl, rfl, Nat.zero_le _, hxb, by rw [Nat.pow_zero, Nat.div_one]; rfl⟩
    case round =>
      obtain ⟨j, u, rfl, rfl, hj, hu, HI⟩ := hrel
      by_cases hjs : j < s
      · have HN : Hid (u / 2 = x / 2 ^ (j + 1)) := by show _ = _; rw [HI.out, Nat.div_div_eq_div_mul, Nat.pow_succ]
        have ed : Int.tdiv (u : Int) 2 = ((u / 2 : Nat) : Int) := by rw [Int.tdiv_eq_ediv_of_nonneg (by omega)]; omega
        have hjI : (j : Int) < (s : Int) := by omega
        go_wp2
        go_round
        case rel =>
          have e2 : (u : Int) / 2 = ((u / 2 : Nat) : Int) := by omega
          exact ⟨j + 1, u / 2, by first | rfl | (rw [e2]), by go_num, by omega, by omega, HN⟩
        case measure => simp [intOf]; omega
      · obtain rfl : j = s := by omega
        have HU : Hid (nv Bs xs / 2 ^ k % 2 = u % 2) := by show _ = _; rw [HV.out, HI.out]
        have hjI : ¬ (j : Int) < (j : Int) := by omega
        have em : Int.tmod (u : Int) 2 = ((u % 2 : Nat) : Int) := by rw [Int.tmod_eq_emod_of_nonneg (by omega)]; omega
        go_wp2
        go_ret
        refine ⟨?_, rfl⟩
        rw [HU.out]
        congr 2
        rcases Nat.mod_two_eq_zero_or_one u with h | h
        · have e2 : (u : Int) % 2 = 0 := by omega
          simp [h, e2]
        · have e2 : (u : Int) % 2 = 1 := by omega
          simp [h, e2]
  · have HF : Hid (nv Bs xs / 2 ^ k % 2 = 0) := by show _ = _; rw [HV.out, getD_none _ _ (by omega), Nat.zero_div]
    have hge : decide ((q : Int) ≥ (xs.length : Int)) = true := decide_eq_true (by omega)
    have hge2 : decide (xs.length ≤ q) = true := decide_eq_true (by omega)
    clear hx sx HV
    go_enter Tryz.func96, Tryz.ntmps96
    go_wp2
    go_ret
    rw [HF.out]
    exact ⟨rfl, rfl⟩

end Go.Proofs.YtmngdaolgdhgmaaGreatDoor

namespace Go.Proofs.YtmngdaolgdhgmaaGreatDoor
open Go.RowKit

/-- The n lowest bytes of a number, the most significant first. -/
def tobe (n N : Nat) : List UInt8 := (List.range n).map fun i => UInt8.ofNat (N / 256 ^ (n - 1 - i) % 256)
theorem tobe_length (n N : Nat) : (tobe n N).length = n := by simp [tobe]

theorem madeB (w : World) (n : Nat) (hn : n ≤ 10000000000) : ∃ wm, (Instr.makeSlice 41 (.int .i64 (n : Int)) (.int .i64 (n : Int))).run Tryz.prog w = .ok (.slice (some ⟨w.heap.size, 0, none⟩) n n) wm ∧ Bl 5 wm w.heap.size ((List.replicate n (0 : UInt8)).map B) ∧ Below w.heap.size w wm := by
  obtain ⟨i0, hi, hz0, hz1, hz2⟩ := info_parts infoB
  refine ⟨w.alloc (.cells ((List.replicate n (0 : UInt8)).map B).toArray 5), ?_, alloc_bl _ _ _, alloc_below _ _⟩
  rw [run_make w 41 5 i0 (.int .u8 0) Tryz.underlying41 hi hz0 .i64 .i64 (n : Int) (n : Int) (by omega) (by omega) (by rw [hz2]; omega) (by omega)]
  have e : madeCells (Value.cells (.int .u8 0)) ((n : Int).toNat * i0.size) = ((List.replicate n (0 : UInt8)).map B).toArray := by
    rw [hz1, Int.toNat_natCast, Nat.mul_one]
    apply Array.toList_inj.1
    have := toList_madeCells_one (.int .u8 0) n
    rw [List.map_replicate]
    exact this
  rw [e]
  simp

theorem made_set (f : Nat → UInt8) (n k : Nat) (v : UInt8) (hk : k < n) (hv : v = f k) :
    (((List.range k).map f ++ List.replicate (n - k) 0).map B).set k (B v) = (((List.range (k + 1)).map f ++ List.replicate (n - (k + 1)) 0).map B) := by
  subst hv
  rw [← List.map_set, List.set_append_right _ _ (by simp), List.length_map, List.length_range, Nat.sub_self, show n - k = (n - (k + 1)) + 1 by omega, List.replicate_succ, List.set_cons_zero, List.range_succ, List.map_append]
  simp

theorem byte_div (xs : List Nat) (hs : Sm Bs xs) (p : Nat) : xs.getD (p / 4) 0 / 2 ^ (8 * (p % 4)) % 256 = nv Bs xs / 256 ^ p % 256 := by
  have e0 : 256 ^ p = Bs ^ (p / 4) * 2 ^ (8 * (p % 4)) := by
    rw [show (2 : Nat) ^ (8 * (p % 4)) = 256 ^ (p % 4) by rw [Nat.pow_mul], Bs_256, ← Nat.pow_mul, ← Nat.pow_add]
    congr 1
    omega
  rw [nv_getD Bs_pos hs, e0, ← Nat.div_div_eq_div_mul]
  generalize nv Bs xs / Bs ^ (p / 4) = N
  have hr : p % 4 < 4 := Nat.mod_lt _ (by decide)
  generalize p % 4 = r at hr
  have e : Bs = 2 ^ (8 * r) * 2 ^ (32 - 8 * r) := by rw [← Nat.pow_add, show 8 * r + (32 - 8 * r) = 32 by omega]; rfl
  rw [e, Nat.mod_mul_right_div_self, Nat.mod_mod_of_dvd]
  exact ⟨2 ^ (32 - 8 * r - 8), by rw [show (256 : Nat) = 2 ^ 8 from rfl, ← Nat.pow_add, show 8 + (32 - 8 * r - 8) = 32 - 8 * r by omega]⟩

set_option maxHeartbeats 1000000 in
theorem written_any (ax : Option Addr) (cx n : Nat) (xs : List Nat) (w : World) (hx : Rn w ax xs) (sx : Sm Bs xs) (_h1 : xs.length ≤ 100000000) (hn : n ≤ 1000000000) :
    Calls Tryz.prog 90 #[.slice ax xs.length cx, .int .i64 (n : Int)] w fun e w' => e = .returned (.slice (some ⟨w.heap.size, 0, none⟩) n n) ∧ Bl 5 w' w.heap.size ((tobe n (nv Bs xs)).map B) ∧ Below w.heap.size w w' := by
  obtain ⟨wm, hmk, hbm, hbel⟩ := madeB w n (by omega)
  obtain ⟨V, HV⟩ : ∃ V, Hid (nv Bs xs = V) := ⟨_, rfl⟩
  rw [HV.out]
  obtain ⟨f, Hf⟩ : ∃ f : Nat → UInt8, Hid (f = fun i => UInt8.ofNat (V / 256 ^ (n - 1 - i) % 256)) := ⟨_, rfl⟩
  have HX : Hid (Rn w ax xs) := hx
  have HSX : Hid (Sm Bs xs) := sx
  have HM : Hid (Bl 5 wm w.heap.size (((List.range 0).map f ++ List.replicate (n - 0) 0).map B) ∧ Below w.heap.size w wm) := ⟨by simpa using hbm, hbel⟩
  clear hx sx hbm hbel
  go_enter Tryz.func90, Tryz.ntmps90
  go_wp2
  clear hmk
  go_loopw [12] (fun s wr => ∃ i : Nat, s = .int .i64 (i : Int) ∧ i ≤ n ∧ Hid (Bl 5 wr w.heap.size (((List.range i).map f ++ List.replicate (n - i) 0).map B) ∧ Below w.heap.size w wr)) (fun s _ => n - (intOf s).toNat)
  case atStart => exact ⟨0, rfl, Nat.zero_le _, HM⟩
  case round =>
    clear HM
    obtain ⟨i, rfl, hi, HI⟩ := hrel
    by_cases hlt : i < n
    · obtain ⟨p, Hp⟩ : ∃ p, Hid (n = i + p + 1) := ⟨n - i - 1, (by omega : n = i + (n - i - 1) + 1)⟩
      have ep : (n : Int) - 1 - (i : Int) = (p : Int) := by have := Hp.out; omega
      have hpb : p ≤ 1000000000 := by have := Hp.out; omega
      obtain ⟨qt, Hqt⟩ : ∃ a, Hid (p / 4 = a) := ⟨_, rfl⟩
      obtain ⟨s, Hs⟩ : ∃ a, Hid (8 * (p % 4) = a) := ⟨_, rfl⟩
      have hs32 : s ≤ 24 := by rw [← Hs.out]; omega
      have eq1 : Int.tdiv (p : Int) 4 = (qt : Int) := by rw [Int.tdiv_eq_ediv_of_nonneg (by omega), ← Hqt.out]; omega
      have eq2 : (p : Int) / 4 = (qt : Int) := by rw [← Hqt.out]; omega
      have er1 : Int.tmod (p : Int) 4 * 8 = (s : Int) := by rw [Int.tmod_eq_emod_of_nonneg (by omega), ← Hs.out]; omega
      have er2 : (p : Int) % 4 * 8 = (s : Int) := by rw [← Hs.out]; omega
      have C := at_nat ax xs.length cx qt xs wr (HX.out.below HI.out.2 (Nat.le_refl _)) rfl
      obtain ⟨x, Hx⟩ : ∃ x, Hid (xs.getD qt 0 = x) := ⟨_, rfl⟩
      have hx : x < 4294967296 := by rw [← Hx.out, ← Bs_eq]; exact HSX.out.getD Bs_pos qt
      rw [Hx.out] at C
      obtain ⟨y, Hy⟩ : ∃ y, Hid (x / 2 ^ s = y) := ⟨_, rfl⟩
      have hy : y < 4294967296 := by rw [← Hy.out]; exact Nat.lt_of_le_of_lt (Nat.div_le_self _ _) hx
      have ey : (x : Int) / 2 ^ s = (y : Int) := by rw [← Hy.out]; simp
      obtain ⟨z, Hz⟩ : ∃ z, Hid (y % 256 = z) := ⟨_, rfl⟩
      have hz : z < 256 := by rw [← Hz.out]; omega
      have ez : (y : Int) % 256 = (z : Int) := by rw [← Hz.out]; omega
      have ezw : IntKind.u8.wrap (y : Int) = (z : Int) := by rw [IntKind.wrap_u8, ← Hz.out]; omega
      have HF : Hid (.int .u8 (z : Int) = B (f i)) := by
        show _ = _
        rw [Hf.out]
        unfold B
        have h4 := byte_div xs HSX.out p
        rw [Hqt.out, Hs.out, Hx.out, Hy.out, Hz.out, HV.out] at h4
        show Value.int .u8 (z : Int) = .int .u8 ((UInt8.ofNat (V / 256 ^ (n - 1 - i) % 256)).toNat : Int)
        rw [show n - 1 - i = p by have := Hp.out; omega, ← h4, UInt8.toNat_ofNat', Nat.mod_eq_of_lt (by omega)]
      have gf := HI.out.1.frozen i
      obtain ⟨old, gc⟩ : ∃ v, wr.cell? ⟨w.heap.size, i, none⟩ = some v := ⟨_, HI.out.1.cell i (by simp; omega)⟩
      clear Hz Hy
      go_wp2_with fail
      refine C.mono ?_
      clear C
      rintro e wr ⟨rfl, rfl⟩
      go_wp2
      go_roundw
      case rel =>
        refine ⟨i + 1, by go_num, by omega, ?_, HI.out.2.setCell (Nat.le_refl _) _⟩
        have h5 := HI.out.1.set i (B (f i))
        rw [made_set f n i (f i) hlt rfl] at h5
        rw [HF.out]
        exact h5
      case measure => simp [intOf]; omega
    · obtain rfl : i = n := by omega
      have HO : Hid (Bl 5 wr w.heap.size ((tobe i V).map B) ∧ Below w.heap.size w wr) := by
        have h5 := HI.out
        rw [Nat.sub_self, List.replicate_zero, List.append_nil, Hf.out] at h5
        exact h5
      go_wp2
      go_ret
      exact ⟨rfl, HO.out⟩

/-- A number's least bytes. -/
def lst (V : Nat) : Nat := (bl V + 7) / 8

theorem least_nm (v : Value) (xs : List Nat) (w : World) (hv : Nm w v xs) (h1 : xs.length ≤ 10000000) :
    Calls Tryz.prog 89 #[v] w fun e w' => e = .returned (.int .i64 ((lst (nv Bs xs) : Nat) : Int)) ∧ w' = w := by
  have C := bits_nm v xs w hv (by omega)
  have hb : bl (nv Bs xs) ≤ 1000000000 := by
    have h2 := nv_lt Bs_pos hv.sm
    rcases Nat.lt_or_ge 1000000000 (bl (nv Bs xs)) with h3 | h3
    · exfalso
      have h4 : nv Bs xs ≠ 0 := fun e => by rw [e] at h3; exact absurd h3 (by decide)
      have h5 := bl_le _ h4
      have h6 : Bs ^ xs.length = 2 ^ (32 * xs.length) := by rw [Nat.pow_mul]; rfl
      rw [h6] at h2
      have h7 : 2 ^ (32 * xs.length) ≤ 2 ^ (bl (nv Bs xs) - 1) := Nat.pow_le_pow_right (by decide) (by omega)
      exact absurd (Nat.lt_of_le_of_lt (Nat.le_trans h7 h5) h2) (Nat.lt_irrefl _)
    · exact h3
  unfold lst
  obtain ⟨b, Hb⟩ : ∃ b, Hid (bl (nv Bs xs) = b) := ⟨_, rfl⟩
  rw [Hb.out] at C hb ⊢
  obtain ⟨m, Hm⟩ : ∃ m, Hid (b + 7 = m) := ⟨_, rfl⟩
  obtain ⟨n, Hn⟩ : ∃ n, Hid (m / 8 = n) := ⟨_, rfl⟩
  rw [Hm.out, Hn.out]
  have hm : m ≤ 1000000007 := by rw [← Hm.out]; omega
  have e1 : (b : Int) + 7 = (m : Int) := by rw [← Hm.out]; omega
  have e2 : Int.tdiv (m : Int) 8 = (n : Int) := by rw [Int.tdiv_eq_ediv_of_nonneg (by omega), ← Hn.out]; omega
  have e3 : (m : Int) / 8 = (n : Int) := by rw [← Hn.out]; omega
  clear hv
  go_enter Tryz.func89, Tryz.ntmps89
  go_wp2_with fail
  refine C.mono ?_
  clear C
  rintro e w ⟨rfl, rfl⟩
  go_wp2
  go_ret
  exact ⟨rfl, rfl⟩

theorem lst_bound (xs : List Nat) (sx : Sm Bs xs) : lst (nv Bs xs) ≤ 4 * xs.length := by
  unfold lst
  have h2 := nv_lt Bs_pos sx
  have h6 : Bs ^ xs.length = 2 ^ (32 * xs.length) := by rw [Nat.pow_mul]; rfl
  rw [h6] at h2
  rcases Nat.lt_or_ge (32 * xs.length) (bl (nv Bs xs)) with h3 | h3
  · exfalso
    have h4 : nv Bs xs ≠ 0 := fun e => by rw [e, bl_zero] at h3; omega
    have h5 := bl_le _ h4
    have h7 : 2 ^ (32 * xs.length) ≤ 2 ^ (bl (nv Bs xs) - 1) := Nat.pow_le_pow_right (by decide) (by omega)
    exact absurd (Nat.lt_of_le_of_lt (Nat.le_trans h7 h5) h2) (Nat.lt_irrefl _)
  · omega

/-- A row of bytes of one's own. -/
def Owb (w : World) (base : Nat) (v : Value) (l : List UInt8) : Prop := w.ownsRow base 5 1 v l.length (l.map B)
theorem Owb.nil (w : World) (base : Nat) : Owb w base (.slice none 0 0) [] := ⟨rfl, .inl ⟨rfl, rfl⟩⟩
theorem Bl.owb {w : World} {base g : Nat} {l : List UInt8} (h : Bl 5 w g (l.map B)) (hg : base ≤ g) (hl : l.length ≤ 10000000000) : Owb w base (.slice (some ⟨g, 0, none⟩) l.length l.length) l := by
  refine ⟨by simp, .inr ⟨g, l.length, (l.map B).toArray, rfl, hg, h, Nat.le_refl _, ?_, by simp, ?_⟩⟩
  · unfold maxLen; omega
  · rw [List.take_of_length_le (by simp)]
theorem Owb.below {w w' : World} {base n : Nat} {v : Value} {xs : List UInt8} (h : Owb w base v xs) (hb : Below n w w') (hn : w.heap.size ≤ n) : Owb w' base v xs := by
  rcases h.2 with h0 | ⟨g, cap, cur, e, hg, hh, r⟩
  · exact ⟨h.1, .inl h0⟩
  · exact ⟨h.1, .inr ⟨g, cap, cur, e, hg, by rw [hb.block g (Nat.lt_of_lt_of_le (Array.getElem?_eq_some_iff.1 hh).1 hn)]; exact hh, r⟩⟩
theorem Owb.drewN {w : World} {base : Nat} {v : Value} {xs : List UInt8} (h : Owb w base v xs) (q : Nat) : Owb (w.drewN q) base v xs := h
theorem Owb.base {w : World} {base base' : Nat} {v : Value} {xs : List UInt8} (h : Owb w base v xs) (hb : base' ≤ base) : Owb w base' v xs := by
  rcases h.2 with h0 | ⟨g, cap, cur, e, hg, r⟩
  · exact ⟨h.1, .inl h0⟩
  · exact ⟨h.1, .inr ⟨g, cap, cur, e, Nat.le_trans hb hg, r⟩⟩
/-- A value that is bytes. -/
def Nb (w : World) (v : Value) (l : List UInt8) : Prop := ∃ (ao : Option Addr) (c : Nat), v = .slice ao l.length c ∧ l.length ≤ c ∧ Rd w ao l
theorem Nb.below {w w' : World} {v : Value} {xs : List UInt8} {n : Nat} (h : Nb w v xs) (hb : Below n w w') (hn : w.heap.size ≤ n) : Nb w' v xs := by
  obtain ⟨ao, c, e, hc, hr⟩ := h
  exact ⟨ao, c, e, hc, hr.below hb hn⟩
theorem Nb.drewN {w : World} {v : Value} {xs : List UInt8} (h : Nb w v xs) (q : Nat) : Nb (w.drewN q) v xs := h
theorem Owb.nb {w : World} {base : Nat} {v : Value} {xs : List UInt8} (h : Owb w base v xs) : Nb w v xs := by
  rcases h.2 with ⟨rfl, h0⟩ | ⟨g, cap, cur, rfl, hg, hh, hn, hc, hsz, ht⟩
  · have : xs = [] := List.eq_nil_of_length_eq_zero h0
    subst this
    exact ⟨none, 0, rfl, Nat.le_refl _, .inl rfl⟩
  · refine ⟨_, cap, rfl, hn, .inr ⟨g, 0, rfl, (World.ownsRow.lt h g rfl).2, fun j hj => ?_⟩⟩
    rw [Nat.zero_add, World.ownsRow.cellAt h j (by omega)]
    rw [List.getElem?_map, List.getElem?_eq_getElem hj, List.getD_eq_getElem?_getD, List.getElem?_eq_getElem hj]; rfl

theorem fixed_nm (v : Value) (xs : List Nat) (size : Int) (w : World) (hv : Nm w v xs) (h1 : xs.length ≤ 10000000) :
    Calls Tryz.prog 58 #[v, .int .i64 size] w fun e w' => ∃ r l, e = .returned (.tuple #[r, .bool (decide ((lst (nv Bs xs) : Int) ≤ size ∧ size ≤ 16384))]) ∧ Owb w' w.heap.size r l ∧ l = (if (lst (nv Bs xs) : Int) ≤ size ∧ size ≤ 16384 then tobe size.toNat (nv Bs xs) else []) ∧ Below w.heap.size w w' := by
  have C := least_nm v xs w hv h1
  obtain ⟨ax, cx, rfl, hcx, hx, sx⟩ := hv
  obtain ⟨n, Hn⟩ : ∃ n, Hid (lst (nv Bs xs) = n) := ⟨_, rfl⟩
  rw [Hn.out] at C ⊢
  by_cases hs : (n : Int) ≤ size ∧ size ≤ 16384
  · obtain ⟨k, rfl⟩ : ∃ k : Nat, size = (k : Int) := ⟨size.toNat, by omega⟩
    have C2 := written_any ax cx k xs w hx sx (by omega) (by omega)
    have hc1 : decide ((k : Int) < (n : Int)) = false := decide_eq_false (by omega)
    have hc2 : decide ((k : Int) > 16384) = false := decide_eq_false (by omega)
    have hc3 : decide (k < n) = false := decide_eq_false (by omega)
    have hk : k ≤ 16384 := by omega
    rw [if_pos hs, decide_eq_true hs, Int.toNat_natCast]
    clear hx sx hs
    go_enter Tryz.func58, Tryz.ntmps58
    go_wp2_with fail
    refine C.mono ?_
    clear C
    rintro e w ⟨rfl, rfl⟩
    go_wp2_with fail
    refine C2.mono ?_
    clear C2
    rintro e w1 ⟨rfl, hb1, hb2⟩
    have HO : Hid (Owb w1 w.heap.size (.slice (some ⟨w.heap.size, 0, none⟩) k k) (tobe k (nv Bs xs)) ∧ Below w.heap.size w w1) := by
      have := hb1.owb (Nat.le_refl w.heap.size) (by rw [tobe_length]; omega)
      rw [tobe_length] at this
      exact ⟨this, hb2⟩
    clear hb1 hb2
    go_wp2
    go_ret2
    exact ⟨_, _, rfl, HO.out.1, rfl, HO.out.2⟩
  · rw [if_neg hs, decide_eq_false hs]
    by_cases h3 : size < (n : Int)
    · have hc1 : decide (size < (n : Int)) = true := decide_eq_true h3
      clear hx sx hs
      go_enter Tryz.func58, Tryz.ntmps58
      go_wp2_with fail
      refine C.mono ?_
      clear C
      rintro e w ⟨rfl, rfl⟩
      go_wp2
      go_ret2
      exact ⟨_, _, rfl, Owb.nil _ _, rfl, Below.refl _ _⟩
    · have hc1 : decide (size < (n : Int)) = false := decide_eq_false h3
      have hc2 : decide (size > 16384) = true := decide_eq_true (by omega)
      clear hx sx hs
      go_enter Tryz.func58, Tryz.ntmps58
      go_wp2_with fail
      refine C.mono ?_
      clear C
      rintro e w ⟨rfl, rfl⟩
      go_wp2
      go_ret2
      exact ⟨_, _, rfl, Owb.nil _ _, rfl, Below.refl _ _⟩

end Go.Proofs.YtmngdaolgdhgmaaGreatDoor

namespace Go.Proofs.YtmngdaolgdhgmaaGreatDoor
open Go.RowKit

set_option maxHeartbeats 1000000 in
theorem bit_pos (k : Nat) (v : Value) (xs : List Nat) (w : World) (hv : Nm w v xs) (hk : k ≤ 9223372036854775807) :
    Calls Tryz.prog 112 #[v, .int .i64 (k : Int)] w fun e w' => e = .returned (.bool (decide (nv Bs xs / 2 ^ k % 2 = 1))) ∧ w' = w := by
  obtain ⟨ax, cx, rfl, hcx, hx, sx⟩ := hv
  obtain ⟨q, hq⟩ : ∃ q, k / 32 = q := ⟨_, rfl⟩
  obtain ⟨s, hs⟩ : ∃ s, k % 32 = s := ⟨_, rfl⟩
  have hs32 : s < 32 := by omega
  have eq1 : Int.tdiv (k : Int) 32 = (q : Int) := by rw [Int.tdiv_eq_ediv_of_nonneg (by omega)]; omega
  have eq2 : (k : Int) / 32 = (q : Int) := by omega
  have es1 : Int.tmod (k : Int) 32 = (s : Int) := by rw [Int.tmod_eq_emod_of_nonneg (by omega)]; omega
  have es2 : (k : Int) % 32 = (s : Int) := by omega
  have hq64 : q ≤ 288230376151711744 := by omega
  have eqw : wrap64 (q : Int) = (q : Int) := by unfold wrap64; omega
  have hk0 : decide ((k : Int) ≥ 0) = true := decide_eq_true (by omega)
  have HV : Hid (nv Bs xs / 2 ^ k % 2 = xs.getD q 0 / 2 ^ s % 2) := by
    have := bit_div xs sx q s
    rw [show 32 * q + s = k by omega] at this
    rcases this with h | h
    · exact h
    · omega
  have C := at_nat ax xs.length cx q xs w hx rfl
  obtain ⟨x, Hx⟩ : ∃ x, Hid (xs.getD q 0 = x) := ⟨_, rfl⟩
  have hxb : x < 4294967296 := by rw [← Hx.out, ← Bs_eq]; exact sx.getD Bs_pos q
  rw [Hx.out] at C HV
  obtain ⟨y, Hy⟩ : ∃ y, Hid (x / 2 ^ s = y) := ⟨_, rfl⟩
  have hy : y < 4294967296 := by rw [← Hy.out]; exact Nat.lt_of_le_of_lt (Nat.div_le_self _ _) hxb
  have ey : (x : Int) / 2 ^ s = (y : Int) := by rw [← Hy.out]; simp
  rw [Hy.out] at HV
  have hand : bits .and .u32 (y : Int) 1 = ((y % 2 : Nat) : Int) := by
    have := u32_and_nat y 1 hy (by decide)
    rw [Nat.and_one_is_mod] at this
    exact this
  obtain ⟨z, Hz⟩ : ∃ z, Hid (y % 2 = z) := ⟨_, rfl⟩
  rw [Hz.out] at hand HV
  have hz : z ≤ 1 := by rw [← Hz.out]; omega
  clear hx sx hcx hq hs Hy Hz
  go_enter Tryz.func112, Tryz.ntmps112
  go_wp2_with fail
  refine C.mono ?_
  clear C
  rintro e w ⟨rfl, rfl⟩
  go_wp2
  go_ret
  refine ⟨?_, rfl⟩
  rw [HV.out]
  congr 2
  rcases Nat.eq_zero_or_pos z with h | h
  · subst h; rfl
  · obtain rfl : z = 1 := by omega
    rfl

theorem bit_neg (k : Int) (v : Value) (w : World) (hk : k < 0) : Calls Tryz.prog 112 #[v, .int .i64 k] w fun e w' => e = .returned (.bool false) ∧ w' = w := by
  have hk0 : decide (k ≥ 0) = false := decide_eq_false (by omega)
  go_enter Tryz.func112, Tryz.ntmps112
  go_wp2
  go_ret
  exact ⟨rfl, rfl⟩

/-- So many bits Shl takes. -/
def shk (k : Int) : Nat := if k < 0 then 0 else if k ≤ 131072 then k.toNat else 131072

theorem shr_nm (k : Int) (v : Value) (xs : List Nat) (w : World) (hv : Nm w v xs) (h1 : xs.length ≤ 100000000) (hk : k ≤ 9223372036854775807) :
    Calls Tryz.prog 77 #[v, .int .i64 k] w fun e w' => ∃ r, e = .returned r ∧ Ow w' w.heap.size r (dg Bs (nv Bs xs / 2 ^ k.toNat)) ∧ Below w.heap.size w w' := by
  by_cases h : k < 0
  · rw [show k.toNat = 0 by omega]; exact shr_neg k h v xs w hv h1
  · obtain ⟨K, rfl⟩ : ∃ K : Nat, k = (K : Int) := ⟨k.toNat, by omega⟩
    rw [Int.toNat_natCast]
    exact shr_pos K (by omega) v xs w hv h1

end Go.Proofs.YtmngdaolgdhgmaaGreatDoor
