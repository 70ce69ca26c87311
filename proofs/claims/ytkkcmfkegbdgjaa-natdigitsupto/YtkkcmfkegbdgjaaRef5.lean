import Derived.Test.YtkkcmfkegbdgjaaRef4
import Derived.Test.YtkkcmfkegbdgjaaDvLaw
namespace Go.Proofs.Ytkkcmfkegbdgjaa
open Go.RowKit

theorem half_step (A k : Nat) : A / 2 ^ k = 2 * (A / 2 ^ (k + 1)) + A / 2 ^ k % 2 := by
  rw [Nat.pow_succ, ← Nat.div_div_eq_div_mul]
  omega

theorem dgl_dbl (D k : Nat) (h : (dg Bs D).length ≤ k) : (dg Bs (2 * D)).length ≤ k + 1 := by
  have a3 : D < Bs ^ k := Nat.lt_of_lt_of_le (dg_up Bs_two D) (Nat.pow_le_pow_right Bs_pos h)
  refine dg_len Bs_two _ _ ?_
  rw [Nat.pow_succ']
  exact Nat.lt_of_lt_of_le (Nat.mul_lt_mul_of_pos_left a3 (by decide)) (Nat.mul_le_mul_right _ (by decide))

theorem bool_toNat (n : Nat) (h : n ≤ 1) : (decide (n = 1)).toNat = n := by
  rcases Nat.eq_zero_or_pos n with h0 | h0
  · subst h0; rfl
  · obtain rfl : n = 1 := by omega
    rfl

set_option maxHeartbeats 1000000 in
theorem rdiv_zero (v u : Value) (xs ys : List Nat) (w : World) (hu : Nm w u ys) (h2 : ys.length ≤ 100000000) (h0 : nv Bs ys = 0) (_hv : Nm w v xs) :
    Calls Try.prog 25 #[v, u] w fun e w' => e = .returned (.tuple #[.slice none 0 0, .slice none 0 0, .int .i64 60]) ∧ Below w.heap.size w w' := by
  have C := rbits_nm u ys w hu h2
  rw [h0, show ((bl 0 : Nat) : Int) = 0 from rfl] at C
  clear hu h0 _hv
  go_enter Try.func25, Try.ntmps25
  go_wp2_with fail
  refine C.mono ?_
  clear C
  rintro e w1 ⟨rfl, hb⟩
  have HB : Hid (Below w.heap.size w w1) := hb
  clear hb
  go_wp2
  go_ret3
  exact ⟨rfl, HB.out⟩

/-- What stands while a quotient is made bit by bit. -/
structure RS (w wr : World) (q r v u : Value) (xs ys : List Nat) (k Q R : Nat) : Prop where
  oq : Ow wr w.heap.size q (dg Bs Q)
  or : Ow wr w.heap.size r (dg Bs R)
  nmv : Nm wr v xs
  nmu : Nm wr u ys
  bel : Below w.heap.size w wr
  eq : nv Bs xs / 2 ^ k = Q * nv Bs ys + R
  lt : R < nv Bs ys

set_option maxHeartbeats 2000000 in
theorem rdiv_pos (v u : Value) (xs ys : List Nat) (w : World) (hv : Nm w v xs) (hu : Nm w u ys) (h1 : xs.length ≤ 10000000) (h2 : ys.length ≤ 10000000) (h0 : nv Bs ys ≠ 0) :
    Calls Try.prog 25 #[v, u] w fun e w' => ∃ q r, e = .returned (.tuple #[q, r, .int .i64 0]) ∧ Ow w' w.heap.size q (dg Bs (nv Bs xs / nv Bs ys)) ∧ Ow w' w.heap.size r (dg Bs (nv Bs xs % nv Bs ys)) ∧ Below w.heap.size w w' := by
  obtain ⟨ax, cx, hve, hcx, hx, sx⟩ := hv
  have Nv : Hid (Nm w v xs) := ⟨ax, cx, hve, hcx, hx, sx⟩
  have Nu : Hid (Nm w u ys) := hu
  have C1 := rbits_nm u ys w hu (by omega)
  have LA : Hid ((dg Bs (nv Bs xs)).length ≤ 10000000) := dgl_arg xs _ sx h1
  have LD : Hid ((dg Bs (nv Bs ys)).length ≤ 10000000) := dgl_arg ys _ hu.sm h2
  obtain ⟨A, HA⟩ : ∃ A, Hid (nv Bs xs = A) := ⟨_, rfl⟩
  obtain ⟨D, HD⟩ : ∃ D, Hid (nv Bs ys = D) := ⟨_, rfl⟩
  have H0 : Hid (D ≠ 0) := by show _ ≠ _; rw [← HD.out]; exact h0
  rw [HD.out] at C1 LD ⊢
  rw [HA.out] at LA ⊢
  have hbA : bl A ≤ 1000000000 := by
    rcases Nat.eq_zero_or_pos (dg Bs A).length with h | h
    · have := dg_nv Bs_two A
      rw [List.eq_nil_of_length_eq_zero h] at this
      rw [← this]; decide
    · obtain ⟨m, hm⟩ : ∃ m, (dg Bs A).length = m + 1 := ⟨(dg Bs A).length - 1, by omega⟩
      have e := bl_limbs (dg Bs A) m (dg_sm Bs_two A) hm (dg_top Bs_two A m hm)
      rw [dg_nv Bs_two] at e
      have ht : (dg Bs A).getD m 0 < 4294967296 := by rw [← Bs_eq]; exact (dg_sm Bs_two A).getD Bs_pos m
      have h5 : bl ((dg Bs A).getD m 0) ≤ bl 4294967295 := bl_mono (by omega)
      have h6 : bl 4294967295 = 32 := by decide
      have := LA.out
      omega
  obtain ⟨bd, Hbd⟩ : ∃ b, Hid (bl D = b) := ⟨_, rfl⟩
  rw [Hbd.out] at C1
  have hbd : ((bd : Int) == 0) = false := by have h := bl_pos D H0.out; rw [Hbd.out] at h; simp; omega
  clear hu h0 hx sx hcx hve
  go_enter Try.func25, Try.ntmps25
  go_wp2_with fail
  refine C1.mono ?_
  clear C1
  rintro e w1 ⟨rfl, hb1⟩
  have HB1 : Hid (Below w.heap.size w w1) := hb1
  have C2 := rbits_nm v xs w1 (Nv.out.below hb1 (Nat.le_refl _)) (by omega)
  rw [HA.out] at C2
  clear hb1
  go_wp2_with fail
  refine C2.mono ?_
  clear C2
  rintro e w2 ⟨rfl, hb2⟩
  have HR0 : Hid (RS w w2 (.slice none 0 0) (.slice none 0 0) v u xs ys (bl A) 0 0) := by
    have hb : Below w.heap.size w w2 := HB1.out.trans (hb2.mono HB1.out.size)
    refine ⟨by rw [dg_zero]; exact Ow.nil _ _, by rw [dg_zero]; exact Ow.nil _ _, Nv.out.below hb (Nat.le_refl _), Nu.out.below hb (Nat.le_refl _), hb, ?_, ?_⟩
    · rw [HA.out, Nat.div_eq_of_lt (bl_lt A), Nat.zero_mul]
    · rw [HD.out]; exact Nat.pos_of_ne_zero H0.out
  clear hb2
  go_wp2
  go_loopw [7, 8, 9, 10] (fun s7 s8 s9 _ wr => ∃ (k Q R : Nat), s9 = .int .i64 ((k : Int) - 1) ∧ k ≤ bl A ∧ Hid (RS w wr s7 s8 v u xs ys k Q R)) (fun _ _ s _ _ => (intOf s + 1).toNat)
  case atStart => exact ⟨bl A, 0, 0, rfl, Nat.le_refl _, HR0⟩
  case round =>
    clear HR0
    obtain ⟨k, Q, R, rfl, hk, HI⟩ := hrel
    rcases k with _ | k
    · have e0 : ((0 : Nat) : Int) - 1 = -1 := rfl
      rw [e0]
      have heq := HI.out.eq
      rw [Nat.pow_zero, Nat.div_one, HA.out, HD.out] at heq
      have hlt := HI.out.lt
      rw [HD.out] at hlt
      have HQ : Hid (A / D = Q ∧ A % D = R) := by
        show _ ∧ _
        rw [heq]
        exact div_made Q D R hlt
      have LQ : Hid ((dg Bs Q).length ≤ 1000000000 ∧ (dg Bs R).length ≤ 1000000000) := by
        refine ⟨?_, Nat.le_trans (dgl_le R D _ (Nat.le_of_lt hlt) LD.out) (by decide)⟩
        rw [← HQ.out.1]
        exact Nat.le_trans (dgl_le _ A _ (Nat.div_le_self _ _) LA.out) (by decide)
      have C3 := rproper_nm u7 _ wr (HI.out.oq.nm (dg_sm Bs_two _)) LQ.out.1
      rw [dg_nv Bs_two] at C3
      clear heq hlt
      go_wp2_with fail
      refine C3.mono ?_
      clear C3
      rintro e w3 ⟨q3, rfl, o3, b3⟩
      have C4 := rproper_nm u8 _ w3 ((HI.out.or.below b3 (Nat.le_refl _)).nm (dg_sm Bs_two _)) LQ.out.2
      rw [dg_nv Bs_two] at C4
      have H3 : Hid (Ow w3 w.heap.size q3 (dg Bs (A / D)) ∧ Below w.heap.size w w3) := ⟨by rw [HQ.out.1]; exact o3.base HI.out.bel.size, HI.out.bel.trans (b3.mono HI.out.bel.size)⟩
      clear o3 b3
      go_wp2_with fail
      refine C4.mono ?_
      clear C4
      rintro e w4 ⟨r4, rfl, o4, b4⟩
      have H4 : Hid (Ow w4 w.heap.size q3 (dg Bs (A / D)) ∧ Ow w4 w.heap.size r4 (dg Bs (A % D)) ∧ Below w.heap.size w w4) := ⟨H3.out.1.below b4 (Nat.le_refl _), by rw [HQ.out.2]; exact o4.base H3.out.2.size, H3.out.2.trans (b4.mono H3.out.2.size)⟩
      clear o4 b4
      go_wp2
      go_ret3
      exact ⟨q3, r4, rfl, H4.out⟩
    · have e0 : ((k + 1 : Nat) : Int) - 1 = (k : Int) := by omega
      rw [e0]
      clear e0
      obtain ⟨ax', cx', hve', hcx', hx', sx'⟩ := HI.out.nmv
      have CB := rbit_any ax' cx' k xs wr hx' sx' (by omega) (by omega)
      rw [HA.out, ← hve'] at CB
      obtain ⟨t, Ht⟩ : ∃ t, Hid (A / 2 ^ k % 2 = t) := ⟨_, rfl⟩
      have ht1 : t ≤ 1 := by rw [← Ht.out]; omega
      rw [Ht.out] at CB
      have LR : Hid ((dg Bs R).length ≤ 10000000) := dgl_le R D _ (by have := HI.out.lt; rw [HD.out] at this; omega) LD.out
      have CD := doubled_nm u8 R (decide (t = 1)) wr (HI.out.or.nm (dg_sm Bs_two _)) (by have := LR.out; omega)
      rw [bool_toNat t ht1] at CD
      clear hve' hcx' hx' sx'
      go_wp2_with fail
      refine CB.mono ?_
      clear CB
      rintro e wr ⟨rfl, rfl⟩
      go_wp2_with fail
      refine CD.mono ?_
      clear CD
      rintro e w3 ⟨r3, rfl, o3, b3⟩
      have HB3 : Hid (Below w.heap.size w w3 ∧ Ow w3 w.heap.size u7 (dg Bs Q) ∧ Nm w3 v xs ∧ Nm w3 u ys ∧ Ow w3 w.heap.size r3 (dg Bs (2 * R + t))) := ⟨HI.out.bel.trans (b3.mono HI.out.bel.size), HI.out.oq.below b3 (Nat.le_refl _), HI.out.nmv.below b3 (Nat.le_refl _), HI.out.nmu.below b3 (Nat.le_refl _), o3.base HI.out.bel.size⟩
      have L3 : Hid ((dg Bs (2 * R + t)).length ≤ 10000002) := by
        have hlt := HI.out.lt
        rw [HD.out] at hlt
        have a2 := dgl_dbl D 10000000 LD.out
        exact Nat.le_trans (dgl_le _ (2 * D) _ (by omega) a2) (by decide)
      have CC := rcmp_nm r3 u _ ys w3 (HB3.out.2.2.2.2.nm (dg_sm Bs_two _)) HB3.out.2.2.2.1 (by have := L3.out; omega) (by omega)
      rw [dg_nv Bs_two, HD.out] at CC
      have HLQ : Hid ((dg Bs Q).length ≤ 10000000) := by
        refine dgl_le Q A _ ?_ LA.out
        have heq := HI.out.eq
        rw [HA.out, HD.out] at heq
        have h5 : A / 2 ^ (k + 1) ≤ A := Nat.div_le_self _ _
        have h6 : Q * 1 ≤ Q * D := Nat.mul_le_mul_left _ (Nat.pos_of_ne_zero H0.out)
        omega
      have HST : Hid (A / 2 ^ k = 2 * (Q * D + R) + t) := by
        have heq := HI.out.eq
        rw [HA.out, HD.out] at heq
        have h5 := half_step A k
        rw [heq, Ht.out] at h5
        exact h5
      have HRD : Hid (R < D) := by have := HI.out.lt; rw [HD.out] at this; exact this
      clear o3 b3 HI
      by_cases hlt : 2 * R + t < D
      · rw [cmp3_lt (by omega)] at CC
        have CQ := doubled_nm u7 Q false w3 (HB3.out.2.1.nm (dg_sm Bs_two _)) (by have := HLQ.out; omega)
        rw [show false.toNat = 0 from rfl] at CQ
        have HN : Hid (A / 2 ^ k = (2 * Q + 0) * D + (2 * R + t) ∧ 2 * R + t < D) := ⟨by rw [HST.out, Nat.add_zero, Nat.mul_add, Nat.mul_assoc]; omega, hlt⟩
        clear hlt
        go_wp2_with fail
        refine CC.mono ?_
        clear CC
        rintro e w3 ⟨rfl, rfl⟩
        go_wp2_with fail
        refine CQ.mono ?_
        clear CQ
        rintro e w4 ⟨q4, rfl, o4, b4⟩
        have HN4 : Hid (RS w w4 q4 r3 v u xs ys k (2 * Q + 0) (2 * R + t)) := ⟨o4.base HB3.out.1.size, HB3.out.2.2.2.2.below b4 (Nat.le_refl _), HB3.out.2.2.1.below b4 (Nat.le_refl _), HB3.out.2.2.2.1.below b4 (Nat.le_refl _), HB3.out.1.trans (b4.mono HB3.out.1.size), by rw [HA.out, HD.out]; exact HN.out.1, by rw [HD.out]; exact HN.out.2⟩
        clear o4 b4
        go_wp2
        go_roundw
        case rel => exact ⟨k, _, _, rfl, by omega, HN4⟩
        case measure => simp [intOf]
      · obtain ⟨o, ho, hob⟩ : ∃ o : Int, cmp3 ((2 * R + t : Nat) : Int) (D : Int) = o ∧ decide (o < 0) = false := by
          rcases Nat.lt_or_ge D (2 * R + t) with h | h
          · exact ⟨1, cmp3_gt (by omega), by decide⟩
          · exact ⟨0, cmp3_eq (by omega), by decide⟩
        rw [ho] at CC
        have CS := rsub_nm r3 u _ ys w3 (HB3.out.2.2.2.2.nm (dg_sm Bs_two _)) HB3.out.2.2.2.1 (by have := L3.out; omega) (by omega)
        rw [dg_nv Bs_two, HD.out] at CS
        have HN : Hid (A / 2 ^ k = (2 * Q + 1) * D + (2 * R + t - D) ∧ 2 * R + t - D < D) := by
          have h5 := HRD.out
          refine ⟨?_, by omega⟩
          rw [HST.out, Nat.mul_add, Nat.add_mul, Nat.mul_assoc, Nat.one_mul]
          omega
        clear hlt ho
        go_wp2_with fail
        refine CC.mono ?_
        clear CC
        rintro e w3 ⟨rfl, rfl⟩
        go_wp2_with fail
        refine CS.mono ?_
        clear CS
        rintro e w4 ⟨r4, rfl, o4, b4⟩
        have HB4 : Hid (Below w.heap.size w w4 ∧ Ow w4 w.heap.size u7 (dg Bs Q) ∧ Nm w4 v xs ∧ Nm w4 u ys ∧ Ow w4 w.heap.size r4 (dg Bs (2 * R + t - D))) := ⟨HB3.out.1.trans (b4.mono HB3.out.1.size), HB3.out.2.1.below b4 (Nat.le_refl _), HB3.out.2.2.1.below b4 (Nat.le_refl _), HB3.out.2.2.2.1.below b4 (Nat.le_refl _), o4.base HB3.out.1.size⟩
        have CQ := doubled_nm u7 Q true w4 (HB4.out.2.1.nm (dg_sm Bs_two _)) (by have := HLQ.out; omega)
        rw [show true.toNat = 1 from rfl] at CQ
        clear o4 b4 HB3
        go_wp2_with fail
        refine CQ.mono ?_
        clear CQ
        rintro e w5 ⟨q5, rfl, o5, b5⟩
        have HN5 : Hid (RS w w5 q5 r4 v u xs ys k (2 * Q + 1) (2 * R + t - D)) := ⟨o5.base HB4.out.1.size, HB4.out.2.2.2.2.below b5 (Nat.le_refl _), HB4.out.2.2.1.below b5 (Nat.le_refl _), HB4.out.2.2.2.1.below b5 (Nat.le_refl _), HB4.out.1.trans (b5.mono HB4.out.1.size), by rw [HA.out, HD.out]; exact HN.out.1, by rw [HD.out]; exact HN.out.2⟩
        clear o5 b5
        go_wp2
        go_roundw
        case rel => exact ⟨k, _, _, rfl, by omega, HN5⟩
        case measure => simp [intOf]

end Go.Proofs.Ytkkcmfkegbdgjaa
