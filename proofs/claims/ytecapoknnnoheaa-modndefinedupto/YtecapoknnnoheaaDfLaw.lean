import Derived.Test.YtecapoknnnoheaaMl4
namespace Go.Proofs.Ytecapoknnnoheaa
open Go.RowKit

set_option maxRecDepth 100000 in
set_option maxHeartbeats 8000000 in
theorem def_ref (a b m : Value) (A B M : Nat) (w : World) (ha : Vl w a A 1048576) (hb : Vl w b B 1048576) (hm : Vl w m M 1048576) (h0 : rcode M (Lg A || Lg B) ≠ 0) :
    Calls Try.prog 6 #[a, b, m] w fun e w' => e = .returned (.bool true) ∧ Below w.heap.size w w' := by
  obtain ⟨c, Hc, hc0⟩ : ∃ c : Nat, Hid (rcode M (Lg A || Lg B) = c) ∧ c ≠ 0 := ⟨_, rfl, h0⟩
  have hcI : ((c : Int) != 0) = true := by simp; omega
  have Hc0 : Hid (c ≠ 0) := hc0
  clear h0 hc0
  have Ha : Hid (Vl w a A 1048576) := ha
  have Hb : Hid (Vl w b B 1048576) := hb
  have Hm : Hid (Vl w m M 1048576) := hm
  have HB : Hid (Below w.heap.size w w) := Below.refl _ _
  clear ha hb hm
  go_enter Try.func6, Try.ntmps6
  have Cc := awake_v w
  go_wp2_with fail
  refine Cc.mono ?_
  clear Cc
  rintro e w1 ⟨rfl, hbel⟩
  replace Ha : Hid (Vl w1 a (A) 1048576) := Ha.out.below hbel (Nat.le_refl _)
  replace Hb : Hid (Vl w1 b (B) 1048576) := Hb.out.below hbel (Nat.le_refl _)
  replace Hm : Hid (Vl w1 m (M) 1048576) := Hm.out.below hbel (Nat.le_refl _)
  replace HB : Hid (Below w.heap.size w w1) := HB.out.trans (hbel.mono HB.out.size)
  clear hbel
  have Cc := madd_v a b m (A) (B) (M) w1 (Ha.out.le (by decide)) (Hb.out.le (by decide)) (Hm.out.le (by decide))
  rw [Hc.out] at Cc
  go_wp2_with fail
  refine Cc.mono ?_
  clear Cc
  rintro e w2 hans
  obtain ⟨rfl, hbel⟩ := hans.bad Hc0.out
  replace Ha : Hid (Vl w2 a (A) 1048576) := Ha.out.below hbel (Nat.le_refl _)
  replace Hb : Hid (Vl w2 b (B) 1048576) := Hb.out.below hbel (Nat.le_refl _)
  replace Hm : Hid (Vl w2 m (M) 1048576) := Hm.out.below hbel (Nat.le_refl _)
  replace HB : Hid (Below w.heap.size w w2) := HB.out.trans (hbel.mono HB.out.size)
  clear hans hbel
  have Cc := msub_v a b m (A) (B) (M) w2 (Ha.out.le (by decide)) (Hb.out.le (by decide)) (Hm.out.le (by decide))
  rw [Hc.out] at Cc
  go_wp2_with fail
  refine Cc.mono ?_
  clear Cc
  rintro e w3 hans
  obtain ⟨rfl, hbel⟩ := hans.bad Hc0.out
  replace Ha : Hid (Vl w3 a (A) 1048576) := Ha.out.below hbel (Nat.le_refl _)
  replace Hb : Hid (Vl w3 b (B) 1048576) := Hb.out.below hbel (Nat.le_refl _)
  replace Hm : Hid (Vl w3 m (M) 1048576) := Hm.out.below hbel (Nat.le_refl _)
  replace HB : Hid (Below w.heap.size w w3) := HB.out.trans (hbel.mono HB.out.size)
  clear hans hbel
  have Cc := mmul_v a b m (A) (B) (M) w3 (Ha.out.le (by decide)) (Hb.out.le (by decide)) (Hm.out.le (by decide))
  rw [Hc.out] at Cc
  go_wp2_with fail
  refine Cc.mono ?_
  clear Cc
  rintro e w4 hans
  obtain ⟨rfl, hbel⟩ := hans.bad Hc0.out
  replace Ha : Hid (Vl w4 a (A) 1048576) := Ha.out.below hbel (Nat.le_refl _)
  replace Hb : Hid (Vl w4 b (B) 1048576) := Hb.out.below hbel (Nat.le_refl _)
  replace Hm : Hid (Vl w4 m (M) 1048576) := Hm.out.below hbel (Nat.le_refl _)
  replace HB : Hid (Below w.heap.size w w4) := HB.out.trans (hbel.mono HB.out.size)
  clear hans hbel
  have Cc := refuses_v a b m _ _ _ w4 (Ha.out.le (by decide)) (Hb.out.le (by decide)) (Hm.out.le (by decide))
  rw [Hc.out] at Cc
  go_wp2_with fail
  refine Cc.mono ?_
  clear Cc
  rintro e w4 ⟨rfl, rfl⟩
  go_wp2
  go_ret
  exact ⟨rfl, HB.out⟩

set_option maxRecDepth 100000 in
set_option maxHeartbeats 8000000 in
theorem def_ok (a b m : Value) (A B M : Nat) (w : World) (ha : Vl w a A 1048576) (hb : Vl w b B 1048576) (hm : Vl w m M 1048576) (h0 : rcode M (Lg A || Lg B) = 0) :
    Calls Try.prog 6 #[a, b, m] w fun e w' => e = .returned (.bool true) ∧ Below w.heap.size w w' := by
  have HM : Hid (2 ≤ M) := (rcode_zero h0).2.2
  have lM : Hid (Lg M = false) := (rcode_zero h0).1
  have lA : Hid (Lg A = false) := (Bool.or_eq_false_iff.1 (rcode_zero h0).2.1).1
  have lB : Hid (Lg B = false) := (Bool.or_eq_false_iff.1 (rcode_zero h0).2.1).2
  have H0 : Hid (rcode M (Lg A || Lg B) = 0) := h0
  clear h0
  have Ha : Hid (Vl w a A 1048576) := ha
  have Hb : Hid (Vl w b B 1048576) := hb
  have Hm : Hid (Vl w m M 1048576) := hm
  have HB : Hid (Below w.heap.size w w) := Below.refl _ _
  clear ha hb hm
  go_enter Try.func6, Try.ntmps6
  have Cc := awake_v w
  go_wp2_with fail
  refine Cc.mono ?_
  clear Cc
  rintro e w1 ⟨rfl, hbel⟩
  replace Ha : Hid (Vl w1 a (A) 1048576) := Ha.out.below hbel (Nat.le_refl _)
  replace Hb : Hid (Vl w1 b (B) 1048576) := Hb.out.below hbel (Nat.le_refl _)
  replace Hm : Hid (Vl w1 m (M) 1048576) := Hm.out.below hbel (Nat.le_refl _)
  replace HB : Hid (Below w.heap.size w w1) := HB.out.trans (hbel.mono HB.out.size)
  clear hbel
  have Cc := madd_v a b m (A) (B) (M) w1 (Ha.out.le (by decide)) (Hb.out.le (by decide)) (Hm.out.le (by decide))
  go_wp2_with fail
  refine Cc.mono ?_
  clear Cc
  rintro e w2 hans
  obtain ⟨s, rfl, hre⟩ := hans.ok H0.out
  have hbel := hre.bel
  replace Ha : Hid (Vl w2 a (A) 1048576) := Ha.out.below hbel (Nat.le_refl _)
  replace Hb : Hid (Vl w2 b (B) 1048576) := Hb.out.below hbel (Nat.le_refl _)
  replace Hm : Hid (Vl w2 m (M) 1048576) := Hm.out.below hbel (Nat.le_refl _)
  replace HB : Hid (Below w.heap.size w w2) := HB.out.trans (hbel.mono HB.out.size)
  have Os : Hid (Om w2 s ((A + B) % M)) := hre.om
  clear hans hre hbel
  have Cc := msub_v a b m (A) (B) (M) w2 (Ha.out.le (by decide)) (Hb.out.le (by decide)) (Hm.out.le (by decide))
  go_wp2_with fail
  refine Cc.mono ?_
  clear Cc
  rintro e w3 hans
  obtain ⟨d, rfl, hre⟩ := hans.ok H0.out
  have hbel := hre.bel
  replace Ha : Hid (Vl w3 a (A) 1048576) := Ha.out.below hbel (Nat.le_refl _)
  replace Hb : Hid (Vl w3 b (B) 1048576) := Hb.out.below hbel (Nat.le_refl _)
  replace Hm : Hid (Vl w3 m (M) 1048576) := Hm.out.below hbel (Nat.le_refl _)
  replace Os : Hid (Om w3 s ((A + B) % M)) := Os.out.below hbel (Nat.le_refl _)
  replace HB : Hid (Below w.heap.size w w3) := HB.out.trans (hbel.mono HB.out.size)
  have Od : Hid (Om w3 d (lessV M (A % M) (B % M))) := hre.om
  clear hans hre hbel
  have Cc := mmul_v a b m (A) (B) (M) w3 (Ha.out.le (by decide)) (Hb.out.le (by decide)) (Hm.out.le (by decide))
  go_wp2_with fail
  refine Cc.mono ?_
  clear Cc
  rintro e w4 hans
  obtain ⟨p, rfl, hre⟩ := hans.ok H0.out
  have hbel := hre.bel
  replace Ha : Hid (Vl w4 a (A) 1048576) := Ha.out.below hbel (Nat.le_refl _)
  replace Hb : Hid (Vl w4 b (B) 1048576) := Hb.out.below hbel (Nat.le_refl _)
  replace Hm : Hid (Vl w4 m (M) 1048576) := Hm.out.below hbel (Nat.le_refl _)
  replace Os : Hid (Om w4 s ((A + B) % M)) := Os.out.below hbel (Nat.le_refl _)
  replace Od : Hid (Om w4 d (lessV M (A % M) (B % M))) := Od.out.below hbel (Nat.le_refl _)
  replace HB : Hid (Below w.heap.size w w4) := HB.out.trans (hbel.mono HB.out.size)
  have Op : Hid (Om w4 p (A * B % M)) := hre.om
  clear hans hre hbel
  have Cc := refuses_v a b m _ _ _ w4 (Ha.out.le (by decide)) (Hb.out.le (by decide)) (Hm.out.le (by decide))
  rw [H0.out] at Cc
  go_wp2_with fail
  refine Cc.mono ?_
  clear Cc
  rintro e w4 ⟨rfl, rfl⟩
  have Cc := vadd a b _ _ _ _ w4 Ha.out Hb.out (by decide) (by decide)
  go_wp2_with fail
  refine Cc.mono ?_
  clear Cc
  rintro e w5 ⟨t1, rfl, hnew⟩
  have hbel := hnew.2.2
  replace Ha : Hid (Vl w5 a (A) 1048576) := Ha.out.below hbel (Nat.le_refl _)
  replace Hb : Hid (Vl w5 b (B) 1048576) := Hb.out.below hbel (Nat.le_refl _)
  replace Hm : Hid (Vl w5 m (M) 1048576) := Hm.out.below hbel (Nat.le_refl _)
  replace Os : Hid (Om w5 s ((A + B) % M)) := Os.out.below hbel (Nat.le_refl _)
  replace Od : Hid (Om w5 d (lessV M (A % M) (B % M))) := Od.out.below hbel (Nat.le_refl _)
  replace Op : Hid (Om w5 p (A * B % M)) := Op.out.below hbel (Nat.le_refl _)
  replace HB : Hid (Below w.heap.size w w5) := HB.out.trans (hbel.mono HB.out.size)
  have Ot1 : Hid (Om w5 t1 (A + B)) := ⟨hnew.1.base (Nat.zero_le _), Nat.le_trans hnew.2.1 (by decide)⟩
  clear hnew hbel
  have Cc := is_v s t1 m _ _ _ w5 Os.out (Ot1.out.nu.le (by decide)) (Hm.out.le (by decide)) (by have := HM.out; omega) rfl
  go_wp2_with fail
  refine Cc.mono ?_
  clear Cc
  rintro e w6 ⟨rfl, hbel⟩
  replace Ha : Hid (Vl w6 a (A) 1048576) := Ha.out.below hbel (Nat.le_refl _)
  replace Hb : Hid (Vl w6 b (B) 1048576) := Hb.out.below hbel (Nat.le_refl _)
  replace Hm : Hid (Vl w6 m (M) 1048576) := Hm.out.below hbel (Nat.le_refl _)
  replace Os : Hid (Om w6 s ((A + B) % M)) := Os.out.below hbel (Nat.le_refl _)
  replace Od : Hid (Om w6 d (lessV M (A % M) (B % M))) := Od.out.below hbel (Nat.le_refl _)
  replace Op : Hid (Om w6 p (A * B % M)) := Op.out.below hbel (Nat.le_refl _)
  replace Ot1 : Hid (Om w6 t1 (A + B)) := Ot1.out.below hbel (Nat.le_refl _)
  replace HB : Hid (Below w.heap.size w w6) := HB.out.trans (hbel.mono HB.out.size)
  clear hbel
  have Cc := vmul a b _ _ _ _ w6 Ha.out Hb.out (by decide) (by decide)
  go_wp2_with fail
  refine Cc.mono ?_
  clear Cc
  rintro e w7 ⟨t2, rfl, hnew⟩
  have hbel := hnew.2.2
  replace Ha : Hid (Vl w7 a (A) 1048576) := Ha.out.below hbel (Nat.le_refl _)
  replace Hb : Hid (Vl w7 b (B) 1048576) := Hb.out.below hbel (Nat.le_refl _)
  replace Hm : Hid (Vl w7 m (M) 1048576) := Hm.out.below hbel (Nat.le_refl _)
  replace Os : Hid (Om w7 s ((A + B) % M)) := Os.out.below hbel (Nat.le_refl _)
  replace Od : Hid (Om w7 d (lessV M (A % M) (B % M))) := Od.out.below hbel (Nat.le_refl _)
  replace Op : Hid (Om w7 p (A * B % M)) := Op.out.below hbel (Nat.le_refl _)
  replace Ot1 : Hid (Om w7 t1 (A + B)) := Ot1.out.below hbel (Nat.le_refl _)
  replace HB : Hid (Below w.heap.size w w7) := HB.out.trans (hbel.mono HB.out.size)
  have Ot2 : Hid (Om w7 t2 (A * B)) := ⟨hnew.1.base (Nat.zero_le _), Nat.le_trans hnew.2.1 (by decide)⟩
  clear hnew hbel
  have Cc := is_v p t2 m _ _ _ w7 Op.out (Ot2.out.nu.le (by decide)) (Hm.out.le (by decide)) (by have := HM.out; omega) rfl
  go_wp2_with fail
  refine Cc.mono ?_
  clear Cc
  rintro e w8 ⟨rfl, hbel⟩
  replace Ha : Hid (Vl w8 a (A) 1048576) := Ha.out.below hbel (Nat.le_refl _)
  replace Hb : Hid (Vl w8 b (B) 1048576) := Hb.out.below hbel (Nat.le_refl _)
  replace Hm : Hid (Vl w8 m (M) 1048576) := Hm.out.below hbel (Nat.le_refl _)
  replace Os : Hid (Om w8 s ((A + B) % M)) := Os.out.below hbel (Nat.le_refl _)
  replace Od : Hid (Om w8 d (lessV M (A % M) (B % M))) := Od.out.below hbel (Nat.le_refl _)
  replace Op : Hid (Om w8 p (A * B % M)) := Op.out.below hbel (Nat.le_refl _)
  replace Ot1 : Hid (Om w8 t1 (A + B)) := Ot1.out.below hbel (Nat.le_refl _)
  replace Ot2 : Hid (Om w8 t2 (A * B)) := Ot2.out.below hbel (Nat.le_refl _)
  replace HB : Hid (Below w.heap.size w w8) := HB.out.trans (hbel.mono HB.out.size)
  clear hbel
  have HD : Hid (lessV M (A % M) (B % M) < M) := lessV_lt (Nat.mod_lt _ (by have := HM.out; omega)) (Nat.mod_lt _ (by have := HM.out; omega))
  have Cc := vcmp d m (lessV M (A % M) (B % M)) (M) 3000000 3000000 w8 Od.out.nu (Hm.out.le (by decide)) (by decide) (by decide)
  rw [show cmp3 ((lessV M (A % M) (B % M) : Nat) : Int) ((M : Nat) : Int) = -1 from cmp3_lt (by have := HD.out; omega)] at Cc
  go_wp2_with fail
  refine Cc.mono ?_
  clear Cc
  rintro e w9 ⟨rfl, qq, hq⟩
  have hbel : Below w8.heap.size w8 w9 := by rw [hq]; exact below_drewN (Below.refl _ _) qq
  replace Ha : Hid (Vl w9 a (A) 1048576) := Ha.out.below hbel (Nat.le_refl _)
  replace Hb : Hid (Vl w9 b (B) 1048576) := Hb.out.below hbel (Nat.le_refl _)
  replace Hm : Hid (Vl w9 m (M) 1048576) := Hm.out.below hbel (Nat.le_refl _)
  replace Os : Hid (Om w9 s ((A + B) % M)) := Os.out.below hbel (Nat.le_refl _)
  replace Od : Hid (Om w9 d (lessV M (A % M) (B % M))) := Od.out.below hbel (Nat.le_refl _)
  replace Op : Hid (Om w9 p (A * B % M)) := Op.out.below hbel (Nat.le_refl _)
  replace Ot1 : Hid (Om w9 t1 (A + B)) := Ot1.out.below hbel (Nat.le_refl _)
  replace Ot2 : Hid (Om w9 t2 (A * B)) := Ot2.out.below hbel (Nat.le_refl _)
  replace HB : Hid (Below w.heap.size w w9) := HB.out.trans (hbel.mono HB.out.size)
  clear hq hbel
  obtain ⟨nd, Hnd⟩ : ∃ n : Nat, Hid ((dg Bs (lessV M (A % M) (B % M))).length = n) := ⟨_, rfl⟩
  obtain ⟨da, dc, hd, _⟩ := Od.out.nm
  rw [Hnd.out] at hd
  subst hd
  have Cc := limbs_v (.slice da nd dc) (lessV M (A % M) (B % M)) _ w9 Od.out.nu (by decide)
  rw [Hnd.out] at Cc
  go_wp2_with fail
  refine Cc.mono ?_
  clear Cc
  rintro e w9 ⟨rfl, rfl⟩
  have Ody : Hid (Om w9 (.slice da nd dc) (lessV M (A % M) (B % M))) := Od.out
  clear Od
  have Cc := vadd (.slice da nd dc) b _ _ _ _ w9 (Ody.out.small (dgl_le _ _ _ (Nat.le_of_lt HD.out) Hm.out.len)) Hb.out (by decide) (by decide)
  go_wp2_with fail
  refine Cc.mono ?_
  clear Cc
  rintro e w10 ⟨t3, rfl, hnew⟩
  have hbel := hnew.2.2
  replace Ha : Hid (Vl w10 a (A) 1048576) := Ha.out.below hbel (Nat.le_refl _)
  replace Hb : Hid (Vl w10 b (B) 1048576) := Hb.out.below hbel (Nat.le_refl _)
  replace Hm : Hid (Vl w10 m (M) 1048576) := Hm.out.below hbel (Nat.le_refl _)
  replace Os : Hid (Om w10 s ((A + B) % M)) := Os.out.below hbel (Nat.le_refl _)
  replace Op : Hid (Om w10 p (A * B % M)) := Op.out.below hbel (Nat.le_refl _)
  replace Ot1 : Hid (Om w10 t1 (A + B)) := Ot1.out.below hbel (Nat.le_refl _)
  replace Ot2 : Hid (Om w10 t2 (A * B)) := Ot2.out.below hbel (Nat.le_refl _)
  replace HB : Hid (Below w.heap.size w w10) := HB.out.trans (hbel.mono HB.out.size)
  have Ot3 : Hid (Om w10 t3 (lessV M (A % M) (B % M) + B)) := ⟨hnew.1.base (Nat.zero_le _), Nat.le_trans hnew.2.1 (by decide)⟩
  clear hnew hbel Ody
  have Cc := vdiv t3 m _ _ _ _ w10 Ot3.out.nu Hm.out (by decide) (by decide) (by have := HM.out; omega)
  go_wp2_with fail
  refine Cc.mono ?_
  clear Cc
  rintro e w11 ⟨qx, x, rfl, _, hnew⟩
  have hbel := hnew.2.2
  replace Ha : Hid (Vl w11 a (A) 1048576) := Ha.out.below hbel (Nat.le_refl _)
  replace Hb : Hid (Vl w11 b (B) 1048576) := Hb.out.below hbel (Nat.le_refl _)
  replace Hm : Hid (Vl w11 m (M) 1048576) := Hm.out.below hbel (Nat.le_refl _)
  replace Os : Hid (Om w11 s ((A + B) % M)) := Os.out.below hbel (Nat.le_refl _)
  replace Op : Hid (Om w11 p (A * B % M)) := Op.out.below hbel (Nat.le_refl _)
  replace Ot1 : Hid (Om w11 t1 (A + B)) := Ot1.out.below hbel (Nat.le_refl _)
  replace Ot2 : Hid (Om w11 t2 (A * B)) := Ot2.out.below hbel (Nat.le_refl _)
  replace Ot3 : Hid (Om w11 t3 (lessV M (A % M) (B % M) + B)) := Ot3.out.below hbel (Nat.le_refl _)
  replace HB : Hid (Below w.heap.size w w11) := HB.out.trans (hbel.mono HB.out.size)
  have Ox : Hid (Om w11 x ((lessV M (A % M) (B % M) + B) % M)) := ⟨hnew.1.base (Nat.zero_le _), Nat.le_trans hnew.2.1 (by decide)⟩
  clear hnew hbel
  have Cc := vdiv a m _ _ _ _ w11 Ha.out Hm.out (by decide) (by decide) (by have := HM.out; omega)
  go_wp2_with fail
  refine Cc.mono ?_
  clear Cc
  rintro e w12 ⟨qy, y, rfl, _, hnew⟩
  have hbel := hnew.2.2
  replace Ha : Hid (Vl w12 a (A) 1048576) := Ha.out.below hbel (Nat.le_refl _)
  replace Hb : Hid (Vl w12 b (B) 1048576) := Hb.out.below hbel (Nat.le_refl _)
  replace Hm : Hid (Vl w12 m (M) 1048576) := Hm.out.below hbel (Nat.le_refl _)
  replace Os : Hid (Om w12 s ((A + B) % M)) := Os.out.below hbel (Nat.le_refl _)
  replace Op : Hid (Om w12 p (A * B % M)) := Op.out.below hbel (Nat.le_refl _)
  replace Ot1 : Hid (Om w12 t1 (A + B)) := Ot1.out.below hbel (Nat.le_refl _)
  replace Ot2 : Hid (Om w12 t2 (A * B)) := Ot2.out.below hbel (Nat.le_refl _)
  replace Ot3 : Hid (Om w12 t3 (lessV M (A % M) (B % M) + B)) := Ot3.out.below hbel (Nat.le_refl _)
  replace Ox : Hid (Om w12 x ((lessV M (A % M) (B % M) + B) % M)) := Ox.out.below hbel (Nat.le_refl _)
  replace HB : Hid (Below w.heap.size w w12) := HB.out.trans (hbel.mono HB.out.size)
  have Oy : Hid (Om w12 y (A % M)) := ⟨hnew.1.base (Nat.zero_le _), Nat.le_trans hnew.2.1 (by decide)⟩
  clear hnew hbel
  have Cc := lsame_eq x y (A % M) w12 (by have h := Ox.out.nm; rw [less_back A B M HM.out] at h; exact h) Oy.out.nm (Nat.le_trans Oy.out.2 (by decide))
  go_wp2_with fail
  refine Cc.mono ?_
  clear Cc
  rintro e w13 ⟨rfl, qq, hq⟩
  have hbel : Below w12.heap.size w12 w13 := by rw [hq]; exact below_drewN (Below.refl _ _) qq
  replace Ha : Hid (Vl w13 a (A) 1048576) := Ha.out.below hbel (Nat.le_refl _)
  replace Hb : Hid (Vl w13 b (B) 1048576) := Hb.out.below hbel (Nat.le_refl _)
  replace Hm : Hid (Vl w13 m (M) 1048576) := Hm.out.below hbel (Nat.le_refl _)
  replace Os : Hid (Om w13 s ((A + B) % M)) := Os.out.below hbel (Nat.le_refl _)
  replace Op : Hid (Om w13 p (A * B % M)) := Op.out.below hbel (Nat.le_refl _)
  replace Ot1 : Hid (Om w13 t1 (A + B)) := Ot1.out.below hbel (Nat.le_refl _)
  replace Ot2 : Hid (Om w13 t2 (A * B)) := Ot2.out.below hbel (Nat.le_refl _)
  replace Ot3 : Hid (Om w13 t3 (lessV M (A % M) (B % M) + B)) := Ot3.out.below hbel (Nat.le_refl _)
  replace Ox : Hid (Om w13 x ((lessV M (A % M) (B % M) + B) % M)) := Ox.out.below hbel (Nat.le_refl _)
  replace Oy : Hid (Om w13 y (A % M)) := Oy.out.below hbel (Nat.le_refl _)
  replace HB : Hid (Below w.heap.size w w13) := HB.out.trans (hbel.mono HB.out.size)
  clear hq hbel
  go_wp2
  go_ret
  exact ⟨rfl, HB.out⟩

theorem def_core (a b m : Value) (A B M : Nat) (w : World) (ha : Vl w a A 1048576) (hb : Vl w b B 1048576) (hm : Vl w m M 1048576) :
    Calls Try.prog 6 #[a, b, m] w fun e w' => e = .returned (.bool true) ∧ Below w.heap.size w w' := by
  by_cases h0 : rcode M (Lg A || Lg B) = 0
  · exact def_ok a b m A B M w ha hb hm h0
  · exact def_ref a b m A B M w ha hb hm h0

end Go.Proofs.Ytecapoknnnoheaa
