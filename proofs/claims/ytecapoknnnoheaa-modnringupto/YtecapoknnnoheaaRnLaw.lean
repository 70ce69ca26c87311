import Derived.Test.YtecapoknnnoheaaMl4
namespace Go.Proofs.Ytecapoknnnoheaa
open Go.RowKit

set_option maxRecDepth 100000 in
set_option maxHeartbeats 8000000 in
theorem ring_ref (a b c m : Value) (A B C M : Nat) (w : World) (ha : Vl w a A 1048576) (hb : Vl w b B 1048576) (hc : Vl w c C 1048576) (hm : Vl w m M 1048576) (h0 : rcode M (Lg A || Lg B) ≠ 0) :
    Calls Try.prog 8 #[a, b, c, m] w fun e w' => e = .returned (.bool true) ∧ Below w.heap.size w w' := by
  obtain ⟨cc, Hcc, hc0⟩ : ∃ c : Nat, Hid (rcode M (Lg A || Lg B) = c) ∧ c ≠ 0 := ⟨_, rfl, h0⟩
  have hcI : ((cc : Int) != 0) = true := by simp; omega
  clear h0 hc0
  have Ha : Hid (Vl w a A 1048576) := ha
  have Hb : Hid (Vl w b B 1048576) := hb
  have Hc : Hid (Vl w c C 1048576) := hc
  have Hm : Hid (Vl w m M 1048576) := hm
  have HB : Hid (Below w.heap.size w w) := Below.refl _ _
  clear ha hb hc hm
  go_enter Try.func8, Try.ntmps8
  have Cc := awake_v w
  go_wp2_with fail
  refine Cc.mono ?_
  clear Cc
  rintro e w1 ⟨rfl, hbel⟩
  replace Ha : Hid (Vl w1 a (A) 1048576) := Ha.out.below hbel (Nat.le_refl _)
  replace Hb : Hid (Vl w1 b (B) 1048576) := Hb.out.below hbel (Nat.le_refl _)
  replace Hc : Hid (Vl w1 c (C) 1048576) := Hc.out.below hbel (Nat.le_refl _)
  replace Hm : Hid (Vl w1 m (M) 1048576) := Hm.out.below hbel (Nat.le_refl _)
  replace HB : Hid (Below w.heap.size w w1) := HB.out.trans (hbel.mono HB.out.size)
  clear hbel
  have Cc := refuses_v a b m _ _ _ w1 (Ha.out.le (by decide)) (Hb.out.le (by decide)) (Hm.out.le (by decide))
  rw [Hcc.out] at Cc
  go_wp2_with fail
  refine Cc.mono ?_
  clear Cc
  rintro e w1 ⟨rfl, rfl⟩
  go_wp2
  go_ret
  exact ⟨rfl, HB.out⟩

set_option maxRecDepth 100000 in
set_option maxHeartbeats 8000000 in
theorem ring_c (a b c m : Value) (A B C M : Nat) (w : World) (ha : Vl w a A 1048576) (hb : Vl w b B 1048576) (hc : Vl w c C 1048576) (hm : Vl w m M 1048576) (h0 : rcode M (Lg A || Lg B) = 0) (hc1 : Lg C = true) :
    Calls Try.prog 8 #[a, b, c, m] w fun e w' => e = .returned (.bool true) ∧ Below w.heap.size w w' := by
  have HM : Hid (2 ≤ M) := (rcode_zero h0).2.2
  have lM : Hid (Lg M = false) := (rcode_zero h0).1
  have lA : Hid (Lg A = false) := (Bool.or_eq_false_iff.1 (rcode_zero h0).2.1).1
  have lB : Hid (Lg B = false) := (Bool.or_eq_false_iff.1 (rcode_zero h0).2.1).2
  have H0 : Hid (rcode M (Lg A || Lg B) = 0) := h0
  have lC : Hid (Lg C = true) := hc1
  clear h0 hc1
  have Ha : Hid (Vl w a A 1048576) := ha
  have Hb : Hid (Vl w b B 1048576) := hb
  have Hc : Hid (Vl w c C 1048576) := hc
  have Hm : Hid (Vl w m M 1048576) := hm
  have HB : Hid (Below w.heap.size w w) := Below.refl _ _
  clear ha hb hc hm
  go_enter Try.func8, Try.ntmps8
  have Cc := awake_v w
  go_wp2_with fail
  refine Cc.mono ?_
  clear Cc
  rintro e w1 ⟨rfl, hbel⟩
  replace Ha : Hid (Vl w1 a (A) 1048576) := Ha.out.below hbel (Nat.le_refl _)
  replace Hb : Hid (Vl w1 b (B) 1048576) := Hb.out.below hbel (Nat.le_refl _)
  replace Hc : Hid (Vl w1 c (C) 1048576) := Hc.out.below hbel (Nat.le_refl _)
  replace Hm : Hid (Vl w1 m (M) 1048576) := Hm.out.below hbel (Nat.le_refl _)
  replace HB : Hid (Below w.heap.size w w1) := HB.out.trans (hbel.mono HB.out.size)
  clear hbel
  have Cc := refuses_v a b m _ _ _ w1 (Ha.out.le (by decide)) (Hb.out.le (by decide)) (Hm.out.le (by decide))
  rw [H0.out] at Cc
  go_wp2_with fail
  refine Cc.mono ?_
  clear Cc
  rintro e w1 ⟨rfl, rfl⟩
  obtain ⟨nc, Hnc, hnc⟩ : ∃ n : Nat, Hid ((dg Bs (C)).length = n) ∧ decide ((n : Int) > 128) = true := ⟨_, rfl, by have h := lC.out; unfold Lg at h; rw [← h]; congr 1; simp; omega⟩
  have Cc := limbs_v c (C) _ w1 Hc.out (by decide)
  rw [Hnc.out] at Cc
  go_wp2_with fail
  refine Cc.mono ?_
  clear Cc
  rintro e w1 ⟨rfl, rfl⟩
  go_wp2
  go_ret
  exact ⟨rfl, HB.out⟩

set_option maxRecDepth 100000 in
set_option maxHeartbeats 8000000 in
theorem ring_large (a b c m : Value) (A B C M : Nat) (w : World) (ha : Vl w a A 1048576) (hb : Vl w b B 1048576) (hc : Vl w c C 1048576) (hm : Vl w m M 1048576) (h0 : rcode M (Lg A || Lg B) = 0) (hc1 : Lg C = false) (ht1 : Lg (A % M + M) = true) :
    Calls Try.prog 8 #[a, b, c, m] w fun e w' => e = .returned (.bool true) ∧ Below w.heap.size w w' := by
  have HM : Hid (2 ≤ M) := (rcode_zero h0).2.2
  have lM : Hid (Lg M = false) := (rcode_zero h0).1
  have lA : Hid (Lg A = false) := (Bool.or_eq_false_iff.1 (rcode_zero h0).2.1).1
  have lB : Hid (Lg B = false) := (Bool.or_eq_false_iff.1 (rcode_zero h0).2.1).2
  have H0 : Hid (rcode M (Lg A || Lg B) = 0) := h0
  have lC : Hid (Lg C = false) := hc1
  have lT : Hid (Lg (A % M + M) = true) := ht1
  clear h0 hc1 ht1
  have Ha : Hid (Vl w a A 1048576) := ha
  have Hb : Hid (Vl w b B 1048576) := hb
  have Hc : Hid (Vl w c C 1048576) := hc
  have Hm : Hid (Vl w m M 1048576) := hm
  have HB : Hid (Below w.heap.size w w) := Below.refl _ _
  clear ha hb hc hm
  go_enter Try.func8, Try.ntmps8
  have Cc := awake_v w
  go_wp2_with fail
  refine Cc.mono ?_
  clear Cc
  rintro e w1 ⟨rfl, hbel⟩
  replace Ha : Hid (Vl w1 a (A) 1048576) := Ha.out.below hbel (Nat.le_refl _)
  replace Hb : Hid (Vl w1 b (B) 1048576) := Hb.out.below hbel (Nat.le_refl _)
  replace Hc : Hid (Vl w1 c (C) 1048576) := Hc.out.below hbel (Nat.le_refl _)
  replace Hm : Hid (Vl w1 m (M) 1048576) := Hm.out.below hbel (Nat.le_refl _)
  replace HB : Hid (Below w.heap.size w w1) := HB.out.trans (hbel.mono HB.out.size)
  clear hbel
  have Cc := refuses_v a b m _ _ _ w1 (Ha.out.le (by decide)) (Hb.out.le (by decide)) (Hm.out.le (by decide))
  rw [H0.out] at Cc
  go_wp2_with fail
  refine Cc.mono ?_
  clear Cc
  rintro e w1 ⟨rfl, rfl⟩
  obtain ⟨nc, Hnc, hnc⟩ : ∃ n : Nat, Hid ((dg Bs (C)).length = n) ∧ decide ((n : Int) > 128) = false := ⟨_, rfl, by have h := lC.out; unfold Lg at h; rw [← h]; congr 1; simp; omega⟩
  have Cc := limbs_v c (C) _ w1 Hc.out (by decide)
  rw [Hnc.out] at Cc
  go_wp2_with fail
  refine Cc.mono ?_
  clear Cc
  rintro e w1 ⟨rfl, rfl⟩
  have Cc := madd_v a b m (A) (B) (M) w1 (Ha.out.le (by decide)) (Hb.out.le (by decide)) (Hm.out.le (by decide))
  go_wp2_with fail
  refine Cc.mono ?_
  clear Cc
  rintro e w2 hans
  obtain ⟨ab, rfl, hre⟩ := hans.ok H0.out
  have hbel := hre.bel
  replace Ha : Hid (Vl w2 a (A) 1048576) := Ha.out.below hbel (Nat.le_refl _)
  replace Hb : Hid (Vl w2 b (B) 1048576) := Hb.out.below hbel (Nat.le_refl _)
  replace Hc : Hid (Vl w2 c (C) 1048576) := Hc.out.below hbel (Nat.le_refl _)
  replace Hm : Hid (Vl w2 m (M) 1048576) := Hm.out.below hbel (Nat.le_refl _)
  replace HB : Hid (Below w.heap.size w w2) := HB.out.trans (hbel.mono HB.out.size)
  have Oab : Hid (Om w2 ab ((A + B) % M)) := hre.om
  clear hans hre hbel
  have Cc := madd_v b a m (B) (A) (M) w2 (Hb.out.le (by decide)) (Ha.out.le (by decide)) (Hm.out.le (by decide))
  go_wp2_with fail
  refine Cc.mono ?_
  clear Cc
  rintro e w3 hans
  obtain ⟨ba, rfl, hre⟩ := hans.ok (rc0 HM.out lM.out lB.out lA.out)
  have hbel := hre.bel
  replace Ha : Hid (Vl w3 a (A) 1048576) := Ha.out.below hbel (Nat.le_refl _)
  replace Hb : Hid (Vl w3 b (B) 1048576) := Hb.out.below hbel (Nat.le_refl _)
  replace Hc : Hid (Vl w3 c (C) 1048576) := Hc.out.below hbel (Nat.le_refl _)
  replace Hm : Hid (Vl w3 m (M) 1048576) := Hm.out.below hbel (Nat.le_refl _)
  replace Oab : Hid (Om w3 ab ((A + B) % M)) := Oab.out.below hbel (Nat.le_refl _)
  replace HB : Hid (Below w.heap.size w w3) := HB.out.trans (hbel.mono HB.out.size)
  have Oba : Hid (Om w3 ba ((B + A) % M)) := hre.om
  clear hans hre hbel
  have Cc := madd_v b c m (B) (C) (M) w3 (Hb.out.le (by decide)) (Hc.out.le (by decide)) (Hm.out.le (by decide))
  go_wp2_with fail
  refine Cc.mono ?_
  clear Cc
  rintro e w4 hans
  obtain ⟨bc, rfl, hre⟩ := hans.ok (rc0 HM.out lM.out lB.out lC.out)
  have hbel := hre.bel
  replace Ha : Hid (Vl w4 a (A) 1048576) := Ha.out.below hbel (Nat.le_refl _)
  replace Hb : Hid (Vl w4 b (B) 1048576) := Hb.out.below hbel (Nat.le_refl _)
  replace Hc : Hid (Vl w4 c (C) 1048576) := Hc.out.below hbel (Nat.le_refl _)
  replace Hm : Hid (Vl w4 m (M) 1048576) := Hm.out.below hbel (Nat.le_refl _)
  replace Oab : Hid (Om w4 ab ((A + B) % M)) := Oab.out.below hbel (Nat.le_refl _)
  replace Oba : Hid (Om w4 ba ((B + A) % M)) := Oba.out.below hbel (Nat.le_refl _)
  replace HB : Hid (Below w.heap.size w w4) := HB.out.trans (hbel.mono HB.out.size)
  have Obc : Hid (Om w4 bc ((B + C) % M)) := hre.om
  clear hans hre hbel
  have Cc := madd_v ab c m ((A + B) % M) (C) (M) w4 Oab.out.nu (Hc.out.le (by decide)) (Hm.out.le (by decide))
  go_wp2_with fail
  refine Cc.mono ?_
  clear Cc
  rintro e w5 hans
  obtain ⟨l, rfl, hre⟩ := hans.ok (rc0 HM.out lM.out (Lg_mod lM.out HM.out) lC.out)
  have hbel := hre.bel
  replace Ha : Hid (Vl w5 a (A) 1048576) := Ha.out.below hbel (Nat.le_refl _)
  replace Hb : Hid (Vl w5 b (B) 1048576) := Hb.out.below hbel (Nat.le_refl _)
  replace Hc : Hid (Vl w5 c (C) 1048576) := Hc.out.below hbel (Nat.le_refl _)
  replace Hm : Hid (Vl w5 m (M) 1048576) := Hm.out.below hbel (Nat.le_refl _)
  replace Oab : Hid (Om w5 ab ((A + B) % M)) := Oab.out.below hbel (Nat.le_refl _)
  replace Oba : Hid (Om w5 ba ((B + A) % M)) := Oba.out.below hbel (Nat.le_refl _)
  replace Obc : Hid (Om w5 bc ((B + C) % M)) := Obc.out.below hbel (Nat.le_refl _)
  replace HB : Hid (Below w.heap.size w w5) := HB.out.trans (hbel.mono HB.out.size)
  have Ol : Hid (Om w5 l (((A + B) % M + C) % M)) := hre.om
  clear hans hre hbel
  have Cc := madd_v a bc m (A) ((B + C) % M) (M) w5 (Ha.out.le (by decide)) Obc.out.nu (Hm.out.le (by decide))
  go_wp2_with fail
  refine Cc.mono ?_
  clear Cc
  rintro e w6 hans
  obtain ⟨r, rfl, hre⟩ := hans.ok (rc0 HM.out lM.out lA.out (Lg_mod lM.out HM.out))
  have hbel := hre.bel
  replace Ha : Hid (Vl w6 a (A) 1048576) := Ha.out.below hbel (Nat.le_refl _)
  replace Hb : Hid (Vl w6 b (B) 1048576) := Hb.out.below hbel (Nat.le_refl _)
  replace Hc : Hid (Vl w6 c (C) 1048576) := Hc.out.below hbel (Nat.le_refl _)
  replace Hm : Hid (Vl w6 m (M) 1048576) := Hm.out.below hbel (Nat.le_refl _)
  replace Oab : Hid (Om w6 ab ((A + B) % M)) := Oab.out.below hbel (Nat.le_refl _)
  replace Oba : Hid (Om w6 ba ((B + A) % M)) := Oba.out.below hbel (Nat.le_refl _)
  replace Obc : Hid (Om w6 bc ((B + C) % M)) := Obc.out.below hbel (Nat.le_refl _)
  replace Ol : Hid (Om w6 l (((A + B) % M + C) % M)) := Ol.out.below hbel (Nat.le_refl _)
  replace HB : Hid (Below w.heap.size w w6) := HB.out.trans (hbel.mono HB.out.size)
  have Or : Hid (Om w6 r ((A + (B + C) % M) % M)) := hre.om
  clear hans hre hbel
  have Cc := lsame_eq ab ba ((A + B) % M) w6 Oab.out.nm (by have h := Oba.out.nm; rw [Nat.add_comm B A] at h; exact h) (Nat.le_trans Oab.out.2 (by decide))
  go_wp2_with fail
  refine Cc.mono ?_
  clear Cc
  rintro e w7 ⟨rfl, qq, hq⟩
  have hbel : Below w6.heap.size w6 w7 := by rw [hq]; exact below_drewN (Below.refl _ _) qq
  replace Ha : Hid (Vl w7 a (A) 1048576) := Ha.out.below hbel (Nat.le_refl _)
  replace Hb : Hid (Vl w7 b (B) 1048576) := Hb.out.below hbel (Nat.le_refl _)
  replace Hc : Hid (Vl w7 c (C) 1048576) := Hc.out.below hbel (Nat.le_refl _)
  replace Hm : Hid (Vl w7 m (M) 1048576) := Hm.out.below hbel (Nat.le_refl _)
  replace Oab : Hid (Om w7 ab ((A + B) % M)) := Oab.out.below hbel (Nat.le_refl _)
  replace Oba : Hid (Om w7 ba ((B + A) % M)) := Oba.out.below hbel (Nat.le_refl _)
  replace Obc : Hid (Om w7 bc ((B + C) % M)) := Obc.out.below hbel (Nat.le_refl _)
  replace Ol : Hid (Om w7 l (((A + B) % M + C) % M)) := Ol.out.below hbel (Nat.le_refl _)
  replace Or : Hid (Om w7 r ((A + (B + C) % M) % M)) := Or.out.below hbel (Nat.le_refl _)
  replace HB : Hid (Below w.heap.size w w7) := HB.out.trans (hbel.mono HB.out.size)
  clear hq hbel
  have Cc := lsame_eq l r (((A + B) % M + C) % M) w7 Ol.out.nm (by have h := Or.out.nm; rw [← ring_add A B C M] at h; exact h) (Nat.le_trans Ol.out.2 (by decide))
  go_wp2_with fail
  refine Cc.mono ?_
  clear Cc
  rintro e w8 ⟨rfl, qq, hq⟩
  have hbel : Below w7.heap.size w7 w8 := by rw [hq]; exact below_drewN (Below.refl _ _) qq
  replace Ha : Hid (Vl w8 a (A) 1048576) := Ha.out.below hbel (Nat.le_refl _)
  replace Hb : Hid (Vl w8 b (B) 1048576) := Hb.out.below hbel (Nat.le_refl _)
  replace Hc : Hid (Vl w8 c (C) 1048576) := Hc.out.below hbel (Nat.le_refl _)
  replace Hm : Hid (Vl w8 m (M) 1048576) := Hm.out.below hbel (Nat.le_refl _)
  replace Oab : Hid (Om w8 ab ((A + B) % M)) := Oab.out.below hbel (Nat.le_refl _)
  replace Oba : Hid (Om w8 ba ((B + A) % M)) := Oba.out.below hbel (Nat.le_refl _)
  replace Obc : Hid (Om w8 bc ((B + C) % M)) := Obc.out.below hbel (Nat.le_refl _)
  replace Ol : Hid (Om w8 l (((A + B) % M + C) % M)) := Ol.out.below hbel (Nat.le_refl _)
  replace Or : Hid (Om w8 r ((A + (B + C) % M) % M)) := Or.out.below hbel (Nat.le_refl _)
  replace HB : Hid (Below w.heap.size w w8) := HB.out.trans (hbel.mono HB.out.size)
  clear hq hbel
  have Cc := msub_v ab b m ((A + B) % M) (B) (M) w8 Oab.out.nu (Hb.out.le (by decide)) (Hm.out.le (by decide))
  go_wp2_with fail
  refine Cc.mono ?_
  clear Cc
  rintro e w9 hans
  obtain ⟨d, rfl, hre⟩ := hans.ok (rc0 HM.out lM.out (Lg_mod lM.out HM.out) lB.out)
  have hbel := hre.bel
  replace Ha : Hid (Vl w9 a (A) 1048576) := Ha.out.below hbel (Nat.le_refl _)
  replace Hb : Hid (Vl w9 b (B) 1048576) := Hb.out.below hbel (Nat.le_refl _)
  replace Hc : Hid (Vl w9 c (C) 1048576) := Hc.out.below hbel (Nat.le_refl _)
  replace Hm : Hid (Vl w9 m (M) 1048576) := Hm.out.below hbel (Nat.le_refl _)
  replace Oab : Hid (Om w9 ab ((A + B) % M)) := Oab.out.below hbel (Nat.le_refl _)
  replace Oba : Hid (Om w9 ba ((B + A) % M)) := Oba.out.below hbel (Nat.le_refl _)
  replace Obc : Hid (Om w9 bc ((B + C) % M)) := Obc.out.below hbel (Nat.le_refl _)
  replace Ol : Hid (Om w9 l (((A + B) % M + C) % M)) := Ol.out.below hbel (Nat.le_refl _)
  replace Or : Hid (Om w9 r ((A + (B + C) % M) % M)) := Or.out.below hbel (Nat.le_refl _)
  replace HB : Hid (Below w.heap.size w w9) := HB.out.trans (hbel.mono HB.out.size)
  have Od : Hid (Om w9 d (lessV M ((A + B) % M % M) (B % M))) := hre.om
  clear hans hre hbel
  rw [less_sum A B M HM.out] at Od
  have Cc := is_v d a m _ _ _ w9 Od.out (Ha.out.le (by decide)) (Hm.out.le (by decide)) (by have := HM.out; omega) rfl
  go_wp2_with fail
  refine Cc.mono ?_
  clear Cc
  rintro e w10 ⟨rfl, hbel⟩
  replace Ha : Hid (Vl w10 a (A) 1048576) := Ha.out.below hbel (Nat.le_refl _)
  replace Hb : Hid (Vl w10 b (B) 1048576) := Hb.out.below hbel (Nat.le_refl _)
  replace Hc : Hid (Vl w10 c (C) 1048576) := Hc.out.below hbel (Nat.le_refl _)
  replace Hm : Hid (Vl w10 m (M) 1048576) := Hm.out.below hbel (Nat.le_refl _)
  replace Oab : Hid (Om w10 ab ((A + B) % M)) := Oab.out.below hbel (Nat.le_refl _)
  replace Oba : Hid (Om w10 ba ((B + A) % M)) := Oba.out.below hbel (Nat.le_refl _)
  replace Obc : Hid (Om w10 bc ((B + C) % M)) := Obc.out.below hbel (Nat.le_refl _)
  replace Ol : Hid (Om w10 l (((A + B) % M + C) % M)) := Ol.out.below hbel (Nat.le_refl _)
  replace Or : Hid (Om w10 r ((A + (B + C) % M) % M)) := Or.out.below hbel (Nat.le_refl _)
  replace Od : Hid (Om w10 d (A % M)) := Od.out.below hbel (Nat.le_refl _)
  replace HB : Hid (Below w.heap.size w w10) := HB.out.trans (hbel.mono HB.out.size)
  clear hbel
  clear Ol Or Oba
  have Cc := mmul_v a b m (A) (B) (M) w10 (Ha.out.le (by decide)) (Hb.out.le (by decide)) (Hm.out.le (by decide))
  go_wp2_with fail
  refine Cc.mono ?_
  clear Cc
  rintro e w11 hans
  obtain ⟨pq, rfl, hre⟩ := hans.ok H0.out
  have hbel := hre.bel
  replace Ha : Hid (Vl w11 a (A) 1048576) := Ha.out.below hbel (Nat.le_refl _)
  replace Hb : Hid (Vl w11 b (B) 1048576) := Hb.out.below hbel (Nat.le_refl _)
  replace Hc : Hid (Vl w11 c (C) 1048576) := Hc.out.below hbel (Nat.le_refl _)
  replace Hm : Hid (Vl w11 m (M) 1048576) := Hm.out.below hbel (Nat.le_refl _)
  replace Oab : Hid (Om w11 ab ((A + B) % M)) := Oab.out.below hbel (Nat.le_refl _)
  replace Obc : Hid (Om w11 bc ((B + C) % M)) := Obc.out.below hbel (Nat.le_refl _)
  replace Od : Hid (Om w11 d (A % M)) := Od.out.below hbel (Nat.le_refl _)
  replace HB : Hid (Below w.heap.size w w11) := HB.out.trans (hbel.mono HB.out.size)
  have Opq : Hid (Om w11 pq (A * B % M)) := hre.om
  clear hans hre hbel
  have Cc := mmul_v b a m (B) (A) (M) w11 (Hb.out.le (by decide)) (Ha.out.le (by decide)) (Hm.out.le (by decide))
  go_wp2_with fail
  refine Cc.mono ?_
  clear Cc
  rintro e w12 hans
  obtain ⟨qp, rfl, hre⟩ := hans.ok (rc0 HM.out lM.out lB.out lA.out)
  have hbel := hre.bel
  replace Ha : Hid (Vl w12 a (A) 1048576) := Ha.out.below hbel (Nat.le_refl _)
  replace Hb : Hid (Vl w12 b (B) 1048576) := Hb.out.below hbel (Nat.le_refl _)
  replace Hc : Hid (Vl w12 c (C) 1048576) := Hc.out.below hbel (Nat.le_refl _)
  replace Hm : Hid (Vl w12 m (M) 1048576) := Hm.out.below hbel (Nat.le_refl _)
  replace Oab : Hid (Om w12 ab ((A + B) % M)) := Oab.out.below hbel (Nat.le_refl _)
  replace Obc : Hid (Om w12 bc ((B + C) % M)) := Obc.out.below hbel (Nat.le_refl _)
  replace Od : Hid (Om w12 d (A % M)) := Od.out.below hbel (Nat.le_refl _)
  replace Opq : Hid (Om w12 pq (A * B % M)) := Opq.out.below hbel (Nat.le_refl _)
  replace HB : Hid (Below w.heap.size w w12) := HB.out.trans (hbel.mono HB.out.size)
  have Oqp : Hid (Om w12 qp (B * A % M)) := hre.om
  clear hans hre hbel
  have Cc := mmul_v b c m (B) (C) (M) w12 (Hb.out.le (by decide)) (Hc.out.le (by decide)) (Hm.out.le (by decide))
  go_wp2_with fail
  refine Cc.mono ?_
  clear Cc
  rintro e w13 hans
  obtain ⟨qc, rfl, hre⟩ := hans.ok (rc0 HM.out lM.out lB.out lC.out)
  have hbel := hre.bel
  replace Ha : Hid (Vl w13 a (A) 1048576) := Ha.out.below hbel (Nat.le_refl _)
  replace Hb : Hid (Vl w13 b (B) 1048576) := Hb.out.below hbel (Nat.le_refl _)
  replace Hc : Hid (Vl w13 c (C) 1048576) := Hc.out.below hbel (Nat.le_refl _)
  replace Hm : Hid (Vl w13 m (M) 1048576) := Hm.out.below hbel (Nat.le_refl _)
  replace Oab : Hid (Om w13 ab ((A + B) % M)) := Oab.out.below hbel (Nat.le_refl _)
  replace Obc : Hid (Om w13 bc ((B + C) % M)) := Obc.out.below hbel (Nat.le_refl _)
  replace Od : Hid (Om w13 d (A % M)) := Od.out.below hbel (Nat.le_refl _)
  replace Opq : Hid (Om w13 pq (A * B % M)) := Opq.out.below hbel (Nat.le_refl _)
  replace Oqp : Hid (Om w13 qp (B * A % M)) := Oqp.out.below hbel (Nat.le_refl _)
  replace HB : Hid (Below w.heap.size w w13) := HB.out.trans (hbel.mono HB.out.size)
  have Oqc : Hid (Om w13 qc (B * C % M)) := hre.om
  clear hans hre hbel
  have Cc := mmul_v pq c m (A * B % M) (C) (M) w13 Opq.out.nu (Hc.out.le (by decide)) (Hm.out.le (by decide))
  go_wp2_with fail
  refine Cc.mono ?_
  clear Cc
  rintro e w14 hans
  obtain ⟨l2, rfl, hre⟩ := hans.ok (rc0 HM.out lM.out (Lg_mod lM.out HM.out) lC.out)
  have hbel := hre.bel
  replace Ha : Hid (Vl w14 a (A) 1048576) := Ha.out.below hbel (Nat.le_refl _)
  replace Hb : Hid (Vl w14 b (B) 1048576) := Hb.out.below hbel (Nat.le_refl _)
  replace Hc : Hid (Vl w14 c (C) 1048576) := Hc.out.below hbel (Nat.le_refl _)
  replace Hm : Hid (Vl w14 m (M) 1048576) := Hm.out.below hbel (Nat.le_refl _)
  replace Oab : Hid (Om w14 ab ((A + B) % M)) := Oab.out.below hbel (Nat.le_refl _)
  replace Obc : Hid (Om w14 bc ((B + C) % M)) := Obc.out.below hbel (Nat.le_refl _)
  replace Od : Hid (Om w14 d (A % M)) := Od.out.below hbel (Nat.le_refl _)
  replace Opq : Hid (Om w14 pq (A * B % M)) := Opq.out.below hbel (Nat.le_refl _)
  replace Oqp : Hid (Om w14 qp (B * A % M)) := Oqp.out.below hbel (Nat.le_refl _)
  replace Oqc : Hid (Om w14 qc (B * C % M)) := Oqc.out.below hbel (Nat.le_refl _)
  replace HB : Hid (Below w.heap.size w w14) := HB.out.trans (hbel.mono HB.out.size)
  have Ol2 : Hid (Om w14 l2 (A * B % M * C % M)) := hre.om
  clear hans hre hbel
  have Cc := mmul_v a qc m (A) (B * C % M) (M) w14 (Ha.out.le (by decide)) Oqc.out.nu (Hm.out.le (by decide))
  go_wp2_with fail
  refine Cc.mono ?_
  clear Cc
  rintro e w15 hans
  obtain ⟨r2, rfl, hre⟩ := hans.ok (rc0 HM.out lM.out lA.out (Lg_mod lM.out HM.out))
  have hbel := hre.bel
  replace Ha : Hid (Vl w15 a (A) 1048576) := Ha.out.below hbel (Nat.le_refl _)
  replace Hb : Hid (Vl w15 b (B) 1048576) := Hb.out.below hbel (Nat.le_refl _)
  replace Hc : Hid (Vl w15 c (C) 1048576) := Hc.out.below hbel (Nat.le_refl _)
  replace Hm : Hid (Vl w15 m (M) 1048576) := Hm.out.below hbel (Nat.le_refl _)
  replace Oab : Hid (Om w15 ab ((A + B) % M)) := Oab.out.below hbel (Nat.le_refl _)
  replace Obc : Hid (Om w15 bc ((B + C) % M)) := Obc.out.below hbel (Nat.le_refl _)
  replace Od : Hid (Om w15 d (A % M)) := Od.out.below hbel (Nat.le_refl _)
  replace Opq : Hid (Om w15 pq (A * B % M)) := Opq.out.below hbel (Nat.le_refl _)
  replace Oqp : Hid (Om w15 qp (B * A % M)) := Oqp.out.below hbel (Nat.le_refl _)
  replace Oqc : Hid (Om w15 qc (B * C % M)) := Oqc.out.below hbel (Nat.le_refl _)
  replace Ol2 : Hid (Om w15 l2 (A * B % M * C % M)) := Ol2.out.below hbel (Nat.le_refl _)
  replace HB : Hid (Below w.heap.size w w15) := HB.out.trans (hbel.mono HB.out.size)
  have Or2 : Hid (Om w15 r2 (A * (B * C % M) % M)) := hre.om
  clear hans hre hbel
  have Cc := lsame_eq pq qp (A * B % M) w15 Opq.out.nm (by have h := Oqp.out.nm; rw [Nat.mul_comm B A] at h; exact h) (Nat.le_trans Opq.out.2 (by decide))
  go_wp2_with fail
  refine Cc.mono ?_
  clear Cc
  rintro e w16 ⟨rfl, qq, hq⟩
  have hbel : Below w15.heap.size w15 w16 := by rw [hq]; exact below_drewN (Below.refl _ _) qq
  replace Ha : Hid (Vl w16 a (A) 1048576) := Ha.out.below hbel (Nat.le_refl _)
  replace Hb : Hid (Vl w16 b (B) 1048576) := Hb.out.below hbel (Nat.le_refl _)
  replace Hc : Hid (Vl w16 c (C) 1048576) := Hc.out.below hbel (Nat.le_refl _)
  replace Hm : Hid (Vl w16 m (M) 1048576) := Hm.out.below hbel (Nat.le_refl _)
  replace Oab : Hid (Om w16 ab ((A + B) % M)) := Oab.out.below hbel (Nat.le_refl _)
  replace Obc : Hid (Om w16 bc ((B + C) % M)) := Obc.out.below hbel (Nat.le_refl _)
  replace Od : Hid (Om w16 d (A % M)) := Od.out.below hbel (Nat.le_refl _)
  replace Opq : Hid (Om w16 pq (A * B % M)) := Opq.out.below hbel (Nat.le_refl _)
  replace Oqp : Hid (Om w16 qp (B * A % M)) := Oqp.out.below hbel (Nat.le_refl _)
  replace Oqc : Hid (Om w16 qc (B * C % M)) := Oqc.out.below hbel (Nat.le_refl _)
  replace Ol2 : Hid (Om w16 l2 (A * B % M * C % M)) := Ol2.out.below hbel (Nat.le_refl _)
  replace Or2 : Hid (Om w16 r2 (A * (B * C % M) % M)) := Or2.out.below hbel (Nat.le_refl _)
  replace HB : Hid (Below w.heap.size w w16) := HB.out.trans (hbel.mono HB.out.size)
  clear hq hbel
  have Cc := lsame_eq l2 r2 (A * B % M * C % M) w16 Ol2.out.nm (by have h := Or2.out.nm; rw [← ring_mul A B C M] at h; exact h) (Nat.le_trans Ol2.out.2 (by decide))
  go_wp2_with fail
  refine Cc.mono ?_
  clear Cc
  rintro e w17 ⟨rfl, qq, hq⟩
  have hbel : Below w16.heap.size w16 w17 := by rw [hq]; exact below_drewN (Below.refl _ _) qq
  replace Ha : Hid (Vl w17 a (A) 1048576) := Ha.out.below hbel (Nat.le_refl _)
  replace Hb : Hid (Vl w17 b (B) 1048576) := Hb.out.below hbel (Nat.le_refl _)
  replace Hc : Hid (Vl w17 c (C) 1048576) := Hc.out.below hbel (Nat.le_refl _)
  replace Hm : Hid (Vl w17 m (M) 1048576) := Hm.out.below hbel (Nat.le_refl _)
  replace Oab : Hid (Om w17 ab ((A + B) % M)) := Oab.out.below hbel (Nat.le_refl _)
  replace Obc : Hid (Om w17 bc ((B + C) % M)) := Obc.out.below hbel (Nat.le_refl _)
  replace Od : Hid (Om w17 d (A % M)) := Od.out.below hbel (Nat.le_refl _)
  replace Opq : Hid (Om w17 pq (A * B % M)) := Opq.out.below hbel (Nat.le_refl _)
  replace Oqp : Hid (Om w17 qp (B * A % M)) := Oqp.out.below hbel (Nat.le_refl _)
  replace Oqc : Hid (Om w17 qc (B * C % M)) := Oqc.out.below hbel (Nat.le_refl _)
  replace Ol2 : Hid (Om w17 l2 (A * B % M * C % M)) := Ol2.out.below hbel (Nat.le_refl _)
  replace Or2 : Hid (Om w17 r2 (A * (B * C % M) % M)) := Or2.out.below hbel (Nat.le_refl _)
  replace HB : Hid (Below w.heap.size w w17) := HB.out.trans (hbel.mono HB.out.size)
  clear hq hbel
  clear Ol2 Or2 Oqp Oqc
  have Cc := mmul_v a c m (A) (C) (M) w17 (Ha.out.le (by decide)) (Hc.out.le (by decide)) (Hm.out.le (by decide))
  go_wp2_with fail
  refine Cc.mono ?_
  clear Cc
  rintro e w18 hans
  obtain ⟨pc, rfl, hre⟩ := hans.ok (rc0 HM.out lM.out lA.out lC.out)
  have hbel := hre.bel
  replace Ha : Hid (Vl w18 a (A) 1048576) := Ha.out.below hbel (Nat.le_refl _)
  replace Hb : Hid (Vl w18 b (B) 1048576) := Hb.out.below hbel (Nat.le_refl _)
  replace Hc : Hid (Vl w18 c (C) 1048576) := Hc.out.below hbel (Nat.le_refl _)
  replace Hm : Hid (Vl w18 m (M) 1048576) := Hm.out.below hbel (Nat.le_refl _)
  replace Oab : Hid (Om w18 ab ((A + B) % M)) := Oab.out.below hbel (Nat.le_refl _)
  replace Obc : Hid (Om w18 bc ((B + C) % M)) := Obc.out.below hbel (Nat.le_refl _)
  replace Od : Hid (Om w18 d (A % M)) := Od.out.below hbel (Nat.le_refl _)
  replace Opq : Hid (Om w18 pq (A * B % M)) := Opq.out.below hbel (Nat.le_refl _)
  replace HB : Hid (Below w.heap.size w w18) := HB.out.trans (hbel.mono HB.out.size)
  have Opc : Hid (Om w18 pc (A * C % M)) := hre.om
  clear hans hre hbel
  have Cc := madd_v pq pc m (A * B % M) (A * C % M) (M) w18 Opq.out.nu Opc.out.nu (Hm.out.le (by decide))
  go_wp2_with fail
  refine Cc.mono ?_
  clear Cc
  rintro e w19 hans
  obtain ⟨sum, rfl, hre⟩ := hans.ok (rc0 HM.out lM.out (Lg_mod lM.out HM.out) (Lg_mod lM.out HM.out))
  have hbel := hre.bel
  replace Ha : Hid (Vl w19 a (A) 1048576) := Ha.out.below hbel (Nat.le_refl _)
  replace Hb : Hid (Vl w19 b (B) 1048576) := Hb.out.below hbel (Nat.le_refl _)
  replace Hc : Hid (Vl w19 c (C) 1048576) := Hc.out.below hbel (Nat.le_refl _)
  replace Hm : Hid (Vl w19 m (M) 1048576) := Hm.out.below hbel (Nat.le_refl _)
  replace Oab : Hid (Om w19 ab ((A + B) % M)) := Oab.out.below hbel (Nat.le_refl _)
  replace Obc : Hid (Om w19 bc ((B + C) % M)) := Obc.out.below hbel (Nat.le_refl _)
  replace Od : Hid (Om w19 d (A % M)) := Od.out.below hbel (Nat.le_refl _)
  replace Opq : Hid (Om w19 pq (A * B % M)) := Opq.out.below hbel (Nat.le_refl _)
  replace Opc : Hid (Om w19 pc (A * C % M)) := Opc.out.below hbel (Nat.le_refl _)
  replace HB : Hid (Below w.heap.size w w19) := HB.out.trans (hbel.mono HB.out.size)
  have Osum : Hid (Om w19 sum ((A * B % M + A * C % M) % M)) := hre.om
  clear hans hre hbel
  have Cc := mmul_v a bc m (A) ((B + C) % M) (M) w19 (Ha.out.le (by decide)) Obc.out.nu (Hm.out.le (by decide))
  go_wp2_with fail
  refine Cc.mono ?_
  clear Cc
  rintro e w20 hans
  obtain ⟨all, rfl, hre⟩ := hans.ok (rc0 HM.out lM.out lA.out (Lg_mod lM.out HM.out))
  have hbel := hre.bel
  replace Ha : Hid (Vl w20 a (A) 1048576) := Ha.out.below hbel (Nat.le_refl _)
  replace Hb : Hid (Vl w20 b (B) 1048576) := Hb.out.below hbel (Nat.le_refl _)
  replace Hc : Hid (Vl w20 c (C) 1048576) := Hc.out.below hbel (Nat.le_refl _)
  replace Hm : Hid (Vl w20 m (M) 1048576) := Hm.out.below hbel (Nat.le_refl _)
  replace Oab : Hid (Om w20 ab ((A + B) % M)) := Oab.out.below hbel (Nat.le_refl _)
  replace Obc : Hid (Om w20 bc ((B + C) % M)) := Obc.out.below hbel (Nat.le_refl _)
  replace Od : Hid (Om w20 d (A % M)) := Od.out.below hbel (Nat.le_refl _)
  replace Opq : Hid (Om w20 pq (A * B % M)) := Opq.out.below hbel (Nat.le_refl _)
  replace Opc : Hid (Om w20 pc (A * C % M)) := Opc.out.below hbel (Nat.le_refl _)
  replace Osum : Hid (Om w20 sum ((A * B % M + A * C % M) % M)) := Osum.out.below hbel (Nat.le_refl _)
  replace HB : Hid (Below w.heap.size w w20) := HB.out.trans (hbel.mono HB.out.size)
  have Oall : Hid (Om w20 all (A * ((B + C) % M) % M)) := hre.om
  clear hans hre hbel
  have Cc := lsame_eq sum all ((A * B % M + A * C % M) % M) w20 Osum.out.nm (by have h := Oall.out.nm; rw [← ring_dist A B C M] at h; exact h) (Nat.le_trans Osum.out.2 (by decide))
  go_wp2_with fail
  refine Cc.mono ?_
  clear Cc
  rintro e w21 ⟨rfl, qq, hq⟩
  have hbel : Below w20.heap.size w20 w21 := by rw [hq]; exact below_drewN (Below.refl _ _) qq
  replace Ha : Hid (Vl w21 a (A) 1048576) := Ha.out.below hbel (Nat.le_refl _)
  replace Hb : Hid (Vl w21 b (B) 1048576) := Hb.out.below hbel (Nat.le_refl _)
  replace Hc : Hid (Vl w21 c (C) 1048576) := Hc.out.below hbel (Nat.le_refl _)
  replace Hm : Hid (Vl w21 m (M) 1048576) := Hm.out.below hbel (Nat.le_refl _)
  replace Oab : Hid (Om w21 ab ((A + B) % M)) := Oab.out.below hbel (Nat.le_refl _)
  replace Obc : Hid (Om w21 bc ((B + C) % M)) := Obc.out.below hbel (Nat.le_refl _)
  replace Od : Hid (Om w21 d (A % M)) := Od.out.below hbel (Nat.le_refl _)
  replace Opq : Hid (Om w21 pq (A * B % M)) := Opq.out.below hbel (Nat.le_refl _)
  replace Opc : Hid (Om w21 pc (A * C % M)) := Opc.out.below hbel (Nat.le_refl _)
  replace Osum : Hid (Om w21 sum ((A * B % M + A * C % M) % M)) := Osum.out.below hbel (Nat.le_refl _)
  replace Oall : Hid (Om w21 all (A * ((B + C) % M) % M)) := Oall.out.below hbel (Nat.le_refl _)
  replace HB : Hid (Below w.heap.size w w21) := HB.out.trans (hbel.mono HB.out.size)
  clear hq hbel
  clear Osum Oall Opc Obc Oab
  have Cc := vadd d m _ _ _ _ w21 (Od.out.small (dgl_le _ _ _ (Nat.le_of_lt (Nat.mod_lt _ (by have := HM.out; omega))) Hm.out.len)) Hm.out (by decide) (by decide)
  go_wp2_with fail
  refine Cc.mono ?_
  clear Cc
  rintro e w22 ⟨t, rfl, hnew⟩
  have hbel := hnew.2.2
  replace Ha : Hid (Vl w22 a (A) 1048576) := Ha.out.below hbel (Nat.le_refl _)
  replace Hb : Hid (Vl w22 b (B) 1048576) := Hb.out.below hbel (Nat.le_refl _)
  replace Hc : Hid (Vl w22 c (C) 1048576) := Hc.out.below hbel (Nat.le_refl _)
  replace Hm : Hid (Vl w22 m (M) 1048576) := Hm.out.below hbel (Nat.le_refl _)
  replace Od : Hid (Om w22 d (A % M)) := Od.out.below hbel (Nat.le_refl _)
  replace Opq : Hid (Om w22 pq (A * B % M)) := Opq.out.below hbel (Nat.le_refl _)
  replace HB : Hid (Below w.heap.size w w22) := HB.out.trans (hbel.mono HB.out.size)
  have Ot : Hid (Om w22 t (A % M + M)) := ⟨hnew.1.base (Nat.zero_le _), Nat.le_trans hnew.2.1 (by decide)⟩
  clear hnew hbel
  obtain ⟨cc, Hcc, hcc⟩ : ∃ c : Nat, Hid (rcode M (Lg (A % M + M) || Lg B) = c) ∧ c ≠ 0 := ⟨_, rfl, by rw [lT.out]; unfold rcode; simp⟩
  have hcI : ((cc : Int) == 0) = false := by simp; omega
  have Hc0 : Hid (cc ≠ 0) := hcc
  clear hcc
  have Cc := mmul_v t b m (A % M + M) (B) (M) w22 Ot.out.nu (Hb.out.le (by decide)) (Hm.out.le (by decide))
  rw [Hcc.out] at Cc
  go_wp2_with fail
  refine Cc.mono ?_
  clear Cc
  rintro e w23 hans
  obtain ⟨rfl, hbel⟩ := hans.bad Hc0.out
  replace Ha : Hid (Vl w23 a (A) 1048576) := Ha.out.below hbel (Nat.le_refl _)
  replace Hb : Hid (Vl w23 b (B) 1048576) := Hb.out.below hbel (Nat.le_refl _)
  replace Hc : Hid (Vl w23 c (C) 1048576) := Hc.out.below hbel (Nat.le_refl _)
  replace Hm : Hid (Vl w23 m (M) 1048576) := Hm.out.below hbel (Nat.le_refl _)
  replace Od : Hid (Om w23 d (A % M)) := Od.out.below hbel (Nat.le_refl _)
  replace Opq : Hid (Om w23 pq (A * B % M)) := Opq.out.below hbel (Nat.le_refl _)
  replace Ot : Hid (Om w23 t (A % M + M)) := Ot.out.below hbel (Nat.le_refl _)
  replace HB : Hid (Below w.heap.size w w23) := HB.out.trans (hbel.mono HB.out.size)
  clear hans hbel
  have Cc := vadd d m _ _ _ _ w23 (Od.out.small (dgl_le _ _ _ (Nat.le_of_lt (Nat.mod_lt _ (by have := HM.out; omega))) Hm.out.len)) Hm.out (by decide) (by decide)
  go_wp2_with fail
  refine Cc.mono ?_
  clear Cc
  rintro e w24 ⟨t2, rfl, hnew⟩
  have hbel := hnew.2.2
  replace Ha : Hid (Vl w24 a (A) 1048576) := Ha.out.below hbel (Nat.le_refl _)
  replace Hb : Hid (Vl w24 b (B) 1048576) := Hb.out.below hbel (Nat.le_refl _)
  replace Hc : Hid (Vl w24 c (C) 1048576) := Hc.out.below hbel (Nat.le_refl _)
  replace Hm : Hid (Vl w24 m (M) 1048576) := Hm.out.below hbel (Nat.le_refl _)
  replace Od : Hid (Om w24 d (A % M)) := Od.out.below hbel (Nat.le_refl _)
  replace Opq : Hid (Om w24 pq (A * B % M)) := Opq.out.below hbel (Nat.le_refl _)
  replace Ot : Hid (Om w24 t (A % M + M)) := Ot.out.below hbel (Nat.le_refl _)
  replace HB : Hid (Below w.heap.size w w24) := HB.out.trans (hbel.mono HB.out.size)
  have Ot2 : Hid (Om w24 t2 (A % M + M)) := ⟨hnew.1.base (Nat.zero_le _), Nat.le_trans hnew.2.1 (by decide)⟩
  clear hnew hbel
  obtain ⟨nt2, Hnt2, hnt2⟩ : ∃ n : Nat, Hid ((dg Bs (A % M + M)).length = n) ∧ decide ((n : Int) > 128) = true := ⟨_, rfl, by have h := lT.out; unfold Lg at h; rw [← h]; congr 1; simp; omega⟩
  have Cc := limbs_v t2 (A % M + M) _ w24 Ot2.out.nu (by decide)
  rw [Hnt2.out] at Cc
  go_wp2_with fail
  refine Cc.mono ?_
  clear Cc
  rintro e w24 ⟨rfl, rfl⟩
  go_wp2
  go_ret
  exact ⟨rfl, HB.out⟩

set_option maxRecDepth 100000 in
set_option maxHeartbeats 8000000 in
theorem ring_fine (a b c m : Value) (A B C M : Nat) (w : World) (ha : Vl w a A 1048576) (hb : Vl w b B 1048576) (hc : Vl w c C 1048576) (hm : Vl w m M 1048576) (h0 : rcode M (Lg A || Lg B) = 0) (hc1 : Lg C = false) (ht1 : Lg (A % M + M) = false) :
    Calls Try.prog 8 #[a, b, c, m] w fun e w' => e = .returned (.bool true) ∧ Below w.heap.size w w' := by
  have HM : Hid (2 ≤ M) := (rcode_zero h0).2.2
  have lM : Hid (Lg M = false) := (rcode_zero h0).1
  have lA : Hid (Lg A = false) := (Bool.or_eq_false_iff.1 (rcode_zero h0).2.1).1
  have lB : Hid (Lg B = false) := (Bool.or_eq_false_iff.1 (rcode_zero h0).2.1).2
  have H0 : Hid (rcode M (Lg A || Lg B) = 0) := h0
  have lC : Hid (Lg C = false) := hc1
  have lT : Hid (Lg (A % M + M) = false) := ht1
  clear h0 hc1 ht1
  have Ha : Hid (Vl w a A 1048576) := ha
  have Hb : Hid (Vl w b B 1048576) := hb
  have Hc : Hid (Vl w c C 1048576) := hc
  have Hm : Hid (Vl w m M 1048576) := hm
  have HB : Hid (Below w.heap.size w w) := Below.refl _ _
  clear ha hb hc hm
  go_enter Try.func8, Try.ntmps8
  have Cc := awake_v w
  go_wp2_with fail
  refine Cc.mono ?_
  clear Cc
  rintro e w1 ⟨rfl, hbel⟩
  replace Ha : Hid (Vl w1 a (A) 1048576) := Ha.out.below hbel (Nat.le_refl _)
  replace Hb : Hid (Vl w1 b (B) 1048576) := Hb.out.below hbel (Nat.le_refl _)
  replace Hc : Hid (Vl w1 c (C) 1048576) := Hc.out.below hbel (Nat.le_refl _)
  replace Hm : Hid (Vl w1 m (M) 1048576) := Hm.out.below hbel (Nat.le_refl _)
  replace HB : Hid (Below w.heap.size w w1) := HB.out.trans (hbel.mono HB.out.size)
  clear hbel
  have Cc := refuses_v a b m _ _ _ w1 (Ha.out.le (by decide)) (Hb.out.le (by decide)) (Hm.out.le (by decide))
  rw [H0.out] at Cc
  go_wp2_with fail
  refine Cc.mono ?_
  clear Cc
  rintro e w1 ⟨rfl, rfl⟩
  obtain ⟨nc, Hnc, hnc⟩ : ∃ n : Nat, Hid ((dg Bs (C)).length = n) ∧ decide ((n : Int) > 128) = false := ⟨_, rfl, by have h := lC.out; unfold Lg at h; rw [← h]; congr 1; simp; omega⟩
  have Cc := limbs_v c (C) _ w1 Hc.out (by decide)
  rw [Hnc.out] at Cc
  go_wp2_with fail
  refine Cc.mono ?_
  clear Cc
  rintro e w1 ⟨rfl, rfl⟩
  have Cc := madd_v a b m (A) (B) (M) w1 (Ha.out.le (by decide)) (Hb.out.le (by decide)) (Hm.out.le (by decide))
  go_wp2_with fail
  refine Cc.mono ?_
  clear Cc
  rintro e w2 hans
  obtain ⟨ab, rfl, hre⟩ := hans.ok H0.out
  have hbel := hre.bel
  replace Ha : Hid (Vl w2 a (A) 1048576) := Ha.out.below hbel (Nat.le_refl _)
  replace Hb : Hid (Vl w2 b (B) 1048576) := Hb.out.below hbel (Nat.le_refl _)
  replace Hc : Hid (Vl w2 c (C) 1048576) := Hc.out.below hbel (Nat.le_refl _)
  replace Hm : Hid (Vl w2 m (M) 1048576) := Hm.out.below hbel (Nat.le_refl _)
  replace HB : Hid (Below w.heap.size w w2) := HB.out.trans (hbel.mono HB.out.size)
  have Oab : Hid (Om w2 ab ((A + B) % M)) := hre.om
  clear hans hre hbel
  have Cc := madd_v b a m (B) (A) (M) w2 (Hb.out.le (by decide)) (Ha.out.le (by decide)) (Hm.out.le (by decide))
  go_wp2_with fail
  refine Cc.mono ?_
  clear Cc
  rintro e w3 hans
  obtain ⟨ba, rfl, hre⟩ := hans.ok (rc0 HM.out lM.out lB.out lA.out)
  have hbel := hre.bel
  replace Ha : Hid (Vl w3 a (A) 1048576) := Ha.out.below hbel (Nat.le_refl _)
  replace Hb : Hid (Vl w3 b (B) 1048576) := Hb.out.below hbel (Nat.le_refl _)
  replace Hc : Hid (Vl w3 c (C) 1048576) := Hc.out.below hbel (Nat.le_refl _)
  replace Hm : Hid (Vl w3 m (M) 1048576) := Hm.out.below hbel (Nat.le_refl _)
  replace Oab : Hid (Om w3 ab ((A + B) % M)) := Oab.out.below hbel (Nat.le_refl _)
  replace HB : Hid (Below w.heap.size w w3) := HB.out.trans (hbel.mono HB.out.size)
  have Oba : Hid (Om w3 ba ((B + A) % M)) := hre.om
  clear hans hre hbel
  have Cc := madd_v b c m (B) (C) (M) w3 (Hb.out.le (by decide)) (Hc.out.le (by decide)) (Hm.out.le (by decide))
  go_wp2_with fail
  refine Cc.mono ?_
  clear Cc
  rintro e w4 hans
  obtain ⟨bc, rfl, hre⟩ := hans.ok (rc0 HM.out lM.out lB.out lC.out)
  have hbel := hre.bel
  replace Ha : Hid (Vl w4 a (A) 1048576) := Ha.out.below hbel (Nat.le_refl _)
  replace Hb : Hid (Vl w4 b (B) 1048576) := Hb.out.below hbel (Nat.le_refl _)
  replace Hc : Hid (Vl w4 c (C) 1048576) := Hc.out.below hbel (Nat.le_refl _)
  replace Hm : Hid (Vl w4 m (M) 1048576) := Hm.out.below hbel (Nat.le_refl _)
  replace Oab : Hid (Om w4 ab ((A + B) % M)) := Oab.out.below hbel (Nat.le_refl _)
  replace Oba : Hid (Om w4 ba ((B + A) % M)) := Oba.out.below hbel (Nat.le_refl _)
  replace HB : Hid (Below w.heap.size w w4) := HB.out.trans (hbel.mono HB.out.size)
  have Obc : Hid (Om w4 bc ((B + C) % M)) := hre.om
  clear hans hre hbel
  have Cc := madd_v ab c m ((A + B) % M) (C) (M) w4 Oab.out.nu (Hc.out.le (by decide)) (Hm.out.le (by decide))
  go_wp2_with fail
  refine Cc.mono ?_
  clear Cc
  rintro e w5 hans
  obtain ⟨l, rfl, hre⟩ := hans.ok (rc0 HM.out lM.out (Lg_mod lM.out HM.out) lC.out)
  have hbel := hre.bel
  replace Ha : Hid (Vl w5 a (A) 1048576) := Ha.out.below hbel (Nat.le_refl _)
  replace Hb : Hid (Vl w5 b (B) 1048576) := Hb.out.below hbel (Nat.le_refl _)
  replace Hc : Hid (Vl w5 c (C) 1048576) := Hc.out.below hbel (Nat.le_refl _)
  replace Hm : Hid (Vl w5 m (M) 1048576) := Hm.out.below hbel (Nat.le_refl _)
  replace Oab : Hid (Om w5 ab ((A + B) % M)) := Oab.out.below hbel (Nat.le_refl _)
  replace Oba : Hid (Om w5 ba ((B + A) % M)) := Oba.out.below hbel (Nat.le_refl _)
  replace Obc : Hid (Om w5 bc ((B + C) % M)) := Obc.out.below hbel (Nat.le_refl _)
  replace HB : Hid (Below w.heap.size w w5) := HB.out.trans (hbel.mono HB.out.size)
  have Ol : Hid (Om w5 l (((A + B) % M + C) % M)) := hre.om
  clear hans hre hbel
  have Cc := madd_v a bc m (A) ((B + C) % M) (M) w5 (Ha.out.le (by decide)) Obc.out.nu (Hm.out.le (by decide))
  go_wp2_with fail
  refine Cc.mono ?_
  clear Cc
  rintro e w6 hans
  obtain ⟨r, rfl, hre⟩ := hans.ok (rc0 HM.out lM.out lA.out (Lg_mod lM.out HM.out))
  have hbel := hre.bel
  replace Ha : Hid (Vl w6 a (A) 1048576) := Ha.out.below hbel (Nat.le_refl _)
  replace Hb : Hid (Vl w6 b (B) 1048576) := Hb.out.below hbel (Nat.le_refl _)
  replace Hc : Hid (Vl w6 c (C) 1048576) := Hc.out.below hbel (Nat.le_refl _)
  replace Hm : Hid (Vl w6 m (M) 1048576) := Hm.out.below hbel (Nat.le_refl _)
  replace Oab : Hid (Om w6 ab ((A + B) % M)) := Oab.out.below hbel (Nat.le_refl _)
  replace Oba : Hid (Om w6 ba ((B + A) % M)) := Oba.out.below hbel (Nat.le_refl _)
  replace Obc : Hid (Om w6 bc ((B + C) % M)) := Obc.out.below hbel (Nat.le_refl _)
  replace Ol : Hid (Om w6 l (((A + B) % M + C) % M)) := Ol.out.below hbel (Nat.le_refl _)
  replace HB : Hid (Below w.heap.size w w6) := HB.out.trans (hbel.mono HB.out.size)
  have Or : Hid (Om w6 r ((A + (B + C) % M) % M)) := hre.om
  clear hans hre hbel
  have Cc := lsame_eq ab ba ((A + B) % M) w6 Oab.out.nm (by have h := Oba.out.nm; rw [Nat.add_comm B A] at h; exact h) (Nat.le_trans Oab.out.2 (by decide))
  go_wp2_with fail
  refine Cc.mono ?_
  clear Cc
  rintro e w7 ⟨rfl, qq, hq⟩
  have hbel : Below w6.heap.size w6 w7 := by rw [hq]; exact below_drewN (Below.refl _ _) qq
  replace Ha : Hid (Vl w7 a (A) 1048576) := Ha.out.below hbel (Nat.le_refl _)
  replace Hb : Hid (Vl w7 b (B) 1048576) := Hb.out.below hbel (Nat.le_refl _)
  replace Hc : Hid (Vl w7 c (C) 1048576) := Hc.out.below hbel (Nat.le_refl _)
  replace Hm : Hid (Vl w7 m (M) 1048576) := Hm.out.below hbel (Nat.le_refl _)
  replace Oab : Hid (Om w7 ab ((A + B) % M)) := Oab.out.below hbel (Nat.le_refl _)
  replace Oba : Hid (Om w7 ba ((B + A) % M)) := Oba.out.below hbel (Nat.le_refl _)
  replace Obc : Hid (Om w7 bc ((B + C) % M)) := Obc.out.below hbel (Nat.le_refl _)
  replace Ol : Hid (Om w7 l (((A + B) % M + C) % M)) := Ol.out.below hbel (Nat.le_refl _)
  replace Or : Hid (Om w7 r ((A + (B + C) % M) % M)) := Or.out.below hbel (Nat.le_refl _)
  replace HB : Hid (Below w.heap.size w w7) := HB.out.trans (hbel.mono HB.out.size)
  clear hq hbel
  have Cc := lsame_eq l r (((A + B) % M + C) % M) w7 Ol.out.nm (by have h := Or.out.nm; rw [← ring_add A B C M] at h; exact h) (Nat.le_trans Ol.out.2 (by decide))
  go_wp2_with fail
  refine Cc.mono ?_
  clear Cc
  rintro e w8 ⟨rfl, qq, hq⟩
  have hbel : Below w7.heap.size w7 w8 := by rw [hq]; exact below_drewN (Below.refl _ _) qq
  replace Ha : Hid (Vl w8 a (A) 1048576) := Ha.out.below hbel (Nat.le_refl _)
  replace Hb : Hid (Vl w8 b (B) 1048576) := Hb.out.below hbel (Nat.le_refl _)
  replace Hc : Hid (Vl w8 c (C) 1048576) := Hc.out.below hbel (Nat.le_refl _)
  replace Hm : Hid (Vl w8 m (M) 1048576) := Hm.out.below hbel (Nat.le_refl _)
  replace Oab : Hid (Om w8 ab ((A + B) % M)) := Oab.out.below hbel (Nat.le_refl _)
  replace Oba : Hid (Om w8 ba ((B + A) % M)) := Oba.out.below hbel (Nat.le_refl _)
  replace Obc : Hid (Om w8 bc ((B + C) % M)) := Obc.out.below hbel (Nat.le_refl _)
  replace Ol : Hid (Om w8 l (((A + B) % M + C) % M)) := Ol.out.below hbel (Nat.le_refl _)
  replace Or : Hid (Om w8 r ((A + (B + C) % M) % M)) := Or.out.below hbel (Nat.le_refl _)
  replace HB : Hid (Below w.heap.size w w8) := HB.out.trans (hbel.mono HB.out.size)
  clear hq hbel
  have Cc := msub_v ab b m ((A + B) % M) (B) (M) w8 Oab.out.nu (Hb.out.le (by decide)) (Hm.out.le (by decide))
  go_wp2_with fail
  refine Cc.mono ?_
  clear Cc
  rintro e w9 hans
  obtain ⟨d, rfl, hre⟩ := hans.ok (rc0 HM.out lM.out (Lg_mod lM.out HM.out) lB.out)
  have hbel := hre.bel
  replace Ha : Hid (Vl w9 a (A) 1048576) := Ha.out.below hbel (Nat.le_refl _)
  replace Hb : Hid (Vl w9 b (B) 1048576) := Hb.out.below hbel (Nat.le_refl _)
  replace Hc : Hid (Vl w9 c (C) 1048576) := Hc.out.below hbel (Nat.le_refl _)
  replace Hm : Hid (Vl w9 m (M) 1048576) := Hm.out.below hbel (Nat.le_refl _)
  replace Oab : Hid (Om w9 ab ((A + B) % M)) := Oab.out.below hbel (Nat.le_refl _)
  replace Oba : Hid (Om w9 ba ((B + A) % M)) := Oba.out.below hbel (Nat.le_refl _)
  replace Obc : Hid (Om w9 bc ((B + C) % M)) := Obc.out.below hbel (Nat.le_refl _)
  replace Ol : Hid (Om w9 l (((A + B) % M + C) % M)) := Ol.out.below hbel (Nat.le_refl _)
  replace Or : Hid (Om w9 r ((A + (B + C) % M) % M)) := Or.out.below hbel (Nat.le_refl _)
  replace HB : Hid (Below w.heap.size w w9) := HB.out.trans (hbel.mono HB.out.size)
  have Od : Hid (Om w9 d (lessV M ((A + B) % M % M) (B % M))) := hre.om
  clear hans hre hbel
  rw [less_sum A B M HM.out] at Od
  have Cc := is_v d a m _ _ _ w9 Od.out (Ha.out.le (by decide)) (Hm.out.le (by decide)) (by have := HM.out; omega) rfl
  go_wp2_with fail
  refine Cc.mono ?_
  clear Cc
  rintro e w10 ⟨rfl, hbel⟩
  replace Ha : Hid (Vl w10 a (A) 1048576) := Ha.out.below hbel (Nat.le_refl _)
  replace Hb : Hid (Vl w10 b (B) 1048576) := Hb.out.below hbel (Nat.le_refl _)
  replace Hc : Hid (Vl w10 c (C) 1048576) := Hc.out.below hbel (Nat.le_refl _)
  replace Hm : Hid (Vl w10 m (M) 1048576) := Hm.out.below hbel (Nat.le_refl _)
  replace Oab : Hid (Om w10 ab ((A + B) % M)) := Oab.out.below hbel (Nat.le_refl _)
  replace Oba : Hid (Om w10 ba ((B + A) % M)) := Oba.out.below hbel (Nat.le_refl _)
  replace Obc : Hid (Om w10 bc ((B + C) % M)) := Obc.out.below hbel (Nat.le_refl _)
  replace Ol : Hid (Om w10 l (((A + B) % M + C) % M)) := Ol.out.below hbel (Nat.le_refl _)
  replace Or : Hid (Om w10 r ((A + (B + C) % M) % M)) := Or.out.below hbel (Nat.le_refl _)
  replace Od : Hid (Om w10 d (A % M)) := Od.out.below hbel (Nat.le_refl _)
  replace HB : Hid (Below w.heap.size w w10) := HB.out.trans (hbel.mono HB.out.size)
  clear hbel
  clear Ol Or Oba
  have Cc := mmul_v a b m (A) (B) (M) w10 (Ha.out.le (by decide)) (Hb.out.le (by decide)) (Hm.out.le (by decide))
  go_wp2_with fail
  refine Cc.mono ?_
  clear Cc
  rintro e w11 hans
  obtain ⟨pq, rfl, hre⟩ := hans.ok H0.out
  have hbel := hre.bel
  replace Ha : Hid (Vl w11 a (A) 1048576) := Ha.out.below hbel (Nat.le_refl _)
  replace Hb : Hid (Vl w11 b (B) 1048576) := Hb.out.below hbel (Nat.le_refl _)
  replace Hc : Hid (Vl w11 c (C) 1048576) := Hc.out.below hbel (Nat.le_refl _)
  replace Hm : Hid (Vl w11 m (M) 1048576) := Hm.out.below hbel (Nat.le_refl _)
  replace Oab : Hid (Om w11 ab ((A + B) % M)) := Oab.out.below hbel (Nat.le_refl _)
  replace Obc : Hid (Om w11 bc ((B + C) % M)) := Obc.out.below hbel (Nat.le_refl _)
  replace Od : Hid (Om w11 d (A % M)) := Od.out.below hbel (Nat.le_refl _)
  replace HB : Hid (Below w.heap.size w w11) := HB.out.trans (hbel.mono HB.out.size)
  have Opq : Hid (Om w11 pq (A * B % M)) := hre.om
  clear hans hre hbel
  have Cc := mmul_v b a m (B) (A) (M) w11 (Hb.out.le (by decide)) (Ha.out.le (by decide)) (Hm.out.le (by decide))
  go_wp2_with fail
  refine Cc.mono ?_
  clear Cc
  rintro e w12 hans
  obtain ⟨qp, rfl, hre⟩ := hans.ok (rc0 HM.out lM.out lB.out lA.out)
  have hbel := hre.bel
  replace Ha : Hid (Vl w12 a (A) 1048576) := Ha.out.below hbel (Nat.le_refl _)
  replace Hb : Hid (Vl w12 b (B) 1048576) := Hb.out.below hbel (Nat.le_refl _)
  replace Hc : Hid (Vl w12 c (C) 1048576) := Hc.out.below hbel (Nat.le_refl _)
  replace Hm : Hid (Vl w12 m (M) 1048576) := Hm.out.below hbel (Nat.le_refl _)
  replace Oab : Hid (Om w12 ab ((A + B) % M)) := Oab.out.below hbel (Nat.le_refl _)
  replace Obc : Hid (Om w12 bc ((B + C) % M)) := Obc.out.below hbel (Nat.le_refl _)
  replace Od : Hid (Om w12 d (A % M)) := Od.out.below hbel (Nat.le_refl _)
  replace Opq : Hid (Om w12 pq (A * B % M)) := Opq.out.below hbel (Nat.le_refl _)
  replace HB : Hid (Below w.heap.size w w12) := HB.out.trans (hbel.mono HB.out.size)
  have Oqp : Hid (Om w12 qp (B * A % M)) := hre.om
  clear hans hre hbel
  have Cc := mmul_v b c m (B) (C) (M) w12 (Hb.out.le (by decide)) (Hc.out.le (by decide)) (Hm.out.le (by decide))
  go_wp2_with fail
  refine Cc.mono ?_
  clear Cc
  rintro e w13 hans
  obtain ⟨qc, rfl, hre⟩ := hans.ok (rc0 HM.out lM.out lB.out lC.out)
  have hbel := hre.bel
  replace Ha : Hid (Vl w13 a (A) 1048576) := Ha.out.below hbel (Nat.le_refl _)
  replace Hb : Hid (Vl w13 b (B) 1048576) := Hb.out.below hbel (Nat.le_refl _)
  replace Hc : Hid (Vl w13 c (C) 1048576) := Hc.out.below hbel (Nat.le_refl _)
  replace Hm : Hid (Vl w13 m (M) 1048576) := Hm.out.below hbel (Nat.le_refl _)
  replace Oab : Hid (Om w13 ab ((A + B) % M)) := Oab.out.below hbel (Nat.le_refl _)
  replace Obc : Hid (Om w13 bc ((B + C) % M)) := Obc.out.below hbel (Nat.le_refl _)
  replace Od : Hid (Om w13 d (A % M)) := Od.out.below hbel (Nat.le_refl _)
  replace Opq : Hid (Om w13 pq (A * B % M)) := Opq.out.below hbel (Nat.le_refl _)
  replace Oqp : Hid (Om w13 qp (B * A % M)) := Oqp.out.below hbel (Nat.le_refl _)
  replace HB : Hid (Below w.heap.size w w13) := HB.out.trans (hbel.mono HB.out.size)
  have Oqc : Hid (Om w13 qc (B * C % M)) := hre.om
  clear hans hre hbel
  have Cc := mmul_v pq c m (A * B % M) (C) (M) w13 Opq.out.nu (Hc.out.le (by decide)) (Hm.out.le (by decide))
  go_wp2_with fail
  refine Cc.mono ?_
  clear Cc
  rintro e w14 hans
  obtain ⟨l2, rfl, hre⟩ := hans.ok (rc0 HM.out lM.out (Lg_mod lM.out HM.out) lC.out)
  have hbel := hre.bel
  replace Ha : Hid (Vl w14 a (A) 1048576) := Ha.out.below hbel (Nat.le_refl _)
  replace Hb : Hid (Vl w14 b (B) 1048576) := Hb.out.below hbel (Nat.le_refl _)
  replace Hc : Hid (Vl w14 c (C) 1048576) := Hc.out.below hbel (Nat.le_refl _)
  replace Hm : Hid (Vl w14 m (M) 1048576) := Hm.out.below hbel (Nat.le_refl _)
  replace Oab : Hid (Om w14 ab ((A + B) % M)) := Oab.out.below hbel (Nat.le_refl _)
  replace Obc : Hid (Om w14 bc ((B + C) % M)) := Obc.out.below hbel (Nat.le_refl _)
  replace Od : Hid (Om w14 d (A % M)) := Od.out.below hbel (Nat.le_refl _)
  replace Opq : Hid (Om w14 pq (A * B % M)) := Opq.out.below hbel (Nat.le_refl _)
  replace Oqp : Hid (Om w14 qp (B * A % M)) := Oqp.out.below hbel (Nat.le_refl _)
  replace Oqc : Hid (Om w14 qc (B * C % M)) := Oqc.out.below hbel (Nat.le_refl _)
  replace HB : Hid (Below w.heap.size w w14) := HB.out.trans (hbel.mono HB.out.size)
  have Ol2 : Hid (Om w14 l2 (A * B % M * C % M)) := hre.om
  clear hans hre hbel
  have Cc := mmul_v a qc m (A) (B * C % M) (M) w14 (Ha.out.le (by decide)) Oqc.out.nu (Hm.out.le (by decide))
  go_wp2_with fail
  refine Cc.mono ?_
  clear Cc
  rintro e w15 hans
  obtain ⟨r2, rfl, hre⟩ := hans.ok (rc0 HM.out lM.out lA.out (Lg_mod lM.out HM.out))
  have hbel := hre.bel
  replace Ha : Hid (Vl w15 a (A) 1048576) := Ha.out.below hbel (Nat.le_refl _)
  replace Hb : Hid (Vl w15 b (B) 1048576) := Hb.out.below hbel (Nat.le_refl _)
  replace Hc : Hid (Vl w15 c (C) 1048576) := Hc.out.below hbel (Nat.le_refl _)
  replace Hm : Hid (Vl w15 m (M) 1048576) := Hm.out.below hbel (Nat.le_refl _)
  replace Oab : Hid (Om w15 ab ((A + B) % M)) := Oab.out.below hbel (Nat.le_refl _)
  replace Obc : Hid (Om w15 bc ((B + C) % M)) := Obc.out.below hbel (Nat.le_refl _)
  replace Od : Hid (Om w15 d (A % M)) := Od.out.below hbel (Nat.le_refl _)
  replace Opq : Hid (Om w15 pq (A * B % M)) := Opq.out.below hbel (Nat.le_refl _)
  replace Oqp : Hid (Om w15 qp (B * A % M)) := Oqp.out.below hbel (Nat.le_refl _)
  replace Oqc : Hid (Om w15 qc (B * C % M)) := Oqc.out.below hbel (Nat.le_refl _)
  replace Ol2 : Hid (Om w15 l2 (A * B % M * C % M)) := Ol2.out.below hbel (Nat.le_refl _)
  replace HB : Hid (Below w.heap.size w w15) := HB.out.trans (hbel.mono HB.out.size)
  have Or2 : Hid (Om w15 r2 (A * (B * C % M) % M)) := hre.om
  clear hans hre hbel
  have Cc := lsame_eq pq qp (A * B % M) w15 Opq.out.nm (by have h := Oqp.out.nm; rw [Nat.mul_comm B A] at h; exact h) (Nat.le_trans Opq.out.2 (by decide))
  go_wp2_with fail
  refine Cc.mono ?_
  clear Cc
  rintro e w16 ⟨rfl, qq, hq⟩
  have hbel : Below w15.heap.size w15 w16 := by rw [hq]; exact below_drewN (Below.refl _ _) qq
  replace Ha : Hid (Vl w16 a (A) 1048576) := Ha.out.below hbel (Nat.le_refl _)
  replace Hb : Hid (Vl w16 b (B) 1048576) := Hb.out.below hbel (Nat.le_refl _)
  replace Hc : Hid (Vl w16 c (C) 1048576) := Hc.out.below hbel (Nat.le_refl _)
  replace Hm : Hid (Vl w16 m (M) 1048576) := Hm.out.below hbel (Nat.le_refl _)
  replace Oab : Hid (Om w16 ab ((A + B) % M)) := Oab.out.below hbel (Nat.le_refl _)
  replace Obc : Hid (Om w16 bc ((B + C) % M)) := Obc.out.below hbel (Nat.le_refl _)
  replace Od : Hid (Om w16 d (A % M)) := Od.out.below hbel (Nat.le_refl _)
  replace Opq : Hid (Om w16 pq (A * B % M)) := Opq.out.below hbel (Nat.le_refl _)
  replace Oqp : Hid (Om w16 qp (B * A % M)) := Oqp.out.below hbel (Nat.le_refl _)
  replace Oqc : Hid (Om w16 qc (B * C % M)) := Oqc.out.below hbel (Nat.le_refl _)
  replace Ol2 : Hid (Om w16 l2 (A * B % M * C % M)) := Ol2.out.below hbel (Nat.le_refl _)
  replace Or2 : Hid (Om w16 r2 (A * (B * C % M) % M)) := Or2.out.below hbel (Nat.le_refl _)
  replace HB : Hid (Below w.heap.size w w16) := HB.out.trans (hbel.mono HB.out.size)
  clear hq hbel
  have Cc := lsame_eq l2 r2 (A * B % M * C % M) w16 Ol2.out.nm (by have h := Or2.out.nm; rw [← ring_mul A B C M] at h; exact h) (Nat.le_trans Ol2.out.2 (by decide))
  go_wp2_with fail
  refine Cc.mono ?_
  clear Cc
  rintro e w17 ⟨rfl, qq, hq⟩
  have hbel : Below w16.heap.size w16 w17 := by rw [hq]; exact below_drewN (Below.refl _ _) qq
  replace Ha : Hid (Vl w17 a (A) 1048576) := Ha.out.below hbel (Nat.le_refl _)
  replace Hb : Hid (Vl w17 b (B) 1048576) := Hb.out.below hbel (Nat.le_refl _)
  replace Hc : Hid (Vl w17 c (C) 1048576) := Hc.out.below hbel (Nat.le_refl _)
  replace Hm : Hid (Vl w17 m (M) 1048576) := Hm.out.below hbel (Nat.le_refl _)
  replace Oab : Hid (Om w17 ab ((A + B) % M)) := Oab.out.below hbel (Nat.le_refl _)
  replace Obc : Hid (Om w17 bc ((B + C) % M)) := Obc.out.below hbel (Nat.le_refl _)
  replace Od : Hid (Om w17 d (A % M)) := Od.out.below hbel (Nat.le_refl _)
  replace Opq : Hid (Om w17 pq (A * B % M)) := Opq.out.below hbel (Nat.le_refl _)
  replace Oqp : Hid (Om w17 qp (B * A % M)) := Oqp.out.below hbel (Nat.le_refl _)
  replace Oqc : Hid (Om w17 qc (B * C % M)) := Oqc.out.below hbel (Nat.le_refl _)
  replace Ol2 : Hid (Om w17 l2 (A * B % M * C % M)) := Ol2.out.below hbel (Nat.le_refl _)
  replace Or2 : Hid (Om w17 r2 (A * (B * C % M) % M)) := Or2.out.below hbel (Nat.le_refl _)
  replace HB : Hid (Below w.heap.size w w17) := HB.out.trans (hbel.mono HB.out.size)
  clear hq hbel
  clear Ol2 Or2 Oqp Oqc
  have Cc := mmul_v a c m (A) (C) (M) w17 (Ha.out.le (by decide)) (Hc.out.le (by decide)) (Hm.out.le (by decide))
  go_wp2_with fail
  refine Cc.mono ?_
  clear Cc
  rintro e w18 hans
  obtain ⟨pc, rfl, hre⟩ := hans.ok (rc0 HM.out lM.out lA.out lC.out)
  have hbel := hre.bel
  replace Ha : Hid (Vl w18 a (A) 1048576) := Ha.out.below hbel (Nat.le_refl _)
  replace Hb : Hid (Vl w18 b (B) 1048576) := Hb.out.below hbel (Nat.le_refl _)
  replace Hc : Hid (Vl w18 c (C) 1048576) := Hc.out.below hbel (Nat.le_refl _)
  replace Hm : Hid (Vl w18 m (M) 1048576) := Hm.out.below hbel (Nat.le_refl _)
  replace Oab : Hid (Om w18 ab ((A + B) % M)) := Oab.out.below hbel (Nat.le_refl _)
  replace Obc : Hid (Om w18 bc ((B + C) % M)) := Obc.out.below hbel (Nat.le_refl _)
  replace Od : Hid (Om w18 d (A % M)) := Od.out.below hbel (Nat.le_refl _)
  replace Opq : Hid (Om w18 pq (A * B % M)) := Opq.out.below hbel (Nat.le_refl _)
  replace HB : Hid (Below w.heap.size w w18) := HB.out.trans (hbel.mono HB.out.size)
  have Opc : Hid (Om w18 pc (A * C % M)) := hre.om
  clear hans hre hbel
  have Cc := madd_v pq pc m (A * B % M) (A * C % M) (M) w18 Opq.out.nu Opc.out.nu (Hm.out.le (by decide))
  go_wp2_with fail
  refine Cc.mono ?_
  clear Cc
  rintro e w19 hans
  obtain ⟨sum, rfl, hre⟩ := hans.ok (rc0 HM.out lM.out (Lg_mod lM.out HM.out) (Lg_mod lM.out HM.out))
  have hbel := hre.bel
  replace Ha : Hid (Vl w19 a (A) 1048576) := Ha.out.below hbel (Nat.le_refl _)
  replace Hb : Hid (Vl w19 b (B) 1048576) := Hb.out.below hbel (Nat.le_refl _)
  replace Hc : Hid (Vl w19 c (C) 1048576) := Hc.out.below hbel (Nat.le_refl _)
  replace Hm : Hid (Vl w19 m (M) 1048576) := Hm.out.below hbel (Nat.le_refl _)
  replace Oab : Hid (Om w19 ab ((A + B) % M)) := Oab.out.below hbel (Nat.le_refl _)
  replace Obc : Hid (Om w19 bc ((B + C) % M)) := Obc.out.below hbel (Nat.le_refl _)
  replace Od : Hid (Om w19 d (A % M)) := Od.out.below hbel (Nat.le_refl _)
  replace Opq : Hid (Om w19 pq (A * B % M)) := Opq.out.below hbel (Nat.le_refl _)
  replace Opc : Hid (Om w19 pc (A * C % M)) := Opc.out.below hbel (Nat.le_refl _)
  replace HB : Hid (Below w.heap.size w w19) := HB.out.trans (hbel.mono HB.out.size)
  have Osum : Hid (Om w19 sum ((A * B % M + A * C % M) % M)) := hre.om
  clear hans hre hbel
  have Cc := mmul_v a bc m (A) ((B + C) % M) (M) w19 (Ha.out.le (by decide)) Obc.out.nu (Hm.out.le (by decide))
  go_wp2_with fail
  refine Cc.mono ?_
  clear Cc
  rintro e w20 hans
  obtain ⟨all, rfl, hre⟩ := hans.ok (rc0 HM.out lM.out lA.out (Lg_mod lM.out HM.out))
  have hbel := hre.bel
  replace Ha : Hid (Vl w20 a (A) 1048576) := Ha.out.below hbel (Nat.le_refl _)
  replace Hb : Hid (Vl w20 b (B) 1048576) := Hb.out.below hbel (Nat.le_refl _)
  replace Hc : Hid (Vl w20 c (C) 1048576) := Hc.out.below hbel (Nat.le_refl _)
  replace Hm : Hid (Vl w20 m (M) 1048576) := Hm.out.below hbel (Nat.le_refl _)
  replace Oab : Hid (Om w20 ab ((A + B) % M)) := Oab.out.below hbel (Nat.le_refl _)
  replace Obc : Hid (Om w20 bc ((B + C) % M)) := Obc.out.below hbel (Nat.le_refl _)
  replace Od : Hid (Om w20 d (A % M)) := Od.out.below hbel (Nat.le_refl _)
  replace Opq : Hid (Om w20 pq (A * B % M)) := Opq.out.below hbel (Nat.le_refl _)
  replace Opc : Hid (Om w20 pc (A * C % M)) := Opc.out.below hbel (Nat.le_refl _)
  replace Osum : Hid (Om w20 sum ((A * B % M + A * C % M) % M)) := Osum.out.below hbel (Nat.le_refl _)
  replace HB : Hid (Below w.heap.size w w20) := HB.out.trans (hbel.mono HB.out.size)
  have Oall : Hid (Om w20 all (A * ((B + C) % M) % M)) := hre.om
  clear hans hre hbel
  have Cc := lsame_eq sum all ((A * B % M + A * C % M) % M) w20 Osum.out.nm (by have h := Oall.out.nm; rw [← ring_dist A B C M] at h; exact h) (Nat.le_trans Osum.out.2 (by decide))
  go_wp2_with fail
  refine Cc.mono ?_
  clear Cc
  rintro e w21 ⟨rfl, qq, hq⟩
  have hbel : Below w20.heap.size w20 w21 := by rw [hq]; exact below_drewN (Below.refl _ _) qq
  replace Ha : Hid (Vl w21 a (A) 1048576) := Ha.out.below hbel (Nat.le_refl _)
  replace Hb : Hid (Vl w21 b (B) 1048576) := Hb.out.below hbel (Nat.le_refl _)
  replace Hc : Hid (Vl w21 c (C) 1048576) := Hc.out.below hbel (Nat.le_refl _)
  replace Hm : Hid (Vl w21 m (M) 1048576) := Hm.out.below hbel (Nat.le_refl _)
  replace Oab : Hid (Om w21 ab ((A + B) % M)) := Oab.out.below hbel (Nat.le_refl _)
  replace Obc : Hid (Om w21 bc ((B + C) % M)) := Obc.out.below hbel (Nat.le_refl _)
  replace Od : Hid (Om w21 d (A % M)) := Od.out.below hbel (Nat.le_refl _)
  replace Opq : Hid (Om w21 pq (A * B % M)) := Opq.out.below hbel (Nat.le_refl _)
  replace Opc : Hid (Om w21 pc (A * C % M)) := Opc.out.below hbel (Nat.le_refl _)
  replace Osum : Hid (Om w21 sum ((A * B % M + A * C % M) % M)) := Osum.out.below hbel (Nat.le_refl _)
  replace Oall : Hid (Om w21 all (A * ((B + C) % M) % M)) := Oall.out.below hbel (Nat.le_refl _)
  replace HB : Hid (Below w.heap.size w w21) := HB.out.trans (hbel.mono HB.out.size)
  clear hq hbel
  clear Osum Oall Opc Obc Oab
  have Cc := vadd d m _ _ _ _ w21 (Od.out.small (dgl_le _ _ _ (Nat.le_of_lt (Nat.mod_lt _ (by have := HM.out; omega))) Hm.out.len)) Hm.out (by decide) (by decide)
  go_wp2_with fail
  refine Cc.mono ?_
  clear Cc
  rintro e w22 ⟨t, rfl, hnew⟩
  have hbel := hnew.2.2
  replace Ha : Hid (Vl w22 a (A) 1048576) := Ha.out.below hbel (Nat.le_refl _)
  replace Hb : Hid (Vl w22 b (B) 1048576) := Hb.out.below hbel (Nat.le_refl _)
  replace Hc : Hid (Vl w22 c (C) 1048576) := Hc.out.below hbel (Nat.le_refl _)
  replace Hm : Hid (Vl w22 m (M) 1048576) := Hm.out.below hbel (Nat.le_refl _)
  replace Od : Hid (Om w22 d (A % M)) := Od.out.below hbel (Nat.le_refl _)
  replace Opq : Hid (Om w22 pq (A * B % M)) := Opq.out.below hbel (Nat.le_refl _)
  replace HB : Hid (Below w.heap.size w w22) := HB.out.trans (hbel.mono HB.out.size)
  have Ot : Hid (Om w22 t (A % M + M)) := ⟨hnew.1.base (Nat.zero_le _), Nat.le_trans hnew.2.1 (by decide)⟩
  clear hnew hbel
  have Cc := mmul_v t b m (A % M + M) (B) (M) w22 Ot.out.nu (Hb.out.le (by decide)) (Hm.out.le (by decide))
  go_wp2_with fail
  refine Cc.mono ?_
  clear Cc
  rintro e w23 hans
  obtain ⟨more, rfl, hre⟩ := hans.ok (rc0 HM.out lM.out lT.out lB.out)
  have hbel := hre.bel
  replace Ha : Hid (Vl w23 a (A) 1048576) := Ha.out.below hbel (Nat.le_refl _)
  replace Hb : Hid (Vl w23 b (B) 1048576) := Hb.out.below hbel (Nat.le_refl _)
  replace Hc : Hid (Vl w23 c (C) 1048576) := Hc.out.below hbel (Nat.le_refl _)
  replace Hm : Hid (Vl w23 m (M) 1048576) := Hm.out.below hbel (Nat.le_refl _)
  replace Od : Hid (Om w23 d (A % M)) := Od.out.below hbel (Nat.le_refl _)
  replace Opq : Hid (Om w23 pq (A * B % M)) := Opq.out.below hbel (Nat.le_refl _)
  replace Ot : Hid (Om w23 t (A % M + M)) := Ot.out.below hbel (Nat.le_refl _)
  replace HB : Hid (Below w.heap.size w w23) := HB.out.trans (hbel.mono HB.out.size)
  have Omore : Hid (Om w23 more ((A % M + M) * B % M)) := hre.om
  clear hans hre hbel
  have Cc := lsame_eq more pq (A * B % M) w23 (by have h := Omore.out.nm; rw [ring_more A B M] at h; exact h) Opq.out.nm (Nat.le_trans Opq.out.2 (by decide))
  go_wp2_with fail
  refine Cc.mono ?_
  clear Cc
  rintro e w24 ⟨rfl, qq, hq⟩
  have hbel : Below w23.heap.size w23 w24 := by rw [hq]; exact below_drewN (Below.refl _ _) qq
  replace Ha : Hid (Vl w24 a (A) 1048576) := Ha.out.below hbel (Nat.le_refl _)
  replace Hb : Hid (Vl w24 b (B) 1048576) := Hb.out.below hbel (Nat.le_refl _)
  replace Hc : Hid (Vl w24 c (C) 1048576) := Hc.out.below hbel (Nat.le_refl _)
  replace Hm : Hid (Vl w24 m (M) 1048576) := Hm.out.below hbel (Nat.le_refl _)
  replace Od : Hid (Om w24 d (A % M)) := Od.out.below hbel (Nat.le_refl _)
  replace Opq : Hid (Om w24 pq (A * B % M)) := Opq.out.below hbel (Nat.le_refl _)
  replace Ot : Hid (Om w24 t (A % M + M)) := Ot.out.below hbel (Nat.le_refl _)
  replace Omore : Hid (Om w24 more ((A % M + M) * B % M)) := Omore.out.below hbel (Nat.le_refl _)
  replace HB : Hid (Below w.heap.size w w24) := HB.out.trans (hbel.mono HB.out.size)
  clear hq hbel
  go_wp2
  go_ret
  exact ⟨rfl, HB.out⟩

theorem ring_core (a b c m : Value) (A B C M : Nat) (w : World) (ha : Vl w a A 1048576) (hb : Vl w b B 1048576) (hc : Vl w c C 1048576) (hm : Vl w m M 1048576) :
    Calls Try.prog 8 #[a, b, c, m] w fun e w' => e = .returned (.bool true) ∧ Below w.heap.size w w' := by
  by_cases h0 : rcode M (Lg A || Lg B) = 0
  · cases h1 : Lg C with
    | true => exact ring_c a b c m A B C M w ha hb hc hm h0 h1
    | false =>
      cases h2 : Lg (A % M + M) with
      | true => exact ring_large a b c m A B C M w ha hb hc hm h0 h1 h2
      | false => exact ring_fine a b c m A B C M w ha hb hc hm h0 h1 h2
  · exact ring_ref a b c m A B C M w ha hb hc hm h0

end Go.Proofs.Ytecapoknnnoheaa
