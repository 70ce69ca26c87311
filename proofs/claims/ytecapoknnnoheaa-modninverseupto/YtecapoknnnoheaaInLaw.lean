import Derived.Test.YtecapoknnnoheaaMl4
namespace Go.Proofs.Ytecapoknnnoheaa
open Go.RowKit

set_option maxRecDepth 100000 in
set_option maxHeartbeats 8000000 in
theorem inv_ref (a b m : Value) (A B M : Nat) (w : World) (ha : Vl w a A 1048576) (hb : Vl w b B 1048576) (hm : Vl w m M 1048576) (h0 : rcode M (Lg A) ≠ 0) :
    Calls Try.prog 7 #[a, b, m] w fun e w' => e = .returned (.bool true) ∧ Below w.heap.size w w' := by
  obtain ⟨c, Hc, hc0⟩ : ∃ c : Nat, Hid (rcode M (Lg A) = c) ∧ c ≠ 0 := ⟨_, rfl, h0⟩
  have hcI : ((c : Int) != 0) = true := by simp; omega
  have Hc0 : Hid (rcode M (Lg A) ≠ 0) := h0
  clear h0 hc0
  have Ha : Hid (Vl w a A 1048576) := ha
  have Hb : Hid (Vl w b B 1048576) := hb
  have Hm : Hid (Vl w m M 1048576) := hm
  have HB : Hid (Below w.heap.size w w) := Below.refl _ _
  clear ha hb hm
  go_enter Try.func7, Try.ntmps7
  have Cc := awake_v w
  go_wp2_with fail
  refine Cc.mono ?_
  clear Cc
  rintro e w1 ⟨rfl, hbel⟩
  replace Ha : Hid (Vl w1 a (A) 1048576) := Ha.out.below hbel (Nat.le_refl _)
  replace Hb : Hid (Vl w1 b (B) 1048576) := Hb.out.below hbel (Nat.le_refl _)
  replace Hm : Hid (Vl w1 m (M) 1048576) := Hm.out.below hbel (Nat.le_refl _)
  replace HB : Hid (Below w.heap.size w w1) := HB.out.trans (hbel.mono HB.out.size)
  clear hbel
  have Cc := minv_v a m A M w1 (Ha.out.le (by decide)) (Hm.out.le (by decide))
  go_wp2_with fail
  refine Cc.mono ?_
  clear Cc
  rintro e w2 hans
  obtain ⟨rfl, hbel⟩ := hans.bad Hc0.out
  rw [Hc.out]
  replace Ha : Hid (Vl w2 a (A) 1048576) := Ha.out.below hbel (Nat.le_refl _)
  replace Hb : Hid (Vl w2 b (B) 1048576) := Hb.out.below hbel (Nat.le_refl _)
  replace Hm : Hid (Vl w2 m (M) 1048576) := Hm.out.below hbel (Nat.le_refl _)
  replace HB : Hid (Below w.heap.size w w2) := HB.out.trans (hbel.mono HB.out.size)
  clear hans hbel
  have Cc := refuses_v a (.slice none 0 0) m _ _ _ w2 (Ha.out.le (by decide)) (vnil0 w2) (Hm.out.le (by decide))
  rw [Lg_small (show 0 < 4294967296 by decide), Bool.or_false, Hc.out] at Cc
  go_wp2_with fail
  refine Cc.mono ?_
  clear Cc
  rintro e w2 ⟨rfl, rfl⟩
  go_wp2
  go_ret
  exact ⟨rfl, HB.out⟩

set_option maxRecDepth 100000 in
set_option maxHeartbeats 8000000 in
theorem inv_none (a b m : Value) (A B M : Nat) (w : World) (ha : Vl w a A 1048576) (hb : Vl w b B 1048576) (hm : Vl w m M 1048576) (h0 : rcode M (Lg A) = 0) (hg : Nat.gcd A M ≠ 1) :
    Calls Try.prog 7 #[a, b, m] w fun e w' => e = .returned (.bool true) ∧ Below w.heap.size w w' := by
  have HM : Hid (2 ≤ M) := (rcode_zero h0).2.2
  have lM : Hid (Lg M = false) := (rcode_zero h0).1
  have lA : Hid (Lg A = false) := (rcode_zero h0).2.1
  have H0 : Hid (rcode M (Lg A) = 0) := h0
  clear h0
  have HG : Hid (Nat.gcd A M ≠ 1) := hg
  clear hg
  have Ha : Hid (Vl w a A 1048576) := ha
  have Hb : Hid (Vl w b B 1048576) := hb
  have Hm : Hid (Vl w m M 1048576) := hm
  have HB : Hid (Below w.heap.size w w) := Below.refl _ _
  clear ha hb hm
  go_enter Try.func7, Try.ntmps7
  have Cc := awake_v w
  go_wp2_with fail
  refine Cc.mono ?_
  clear Cc
  rintro e w1 ⟨rfl, hbel⟩
  replace Ha : Hid (Vl w1 a (A) 1048576) := Ha.out.below hbel (Nat.le_refl _)
  replace Hb : Hid (Vl w1 b (B) 1048576) := Hb.out.below hbel (Nat.le_refl _)
  replace Hm : Hid (Vl w1 m (M) 1048576) := Hm.out.below hbel (Nat.le_refl _)
  replace HB : Hid (Below w.heap.size w w1) := HB.out.trans (hbel.mono HB.out.size)
  clear hbel
  have Cc := minv_v a m (A) M w1 (Ha.out.le (by decide)) (Hm.out.le (by decide))
  go_wp2_with fail
  refine Cc.mono ?_
  clear Cc
  rintro e w2 hans
  obtain ⟨rfl, hbel⟩ := hans.nope H0.out HG.out
  replace Ha : Hid (Vl w2 a (A) 1048576) := Ha.out.below hbel (Nat.le_refl _)
  replace Hb : Hid (Vl w2 b (B) 1048576) := Hb.out.below hbel (Nat.le_refl _)
  replace Hm : Hid (Vl w2 m (M) 1048576) := Hm.out.below hbel (Nat.le_refl _)
  replace HB : Hid (Below w.heap.size w w2) := HB.out.trans (hbel.mono HB.out.size)
  clear hans hbel
  have Cc := refuses_v a (.slice none 0 0) m _ _ _ w2 (Ha.out.le (by decide)) (vnil0 w2) (Hm.out.le (by decide))
  rw [Lg_small (show 0 < 4294967296 by decide), Bool.or_false, H0.out] at Cc
  go_wp2_with fail
  refine Cc.mono ?_
  clear Cc
  rintro e w2 ⟨rfl, rfl⟩
  have Cc := divisor_v m a M A w2 (Hm.out.le (by decide)) (Ha.out.le (by decide))
  go_wp2_with fail
  refine Cc.mono ?_
  clear Cc
  rintro e w3 ⟨gg, rfl, hgg, hbel⟩
  replace Ha : Hid (Vl w3 a (A) 1048576) := Ha.out.below hbel (Nat.le_refl _)
  replace Hb : Hid (Vl w3 b (B) 1048576) := Hb.out.below hbel (Nat.le_refl _)
  replace Hm : Hid (Vl w3 m (M) 1048576) := Hm.out.below hbel (Nat.le_refl _)
  replace HB : Hid (Below w.heap.size w w3) := HB.out.trans (hbel.mono HB.out.size)
  have Hgg : Hid (Nu w3 gg (Nat.gcd M A)) := hgg
  clear hgg hbel
  have hg1 : cmp3 ((Nat.gcd M A : Nat) : Int) 1 = 1 := cmp3_gt (by have h1 := HG.out; have h2 := HM.out; have h3 := Nat.gcd_pos_of_pos_left A (show 0 < M by omega); rw [Nat.gcd_comm] at h1; omega)
  have Cc := cmp_lit w3 gg _ 1 hg1 Hgg.out
  go_wp2_with fail
  refine Cc.mono ?_
  clear Cc
  rintro e w4 ⟨rfl, hbel⟩
  replace Ha : Hid (Vl w4 a (A) 1048576) := Ha.out.below hbel (Nat.le_refl _)
  replace Hb : Hid (Vl w4 b (B) 1048576) := Hb.out.below hbel (Nat.le_refl _)
  replace Hm : Hid (Vl w4 m (M) 1048576) := Hm.out.below hbel (Nat.le_refl _)
  replace Hgg : Hid (Nu w4 gg (Nat.gcd M A)) := Hgg.out.below hbel (Nat.le_refl _)
  replace HB : Hid (Below w.heap.size w w4) := HB.out.trans (hbel.mono HB.out.size)
  clear hbel
  go_wp2
  go_ret
  exact ⟨rfl, HB.out⟩

set_option maxRecDepth 100000 in
set_option maxHeartbeats 8000000 in
theorem inv_b (a b m : Value) (A B M : Nat) (w : World) (ha : Vl w a A 1048576) (hb : Vl w b B 1048576) (hm : Vl w m M 1048576) (h0 : rcode M (Lg A) = 0) (Y : Nat) (hy : Inz A M Y) (hb0 : rcode M (Lg B) ≠ 0) :
    Calls Try.prog 7 #[a, b, m] w fun e w' => e = .returned (.bool true) ∧ Below w.heap.size w w' := by
  have HM : Hid (2 ≤ M) := (rcode_zero h0).2.2
  have lM : Hid (Lg M = false) := (rcode_zero h0).1
  have lA : Hid (Lg A = false) := (rcode_zero h0).2.1
  have H0 : Hid (rcode M (Lg A) = 0) := h0
  clear h0
  have HY : Hid (Inz A M Y) := hy
  have HB0 : Hid (rcode M (Lg B) ≠ 0) := hb0
  clear hy hb0
  have Ha : Hid (Vl w a A 1048576) := ha
  have Hb : Hid (Vl w b B 1048576) := hb
  have Hm : Hid (Vl w m M 1048576) := hm
  have HB : Hid (Below w.heap.size w w) := Below.refl _ _
  clear ha hb hm
  go_enter Try.func7, Try.ntmps7
  have Cc := awake_v w
  go_wp2_with fail
  refine Cc.mono ?_
  clear Cc
  rintro e w1 ⟨rfl, hbel⟩
  replace Ha : Hid (Vl w1 a (A) 1048576) := Ha.out.below hbel (Nat.le_refl _)
  replace Hb : Hid (Vl w1 b (B) 1048576) := Hb.out.below hbel (Nat.le_refl _)
  replace Hm : Hid (Vl w1 m (M) 1048576) := Hm.out.below hbel (Nat.le_refl _)
  replace HB : Hid (Below w.heap.size w w1) := HB.out.trans (hbel.mono HB.out.size)
  clear hbel
  have Cc := minv_v a m (A) M w1 (Ha.out.le (by decide)) (Hm.out.le (by decide))
  go_wp2_with fail
  refine Cc.mono ?_
  clear Cc
  rintro e w2 hans
  obtain ⟨x, rfl, hre⟩ := hans.ok H0.out HY.out
  have hbel := hre.bel
  replace Ha : Hid (Vl w2 a (A) 1048576) := Ha.out.below hbel (Nat.le_refl _)
  replace Hb : Hid (Vl w2 b (B) 1048576) := Hb.out.below hbel (Nat.le_refl _)
  replace Hm : Hid (Vl w2 m (M) 1048576) := Hm.out.below hbel (Nat.le_refl _)
  replace HB : Hid (Below w.heap.size w w2) := HB.out.trans (hbel.mono HB.out.size)
  have Ox : Hid (Om w2 x (Y)) := hre.om
  clear hans hre hbel
  have Cc := refuses_v a (.slice none 0 0) m _ _ _ w2 (Ha.out.le (by decide)) (vnil0 w2) (Hm.out.le (by decide))
  rw [Lg_small (show 0 < 4294967296 by decide), Bool.or_false, H0.out] at Cc
  go_wp2_with fail
  refine Cc.mono ?_
  clear Cc
  rintro e w2 ⟨rfl, rfl⟩
  have Cc := divisor_v m a M A w2 (Hm.out.le (by decide)) (Ha.out.le (by decide))
  go_wp2_with fail
  refine Cc.mono ?_
  clear Cc
  rintro e w3 ⟨gg, rfl, hgg, hbel⟩
  replace Ha : Hid (Vl w3 a (A) 1048576) := Ha.out.below hbel (Nat.le_refl _)
  replace Hb : Hid (Vl w3 b (B) 1048576) := Hb.out.below hbel (Nat.le_refl _)
  replace Hm : Hid (Vl w3 m (M) 1048576) := Hm.out.below hbel (Nat.le_refl _)
  replace Ox : Hid (Om w3 x (Y)) := Ox.out.below hbel (Nat.le_refl _)
  replace HB : Hid (Below w.heap.size w w3) := HB.out.trans (hbel.mono HB.out.size)
  have Hgg : Hid (Nu w3 gg (Nat.gcd M A)) := hgg
  clear hgg hbel
  have lY : Hid (Lg Y = false) := Lg_lt lM.out HY.out.1
  have Cc := mmul_v x a m (Y) (A) (M) w3 Ox.out.nu (Ha.out.le (by decide)) (Hm.out.le (by decide))
  go_wp2_with fail
  refine Cc.mono ?_
  clear Cc
  rintro e w4 hans
  obtain ⟨p, rfl, hre⟩ := hans.ok (rc0 HM.out lM.out lY.out lA.out)
  have hbel := hre.bel
  replace Ha : Hid (Vl w4 a (A) 1048576) := Ha.out.below hbel (Nat.le_refl _)
  replace Hb : Hid (Vl w4 b (B) 1048576) := Hb.out.below hbel (Nat.le_refl _)
  replace Hm : Hid (Vl w4 m (M) 1048576) := Hm.out.below hbel (Nat.le_refl _)
  replace Ox : Hid (Om w4 x (Y)) := Ox.out.below hbel (Nat.le_refl _)
  replace Hgg : Hid (Nu w4 gg (Nat.gcd M A)) := Hgg.out.below hbel (Nat.le_refl _)
  replace HB : Hid (Below w.heap.size w w4) := HB.out.trans (hbel.mono HB.out.size)
  have Op : Hid (Om w4 p (Y * A % M)) := hre.om
  clear hans hre hbel
  rw [show Y * A % M = 1 by rw [Nat.mul_comm]; exact HY.out.2] at Op
  have Cc := same_lit w4 p 1 (by decide) (by decide) Op.out
  rw [show ((1 : Nat) : Int) = 1 from rfl] at Cc
  go_wp2_with fail
  refine Cc.mono ?_
  clear Cc
  rintro e w5 ⟨rfl, hbel⟩
  replace Ha : Hid (Vl w5 a (A) 1048576) := Ha.out.below hbel (Nat.le_refl _)
  replace Hb : Hid (Vl w5 b (B) 1048576) := Hb.out.below hbel (Nat.le_refl _)
  replace Hm : Hid (Vl w5 m (M) 1048576) := Hm.out.below hbel (Nat.le_refl _)
  replace Ox : Hid (Om w5 x (Y)) := Ox.out.below hbel (Nat.le_refl _)
  replace Hgg : Hid (Nu w5 gg (Nat.gcd M A)) := Hgg.out.below hbel (Nat.le_refl _)
  replace Op : Hid (Om w5 p (1)) := Op.out.below hbel (Nat.le_refl _)
  replace HB : Hid (Below w.heap.size w w5) := HB.out.trans (hbel.mono HB.out.size)
  clear hbel
  have Cc := vcmp x m (Y) (M) 3000000 3000000 w5 Ox.out.nu (Hm.out.le (by decide)) (by decide) (by decide)
  rw [show cmp3 ((Y : Nat) : Int) ((M : Nat) : Int) = -1 from cmp3_lt (by have := HY.out.1; omega)] at Cc
  go_wp2_with fail
  refine Cc.mono ?_
  clear Cc
  rintro e w6 ⟨rfl, qq, hq⟩
  have hbel : Below w5.heap.size w5 w6 := by rw [hq]; exact below_drewN (Below.refl _ _) qq
  replace Ha : Hid (Vl w6 a (A) 1048576) := Ha.out.below hbel (Nat.le_refl _)
  replace Hb : Hid (Vl w6 b (B) 1048576) := Hb.out.below hbel (Nat.le_refl _)
  replace Hm : Hid (Vl w6 m (M) 1048576) := Hm.out.below hbel (Nat.le_refl _)
  replace Ox : Hid (Om w6 x (Y)) := Ox.out.below hbel (Nat.le_refl _)
  replace Hgg : Hid (Nu w6 gg (Nat.gcd M A)) := Hgg.out.below hbel (Nat.le_refl _)
  replace Op : Hid (Om w6 p (1)) := Op.out.below hbel (Nat.le_refl _)
  replace HB : Hid (Below w.heap.size w w6) := HB.out.trans (hbel.mono HB.out.size)
  clear hq hbel
  have hg1 : cmp3 ((Nat.gcd M A : Nat) : Int) 1 = 0 := cmp3_eq (by have h := HY.out.gcd; rw [Nat.gcd_comm] at h; rw [h]; rfl)
  have Cc := cmp_lit w6 gg _ 0 hg1 Hgg.out
  go_wp2_with fail
  refine Cc.mono ?_
  clear Cc
  rintro e w7 ⟨rfl, hbel⟩
  replace Ha : Hid (Vl w7 a (A) 1048576) := Ha.out.below hbel (Nat.le_refl _)
  replace Hb : Hid (Vl w7 b (B) 1048576) := Hb.out.below hbel (Nat.le_refl _)
  replace Hm : Hid (Vl w7 m (M) 1048576) := Hm.out.below hbel (Nat.le_refl _)
  replace Ox : Hid (Om w7 x (Y)) := Ox.out.below hbel (Nat.le_refl _)
  replace Hgg : Hid (Nu w7 gg (Nat.gcd M A)) := Hgg.out.below hbel (Nat.le_refl _)
  replace Op : Hid (Om w7 p (1)) := Op.out.below hbel (Nat.le_refl _)
  replace HB : Hid (Below w.heap.size w w7) := HB.out.trans (hbel.mono HB.out.size)
  clear hbel
  clear hg1 Hgg
  have Cc := minv_v x m (Y) M w7 Ox.out.nu (Hm.out.le (by decide))
  go_wp2_with fail
  refine Cc.mono ?_
  clear Cc
  rintro e w8 hans
  obtain ⟨back, rfl, hre⟩ := hans.ok (rcode_ok lM.out lY.out HM.out) (HY.out.back HM.out)
  have hbel := hre.bel
  replace Ha : Hid (Vl w8 a (A) 1048576) := Ha.out.below hbel (Nat.le_refl _)
  replace Hb : Hid (Vl w8 b (B) 1048576) := Hb.out.below hbel (Nat.le_refl _)
  replace Hm : Hid (Vl w8 m (M) 1048576) := Hm.out.below hbel (Nat.le_refl _)
  replace Ox : Hid (Om w8 x (Y)) := Ox.out.below hbel (Nat.le_refl _)
  replace Op : Hid (Om w8 p (1)) := Op.out.below hbel (Nat.le_refl _)
  replace HB : Hid (Below w.heap.size w w8) := HB.out.trans (hbel.mono HB.out.size)
  have Oback : Hid (Om w8 back (A % M)) := hre.om
  clear hans hre hbel
  have Cc := is_v back a m _ _ _ w8 Oback.out (Ha.out.le (by decide)) (Hm.out.le (by decide)) (by have := HM.out; omega) rfl
  go_wp2_with fail
  refine Cc.mono ?_
  clear Cc
  rintro e w9 ⟨rfl, hbel⟩
  replace Ha : Hid (Vl w9 a (A) 1048576) := Ha.out.below hbel (Nat.le_refl _)
  replace Hb : Hid (Vl w9 b (B) 1048576) := Hb.out.below hbel (Nat.le_refl _)
  replace Hm : Hid (Vl w9 m (M) 1048576) := Hm.out.below hbel (Nat.le_refl _)
  replace Ox : Hid (Om w9 x (Y)) := Ox.out.below hbel (Nat.le_refl _)
  replace Op : Hid (Om w9 p (1)) := Op.out.below hbel (Nat.le_refl _)
  replace Oback : Hid (Om w9 back (A % M)) := Oback.out.below hbel (Nat.le_refl _)
  replace HB : Hid (Below w.heap.size w w9) := HB.out.trans (hbel.mono HB.out.size)
  clear hbel
  obtain ⟨c, Hc, hc0⟩ : ∃ c : Nat, Hid (rcode M (Lg B) = c) ∧ c ≠ 0 := ⟨_, rfl, HB0.out⟩
  have hcI : ((c : Int) != 0) = true := by simp; omega
  clear hc0
  have Cc := minv_v b m B M w9 (Hb.out.le (by decide)) (Hm.out.le (by decide))
  go_wp2_with fail
  refine Cc.mono ?_
  clear Cc
  rintro e w10 hans
  obtain ⟨rfl, hbel⟩ := hans.bad HB0.out
  rw [Hc.out]
  replace Ha : Hid (Vl w10 a (A) 1048576) := Ha.out.below hbel (Nat.le_refl _)
  replace Hb : Hid (Vl w10 b (B) 1048576) := Hb.out.below hbel (Nat.le_refl _)
  replace Hm : Hid (Vl w10 m (M) 1048576) := Hm.out.below hbel (Nat.le_refl _)
  replace Ox : Hid (Om w10 x (Y)) := Ox.out.below hbel (Nat.le_refl _)
  replace Op : Hid (Om w10 p (1)) := Op.out.below hbel (Nat.le_refl _)
  replace Oback : Hid (Om w10 back (A % M)) := Oback.out.below hbel (Nat.le_refl _)
  replace HB : Hid (Below w.heap.size w w10) := HB.out.trans (hbel.mono HB.out.size)
  clear hans hbel
  go_wp2
  go_ret
  exact ⟨rfl, HB.out⟩

set_option maxRecDepth 100000 in
set_option maxHeartbeats 8000000 in
theorem inv_bnone (a b m : Value) (A B M : Nat) (w : World) (ha : Vl w a A 1048576) (hb : Vl w b B 1048576) (hm : Vl w m M 1048576) (h0 : rcode M (Lg A) = 0) (Y : Nat) (hy : Inz A M Y) (hb0 : rcode M (Lg B) = 0) (hb1 : Nat.gcd B M ≠ 1) :
    Calls Try.prog 7 #[a, b, m] w fun e w' => e = .returned (.bool true) ∧ Below w.heap.size w w' := by
  have HM : Hid (2 ≤ M) := (rcode_zero h0).2.2
  have lM : Hid (Lg M = false) := (rcode_zero h0).1
  have lA : Hid (Lg A = false) := (rcode_zero h0).2.1
  have H0 : Hid (rcode M (Lg A) = 0) := h0
  clear h0
  have HY : Hid (Inz A M Y) := hy
  have HB0 : Hid (rcode M (Lg B) = 0) := hb0
  have HB1 : Hid (Nat.gcd B M ≠ 1) := hb1
  clear hy hb0 hb1
  have Ha : Hid (Vl w a A 1048576) := ha
  have Hb : Hid (Vl w b B 1048576) := hb
  have Hm : Hid (Vl w m M 1048576) := hm
  have HB : Hid (Below w.heap.size w w) := Below.refl _ _
  clear ha hb hm
  go_enter Try.func7, Try.ntmps7
  have Cc := awake_v w
  go_wp2_with fail
  refine Cc.mono ?_
  clear Cc
  rintro e w1 ⟨rfl, hbel⟩
  replace Ha : Hid (Vl w1 a (A) 1048576) := Ha.out.below hbel (Nat.le_refl _)
  replace Hb : Hid (Vl w1 b (B) 1048576) := Hb.out.below hbel (Nat.le_refl _)
  replace Hm : Hid (Vl w1 m (M) 1048576) := Hm.out.below hbel (Nat.le_refl _)
  replace HB : Hid (Below w.heap.size w w1) := HB.out.trans (hbel.mono HB.out.size)
  clear hbel
  have Cc := minv_v a m (A) M w1 (Ha.out.le (by decide)) (Hm.out.le (by decide))
  go_wp2_with fail
  refine Cc.mono ?_
  clear Cc
  rintro e w2 hans
  obtain ⟨x, rfl, hre⟩ := hans.ok H0.out HY.out
  have hbel := hre.bel
  replace Ha : Hid (Vl w2 a (A) 1048576) := Ha.out.below hbel (Nat.le_refl _)
  replace Hb : Hid (Vl w2 b (B) 1048576) := Hb.out.below hbel (Nat.le_refl _)
  replace Hm : Hid (Vl w2 m (M) 1048576) := Hm.out.below hbel (Nat.le_refl _)
  replace HB : Hid (Below w.heap.size w w2) := HB.out.trans (hbel.mono HB.out.size)
  have Ox : Hid (Om w2 x (Y)) := hre.om
  clear hans hre hbel
  have Cc := refuses_v a (.slice none 0 0) m _ _ _ w2 (Ha.out.le (by decide)) (vnil0 w2) (Hm.out.le (by decide))
  rw [Lg_small (show 0 < 4294967296 by decide), Bool.or_false, H0.out] at Cc
  go_wp2_with fail
  refine Cc.mono ?_
  clear Cc
  rintro e w2 ⟨rfl, rfl⟩
  have Cc := divisor_v m a M A w2 (Hm.out.le (by decide)) (Ha.out.le (by decide))
  go_wp2_with fail
  refine Cc.mono ?_
  clear Cc
  rintro e w3 ⟨gg, rfl, hgg, hbel⟩
  replace Ha : Hid (Vl w3 a (A) 1048576) := Ha.out.below hbel (Nat.le_refl _)
  replace Hb : Hid (Vl w3 b (B) 1048576) := Hb.out.below hbel (Nat.le_refl _)
  replace Hm : Hid (Vl w3 m (M) 1048576) := Hm.out.below hbel (Nat.le_refl _)
  replace Ox : Hid (Om w3 x (Y)) := Ox.out.below hbel (Nat.le_refl _)
  replace HB : Hid (Below w.heap.size w w3) := HB.out.trans (hbel.mono HB.out.size)
  have Hgg : Hid (Nu w3 gg (Nat.gcd M A)) := hgg
  clear hgg hbel
  have lY : Hid (Lg Y = false) := Lg_lt lM.out HY.out.1
  have Cc := mmul_v x a m (Y) (A) (M) w3 Ox.out.nu (Ha.out.le (by decide)) (Hm.out.le (by decide))
  go_wp2_with fail
  refine Cc.mono ?_
  clear Cc
  rintro e w4 hans
  obtain ⟨p, rfl, hre⟩ := hans.ok (rc0 HM.out lM.out lY.out lA.out)
  have hbel := hre.bel
  replace Ha : Hid (Vl w4 a (A) 1048576) := Ha.out.below hbel (Nat.le_refl _)
  replace Hb : Hid (Vl w4 b (B) 1048576) := Hb.out.below hbel (Nat.le_refl _)
  replace Hm : Hid (Vl w4 m (M) 1048576) := Hm.out.below hbel (Nat.le_refl _)
  replace Ox : Hid (Om w4 x (Y)) := Ox.out.below hbel (Nat.le_refl _)
  replace Hgg : Hid (Nu w4 gg (Nat.gcd M A)) := Hgg.out.below hbel (Nat.le_refl _)
  replace HB : Hid (Below w.heap.size w w4) := HB.out.trans (hbel.mono HB.out.size)
  have Op : Hid (Om w4 p (Y * A % M)) := hre.om
  clear hans hre hbel
  rw [show Y * A % M = 1 by rw [Nat.mul_comm]; exact HY.out.2] at Op
  have Cc := same_lit w4 p 1 (by decide) (by decide) Op.out
  rw [show ((1 : Nat) : Int) = 1 from rfl] at Cc
  go_wp2_with fail
  refine Cc.mono ?_
  clear Cc
  rintro e w5 ⟨rfl, hbel⟩
  replace Ha : Hid (Vl w5 a (A) 1048576) := Ha.out.below hbel (Nat.le_refl _)
  replace Hb : Hid (Vl w5 b (B) 1048576) := Hb.out.below hbel (Nat.le_refl _)
  replace Hm : Hid (Vl w5 m (M) 1048576) := Hm.out.below hbel (Nat.le_refl _)
  replace Ox : Hid (Om w5 x (Y)) := Ox.out.below hbel (Nat.le_refl _)
  replace Hgg : Hid (Nu w5 gg (Nat.gcd M A)) := Hgg.out.below hbel (Nat.le_refl _)
  replace Op : Hid (Om w5 p (1)) := Op.out.below hbel (Nat.le_refl _)
  replace HB : Hid (Below w.heap.size w w5) := HB.out.trans (hbel.mono HB.out.size)
  clear hbel
  have Cc := vcmp x m (Y) (M) 3000000 3000000 w5 Ox.out.nu (Hm.out.le (by decide)) (by decide) (by decide)
  rw [show cmp3 ((Y : Nat) : Int) ((M : Nat) : Int) = -1 from cmp3_lt (by have := HY.out.1; omega)] at Cc
  go_wp2_with fail
  refine Cc.mono ?_
  clear Cc
  rintro e w6 ⟨rfl, qq, hq⟩
  have hbel : Below w5.heap.size w5 w6 := by rw [hq]; exact below_drewN (Below.refl _ _) qq
  replace Ha : Hid (Vl w6 a (A) 1048576) := Ha.out.below hbel (Nat.le_refl _)
  replace Hb : Hid (Vl w6 b (B) 1048576) := Hb.out.below hbel (Nat.le_refl _)
  replace Hm : Hid (Vl w6 m (M) 1048576) := Hm.out.below hbel (Nat.le_refl _)
  replace Ox : Hid (Om w6 x (Y)) := Ox.out.below hbel (Nat.le_refl _)
  replace Hgg : Hid (Nu w6 gg (Nat.gcd M A)) := Hgg.out.below hbel (Nat.le_refl _)
  replace Op : Hid (Om w6 p (1)) := Op.out.below hbel (Nat.le_refl _)
  replace HB : Hid (Below w.heap.size w w6) := HB.out.trans (hbel.mono HB.out.size)
  clear hq hbel
  have hg1 : cmp3 ((Nat.gcd M A : Nat) : Int) 1 = 0 := cmp3_eq (by have h := HY.out.gcd; rw [Nat.gcd_comm] at h; rw [h]; rfl)
  have Cc := cmp_lit w6 gg _ 0 hg1 Hgg.out
  go_wp2_with fail
  refine Cc.mono ?_
  clear Cc
  rintro e w7 ⟨rfl, hbel⟩
  replace Ha : Hid (Vl w7 a (A) 1048576) := Ha.out.below hbel (Nat.le_refl _)
  replace Hb : Hid (Vl w7 b (B) 1048576) := Hb.out.below hbel (Nat.le_refl _)
  replace Hm : Hid (Vl w7 m (M) 1048576) := Hm.out.below hbel (Nat.le_refl _)
  replace Ox : Hid (Om w7 x (Y)) := Ox.out.below hbel (Nat.le_refl _)
  replace Hgg : Hid (Nu w7 gg (Nat.gcd M A)) := Hgg.out.below hbel (Nat.le_refl _)
  replace Op : Hid (Om w7 p (1)) := Op.out.below hbel (Nat.le_refl _)
  replace HB : Hid (Below w.heap.size w w7) := HB.out.trans (hbel.mono HB.out.size)
  clear hbel
  clear hg1 Hgg
  have Cc := minv_v x m (Y) M w7 Ox.out.nu (Hm.out.le (by decide))
  go_wp2_with fail
  refine Cc.mono ?_
  clear Cc
  rintro e w8 hans
  obtain ⟨back, rfl, hre⟩ := hans.ok (rcode_ok lM.out lY.out HM.out) (HY.out.back HM.out)
  have hbel := hre.bel
  replace Ha : Hid (Vl w8 a (A) 1048576) := Ha.out.below hbel (Nat.le_refl _)
  replace Hb : Hid (Vl w8 b (B) 1048576) := Hb.out.below hbel (Nat.le_refl _)
  replace Hm : Hid (Vl w8 m (M) 1048576) := Hm.out.below hbel (Nat.le_refl _)
  replace Ox : Hid (Om w8 x (Y)) := Ox.out.below hbel (Nat.le_refl _)
  replace Op : Hid (Om w8 p (1)) := Op.out.below hbel (Nat.le_refl _)
  replace HB : Hid (Below w.heap.size w w8) := HB.out.trans (hbel.mono HB.out.size)
  have Oback : Hid (Om w8 back (A % M)) := hre.om
  clear hans hre hbel
  have Cc := is_v back a m _ _ _ w8 Oback.out (Ha.out.le (by decide)) (Hm.out.le (by decide)) (by have := HM.out; omega) rfl
  go_wp2_with fail
  refine Cc.mono ?_
  clear Cc
  rintro e w9 ⟨rfl, hbel⟩
  replace Ha : Hid (Vl w9 a (A) 1048576) := Ha.out.below hbel (Nat.le_refl _)
  replace Hb : Hid (Vl w9 b (B) 1048576) := Hb.out.below hbel (Nat.le_refl _)
  replace Hm : Hid (Vl w9 m (M) 1048576) := Hm.out.below hbel (Nat.le_refl _)
  replace Ox : Hid (Om w9 x (Y)) := Ox.out.below hbel (Nat.le_refl _)
  replace Op : Hid (Om w9 p (1)) := Op.out.below hbel (Nat.le_refl _)
  replace Oback : Hid (Om w9 back (A % M)) := Oback.out.below hbel (Nat.le_refl _)
  replace HB : Hid (Below w.heap.size w w9) := HB.out.trans (hbel.mono HB.out.size)
  clear hbel
  have Cc := minv_v b m (B) M w9 (Hb.out.le (by decide)) (Hm.out.le (by decide))
  go_wp2_with fail
  refine Cc.mono ?_
  clear Cc
  rintro e w10 hans
  obtain ⟨rfl, hbel⟩ := hans.nope HB0.out HB1.out
  replace Ha : Hid (Vl w10 a (A) 1048576) := Ha.out.below hbel (Nat.le_refl _)
  replace Hb : Hid (Vl w10 b (B) 1048576) := Hb.out.below hbel (Nat.le_refl _)
  replace Hm : Hid (Vl w10 m (M) 1048576) := Hm.out.below hbel (Nat.le_refl _)
  replace Ox : Hid (Om w10 x (Y)) := Ox.out.below hbel (Nat.le_refl _)
  replace Op : Hid (Om w10 p (1)) := Op.out.below hbel (Nat.le_refl _)
  replace Oback : Hid (Om w10 back (A % M)) := Oback.out.below hbel (Nat.le_refl _)
  replace HB : Hid (Below w.heap.size w w10) := HB.out.trans (hbel.mono HB.out.size)
  clear hans hbel
  go_wp2
  go_ret
  exact ⟨rfl, HB.out⟩

set_option maxRecDepth 100000 in
set_option maxHeartbeats 8000000 in
theorem inv_all (a b m : Value) (A B M : Nat) (w : World) (ha : Vl w a A 1048576) (hb : Vl w b B 1048576) (hm : Vl w m M 1048576) (h0 : rcode M (Lg A) = 0) (Y : Nat) (hy : Inz A M Y) (hb0 : rcode M (Lg B) = 0) (Z : Nat) (hz : Inz B M Z) :
    Calls Try.prog 7 #[a, b, m] w fun e w' => e = .returned (.bool true) ∧ Below w.heap.size w w' := by
  have HM : Hid (2 ≤ M) := (rcode_zero h0).2.2
  have lM : Hid (Lg M = false) := (rcode_zero h0).1
  have lA : Hid (Lg A = false) := (rcode_zero h0).2.1
  have H0 : Hid (rcode M (Lg A) = 0) := h0
  clear h0
  have HY : Hid (Inz A M Y) := hy
  have HB0 : Hid (rcode M (Lg B) = 0) := hb0
  have HZ : Hid (Inz B M Z) := hz
  have lB : Hid (Lg B = false) := (rcode_zero hb0).2.1
  clear hy hb0 hz
  have Ha : Hid (Vl w a A 1048576) := ha
  have Hb : Hid (Vl w b B 1048576) := hb
  have Hm : Hid (Vl w m M 1048576) := hm
  have HB : Hid (Below w.heap.size w w) := Below.refl _ _
  clear ha hb hm
  go_enter Try.func7, Try.ntmps7
  have Cc := awake_v w
  go_wp2_with fail
  refine Cc.mono ?_
  clear Cc
  rintro e w1 ⟨rfl, hbel⟩
  replace Ha : Hid (Vl w1 a (A) 1048576) := Ha.out.below hbel (Nat.le_refl _)
  replace Hb : Hid (Vl w1 b (B) 1048576) := Hb.out.below hbel (Nat.le_refl _)
  replace Hm : Hid (Vl w1 m (M) 1048576) := Hm.out.below hbel (Nat.le_refl _)
  replace HB : Hid (Below w.heap.size w w1) := HB.out.trans (hbel.mono HB.out.size)
  clear hbel
  have Cc := minv_v a m (A) M w1 (Ha.out.le (by decide)) (Hm.out.le (by decide))
  go_wp2_with fail
  refine Cc.mono ?_
  clear Cc
  rintro e w2 hans
  obtain ⟨x, rfl, hre⟩ := hans.ok H0.out HY.out
  have hbel := hre.bel
  replace Ha : Hid (Vl w2 a (A) 1048576) := Ha.out.below hbel (Nat.le_refl _)
  replace Hb : Hid (Vl w2 b (B) 1048576) := Hb.out.below hbel (Nat.le_refl _)
  replace Hm : Hid (Vl w2 m (M) 1048576) := Hm.out.below hbel (Nat.le_refl _)
  replace HB : Hid (Below w.heap.size w w2) := HB.out.trans (hbel.mono HB.out.size)
  have Ox : Hid (Om w2 x (Y)) := hre.om
  clear hans hre hbel
  have Cc := refuses_v a (.slice none 0 0) m _ _ _ w2 (Ha.out.le (by decide)) (vnil0 w2) (Hm.out.le (by decide))
  rw [Lg_small (show 0 < 4294967296 by decide), Bool.or_false, H0.out] at Cc
  go_wp2_with fail
  refine Cc.mono ?_
  clear Cc
  rintro e w2 ⟨rfl, rfl⟩
  have Cc := divisor_v m a M A w2 (Hm.out.le (by decide)) (Ha.out.le (by decide))
  go_wp2_with fail
  refine Cc.mono ?_
  clear Cc
  rintro e w3 ⟨gg, rfl, hgg, hbel⟩
  replace Ha : Hid (Vl w3 a (A) 1048576) := Ha.out.below hbel (Nat.le_refl _)
  replace Hb : Hid (Vl w3 b (B) 1048576) := Hb.out.below hbel (Nat.le_refl _)
  replace Hm : Hid (Vl w3 m (M) 1048576) := Hm.out.below hbel (Nat.le_refl _)
  replace Ox : Hid (Om w3 x (Y)) := Ox.out.below hbel (Nat.le_refl _)
  replace HB : Hid (Below w.heap.size w w3) := HB.out.trans (hbel.mono HB.out.size)
  have Hgg : Hid (Nu w3 gg (Nat.gcd M A)) := hgg
  clear hgg hbel
  have lY : Hid (Lg Y = false) := Lg_lt lM.out HY.out.1
  have Cc := mmul_v x a m (Y) (A) (M) w3 Ox.out.nu (Ha.out.le (by decide)) (Hm.out.le (by decide))
  go_wp2_with fail
  refine Cc.mono ?_
  clear Cc
  rintro e w4 hans
  obtain ⟨p, rfl, hre⟩ := hans.ok (rc0 HM.out lM.out lY.out lA.out)
  have hbel := hre.bel
  replace Ha : Hid (Vl w4 a (A) 1048576) := Ha.out.below hbel (Nat.le_refl _)
  replace Hb : Hid (Vl w4 b (B) 1048576) := Hb.out.below hbel (Nat.le_refl _)
  replace Hm : Hid (Vl w4 m (M) 1048576) := Hm.out.below hbel (Nat.le_refl _)
  replace Ox : Hid (Om w4 x (Y)) := Ox.out.below hbel (Nat.le_refl _)
  replace Hgg : Hid (Nu w4 gg (Nat.gcd M A)) := Hgg.out.below hbel (Nat.le_refl _)
  replace HB : Hid (Below w.heap.size w w4) := HB.out.trans (hbel.mono HB.out.size)
  have Op : Hid (Om w4 p (Y * A % M)) := hre.om
  clear hans hre hbel
  rw [show Y * A % M = 1 by rw [Nat.mul_comm]; exact HY.out.2] at Op
  have Cc := same_lit w4 p 1 (by decide) (by decide) Op.out
  rw [show ((1 : Nat) : Int) = 1 from rfl] at Cc
  go_wp2_with fail
  refine Cc.mono ?_
  clear Cc
  rintro e w5 ⟨rfl, hbel⟩
  replace Ha : Hid (Vl w5 a (A) 1048576) := Ha.out.below hbel (Nat.le_refl _)
  replace Hb : Hid (Vl w5 b (B) 1048576) := Hb.out.below hbel (Nat.le_refl _)
  replace Hm : Hid (Vl w5 m (M) 1048576) := Hm.out.below hbel (Nat.le_refl _)
  replace Ox : Hid (Om w5 x (Y)) := Ox.out.below hbel (Nat.le_refl _)
  replace Hgg : Hid (Nu w5 gg (Nat.gcd M A)) := Hgg.out.below hbel (Nat.le_refl _)
  replace Op : Hid (Om w5 p (1)) := Op.out.below hbel (Nat.le_refl _)
  replace HB : Hid (Below w.heap.size w w5) := HB.out.trans (hbel.mono HB.out.size)
  clear hbel
  have Cc := vcmp x m (Y) (M) 3000000 3000000 w5 Ox.out.nu (Hm.out.le (by decide)) (by decide) (by decide)
  rw [show cmp3 ((Y : Nat) : Int) ((M : Nat) : Int) = -1 from cmp3_lt (by have := HY.out.1; omega)] at Cc
  go_wp2_with fail
  refine Cc.mono ?_
  clear Cc
  rintro e w6 ⟨rfl, qq, hq⟩
  have hbel : Below w5.heap.size w5 w6 := by rw [hq]; exact below_drewN (Below.refl _ _) qq
  replace Ha : Hid (Vl w6 a (A) 1048576) := Ha.out.below hbel (Nat.le_refl _)
  replace Hb : Hid (Vl w6 b (B) 1048576) := Hb.out.below hbel (Nat.le_refl _)
  replace Hm : Hid (Vl w6 m (M) 1048576) := Hm.out.below hbel (Nat.le_refl _)
  replace Ox : Hid (Om w6 x (Y)) := Ox.out.below hbel (Nat.le_refl _)
  replace Hgg : Hid (Nu w6 gg (Nat.gcd M A)) := Hgg.out.below hbel (Nat.le_refl _)
  replace Op : Hid (Om w6 p (1)) := Op.out.below hbel (Nat.le_refl _)
  replace HB : Hid (Below w.heap.size w w6) := HB.out.trans (hbel.mono HB.out.size)
  clear hq hbel
  have hg1 : cmp3 ((Nat.gcd M A : Nat) : Int) 1 = 0 := cmp3_eq (by have h := HY.out.gcd; rw [Nat.gcd_comm] at h; rw [h]; rfl)
  have Cc := cmp_lit w6 gg _ 0 hg1 Hgg.out
  go_wp2_with fail
  refine Cc.mono ?_
  clear Cc
  rintro e w7 ⟨rfl, hbel⟩
  replace Ha : Hid (Vl w7 a (A) 1048576) := Ha.out.below hbel (Nat.le_refl _)
  replace Hb : Hid (Vl w7 b (B) 1048576) := Hb.out.below hbel (Nat.le_refl _)
  replace Hm : Hid (Vl w7 m (M) 1048576) := Hm.out.below hbel (Nat.le_refl _)
  replace Ox : Hid (Om w7 x (Y)) := Ox.out.below hbel (Nat.le_refl _)
  replace Hgg : Hid (Nu w7 gg (Nat.gcd M A)) := Hgg.out.below hbel (Nat.le_refl _)
  replace Op : Hid (Om w7 p (1)) := Op.out.below hbel (Nat.le_refl _)
  replace HB : Hid (Below w.heap.size w w7) := HB.out.trans (hbel.mono HB.out.size)
  clear hbel
  clear hg1 Hgg
  have Cc := minv_v x m (Y) M w7 Ox.out.nu (Hm.out.le (by decide))
  go_wp2_with fail
  refine Cc.mono ?_
  clear Cc
  rintro e w8 hans
  obtain ⟨back, rfl, hre⟩ := hans.ok (rcode_ok lM.out lY.out HM.out) (HY.out.back HM.out)
  have hbel := hre.bel
  replace Ha : Hid (Vl w8 a (A) 1048576) := Ha.out.below hbel (Nat.le_refl _)
  replace Hb : Hid (Vl w8 b (B) 1048576) := Hb.out.below hbel (Nat.le_refl _)
  replace Hm : Hid (Vl w8 m (M) 1048576) := Hm.out.below hbel (Nat.le_refl _)
  replace Ox : Hid (Om w8 x (Y)) := Ox.out.below hbel (Nat.le_refl _)
  replace Op : Hid (Om w8 p (1)) := Op.out.below hbel (Nat.le_refl _)
  replace HB : Hid (Below w.heap.size w w8) := HB.out.trans (hbel.mono HB.out.size)
  have Oback : Hid (Om w8 back (A % M)) := hre.om
  clear hans hre hbel
  have Cc := is_v back a m _ _ _ w8 Oback.out (Ha.out.le (by decide)) (Hm.out.le (by decide)) (by have := HM.out; omega) rfl
  go_wp2_with fail
  refine Cc.mono ?_
  clear Cc
  rintro e w9 ⟨rfl, hbel⟩
  replace Ha : Hid (Vl w9 a (A) 1048576) := Ha.out.below hbel (Nat.le_refl _)
  replace Hb : Hid (Vl w9 b (B) 1048576) := Hb.out.below hbel (Nat.le_refl _)
  replace Hm : Hid (Vl w9 m (M) 1048576) := Hm.out.below hbel (Nat.le_refl _)
  replace Ox : Hid (Om w9 x (Y)) := Ox.out.below hbel (Nat.le_refl _)
  replace Op : Hid (Om w9 p (1)) := Op.out.below hbel (Nat.le_refl _)
  replace Oback : Hid (Om w9 back (A % M)) := Oback.out.below hbel (Nat.le_refl _)
  replace HB : Hid (Below w.heap.size w w9) := HB.out.trans (hbel.mono HB.out.size)
  clear hbel
  have Cc := minv_v b m (B) M w9 (Hb.out.le (by decide)) (Hm.out.le (by decide))
  go_wp2_with fail
  refine Cc.mono ?_
  clear Cc
  rintro e w10 hans
  obtain ⟨y, rfl, hre⟩ := hans.ok HB0.out HZ.out
  have hbel := hre.bel
  replace Ha : Hid (Vl w10 a (A) 1048576) := Ha.out.below hbel (Nat.le_refl _)
  replace Hb : Hid (Vl w10 b (B) 1048576) := Hb.out.below hbel (Nat.le_refl _)
  replace Hm : Hid (Vl w10 m (M) 1048576) := Hm.out.below hbel (Nat.le_refl _)
  replace Ox : Hid (Om w10 x (Y)) := Ox.out.below hbel (Nat.le_refl _)
  replace Op : Hid (Om w10 p (1)) := Op.out.below hbel (Nat.le_refl _)
  replace Oback : Hid (Om w10 back (A % M)) := Oback.out.below hbel (Nat.le_refl _)
  replace HB : Hid (Below w.heap.size w w10) := HB.out.trans (hbel.mono HB.out.size)
  have Oy : Hid (Om w10 y (Z)) := hre.om
  clear hans hre hbel
  obtain ⟨nb, Hnb, hnb⟩ : ∃ n : Nat, Hid ((dg Bs (B)).length = n) ∧ decide ((n : Int) > 128) = false := ⟨_, rfl, by have h := lB.out; unfold Lg at h; rw [← h]; congr 1; simp; omega⟩
  have Cc := limbs_v b (B) _ w10 Hb.out (by decide)
  rw [Hnb.out] at Cc
  go_wp2_with fail
  refine Cc.mono ?_
  clear Cc
  rintro e w10 ⟨rfl, rfl⟩
  have Cc := mmul_v a b m (A) (B) (M) w10 (Ha.out.le (by decide)) (Hb.out.le (by decide)) (Hm.out.le (by decide))
  go_wp2_with fail
  refine Cc.mono ?_
  clear Cc
  rintro e w11 hans
  obtain ⟨q, rfl, hre⟩ := hans.ok (rc0 HM.out lM.out lA.out lB.out)
  have hbel := hre.bel
  replace Ha : Hid (Vl w11 a (A) 1048576) := Ha.out.below hbel (Nat.le_refl _)
  replace Hb : Hid (Vl w11 b (B) 1048576) := Hb.out.below hbel (Nat.le_refl _)
  replace Hm : Hid (Vl w11 m (M) 1048576) := Hm.out.below hbel (Nat.le_refl _)
  replace Ox : Hid (Om w11 x (Y)) := Ox.out.below hbel (Nat.le_refl _)
  replace Op : Hid (Om w11 p (1)) := Op.out.below hbel (Nat.le_refl _)
  replace Oback : Hid (Om w11 back (A % M)) := Oback.out.below hbel (Nat.le_refl _)
  replace Oy : Hid (Om w11 y (Z)) := Oy.out.below hbel (Nat.le_refl _)
  replace HB : Hid (Below w.heap.size w w11) := HB.out.trans (hbel.mono HB.out.size)
  have Oq : Hid (Om w11 q (A * B % M)) := hre.om
  clear hans hre hbel
  have Cc := minv_v q m (A * B % M) M w11 Oq.out.nu (Hm.out.le (by decide))
  go_wp2_with fail
  refine Cc.mono ?_
  clear Cc
  rintro e w12 hans
  obtain ⟨z, rfl, hre⟩ := hans.ok (rcode_ok lM.out (Lg_mod lM.out HM.out) HM.out) (HY.out.prod HZ.out)
  have hbel := hre.bel
  replace Ha : Hid (Vl w12 a (A) 1048576) := Ha.out.below hbel (Nat.le_refl _)
  replace Hb : Hid (Vl w12 b (B) 1048576) := Hb.out.below hbel (Nat.le_refl _)
  replace Hm : Hid (Vl w12 m (M) 1048576) := Hm.out.below hbel (Nat.le_refl _)
  replace Ox : Hid (Om w12 x (Y)) := Ox.out.below hbel (Nat.le_refl _)
  replace Op : Hid (Om w12 p (1)) := Op.out.below hbel (Nat.le_refl _)
  replace Oback : Hid (Om w12 back (A % M)) := Oback.out.below hbel (Nat.le_refl _)
  replace Oy : Hid (Om w12 y (Z)) := Oy.out.below hbel (Nat.le_refl _)
  replace Oq : Hid (Om w12 q (A * B % M)) := Oq.out.below hbel (Nat.le_refl _)
  replace HB : Hid (Below w.heap.size w w12) := HB.out.trans (hbel.mono HB.out.size)
  have Oz : Hid (Om w12 z (Y * Z % M)) := hre.om
  clear hans hre hbel
  have lZ : Hid (Lg Z = false) := Lg_lt lM.out HZ.out.1
  have Cc := mmul_v x y m (Y) (Z) (M) w12 Ox.out.nu Oy.out.nu (Hm.out.le (by decide))
  go_wp2_with fail
  refine Cc.mono ?_
  clear Cc
  rintro e w13 hans
  obtain ⟨ww, rfl, hre⟩ := hans.ok (rc0 HM.out lM.out lY.out lZ.out)
  have hbel := hre.bel
  replace Ha : Hid (Vl w13 a (A) 1048576) := Ha.out.below hbel (Nat.le_refl _)
  replace Hb : Hid (Vl w13 b (B) 1048576) := Hb.out.below hbel (Nat.le_refl _)
  replace Hm : Hid (Vl w13 m (M) 1048576) := Hm.out.below hbel (Nat.le_refl _)
  replace Ox : Hid (Om w13 x (Y)) := Ox.out.below hbel (Nat.le_refl _)
  replace Op : Hid (Om w13 p (1)) := Op.out.below hbel (Nat.le_refl _)
  replace Oback : Hid (Om w13 back (A % M)) := Oback.out.below hbel (Nat.le_refl _)
  replace Oy : Hid (Om w13 y (Z)) := Oy.out.below hbel (Nat.le_refl _)
  replace Oq : Hid (Om w13 q (A * B % M)) := Oq.out.below hbel (Nat.le_refl _)
  replace Oz : Hid (Om w13 z (Y * Z % M)) := Oz.out.below hbel (Nat.le_refl _)
  replace HB : Hid (Below w.heap.size w w13) := HB.out.trans (hbel.mono HB.out.size)
  have Oww : Hid (Om w13 ww (Y * Z % M)) := hre.om
  clear hans hre hbel
  have Cc := lsame_eq z ww (Y * Z % M) w13 Oz.out.nm (by have h := Oww.out.nm; exact h) (Nat.le_trans Oz.out.2 (by decide))
  go_wp2_with fail
  refine Cc.mono ?_
  clear Cc
  rintro e w14 ⟨rfl, qq, hq⟩
  have hbel : Below w13.heap.size w13 w14 := by rw [hq]; exact below_drewN (Below.refl _ _) qq
  replace Ha : Hid (Vl w14 a (A) 1048576) := Ha.out.below hbel (Nat.le_refl _)
  replace Hb : Hid (Vl w14 b (B) 1048576) := Hb.out.below hbel (Nat.le_refl _)
  replace Hm : Hid (Vl w14 m (M) 1048576) := Hm.out.below hbel (Nat.le_refl _)
  replace Ox : Hid (Om w14 x (Y)) := Ox.out.below hbel (Nat.le_refl _)
  replace Op : Hid (Om w14 p (1)) := Op.out.below hbel (Nat.le_refl _)
  replace Oback : Hid (Om w14 back (A % M)) := Oback.out.below hbel (Nat.le_refl _)
  replace Oy : Hid (Om w14 y (Z)) := Oy.out.below hbel (Nat.le_refl _)
  replace Oq : Hid (Om w14 q (A * B % M)) := Oq.out.below hbel (Nat.le_refl _)
  replace Oz : Hid (Om w14 z (Y * Z % M)) := Oz.out.below hbel (Nat.le_refl _)
  replace Oww : Hid (Om w14 ww (Y * Z % M)) := Oww.out.below hbel (Nat.le_refl _)
  replace HB : Hid (Below w.heap.size w w14) := HB.out.trans (hbel.mono HB.out.size)
  clear hq hbel
  go_wp2
  go_ret
  exact ⟨rfl, HB.out⟩

theorem inv_core (a b m : Value) (A B M : Nat) (w : World) (ha : Vl w a A 1048576) (hb : Vl w b B 1048576) (hm : Vl w m M 1048576) :
    Calls Try.prog 7 #[a, b, m] w fun e w' => e = .returned (.bool true) ∧ Below w.heap.size w w' := by
  by_cases h0 : rcode M (Lg A) = 0
  · have hM := (rcode_zero h0).2.2
    by_cases h1 : Nat.gcd A M = 1
    · obtain ⟨Y, hY⟩ := inz_exists A M hM h1
      by_cases h2 : rcode M (Lg B) = 0
      · by_cases h3 : Nat.gcd B M = 1
        · obtain ⟨Z, hZ⟩ := inz_exists B M hM h3
          exact inv_all a b m A B M w ha hb hm h0 Y hY h2 Z hZ
        · exact inv_bnone a b m A B M w ha hb hm h0 Y hY h2 h3
      · exact inv_b a b m A B M w ha hb hm h0 Y hY h2
    · exact inv_none a b m A B M w ha hb hm h0 h1
  · exact inv_ref a b m A B M w ha hb hm h0

end Go.Proofs.Ytecapoknnnoheaa
