import Derived.Test.YtecapoknnnoheaaMl3
namespace Go.Proofs.Ytecapoknnnoheaa
open Go.RowKit

theorem vnil0 (w : World) : Nu w (.slice none 0 0) 0 := ⟨[], ⟨none, 0, rfl, Nat.le_refl _, .inl rfl, Sm.nil _⟩, rfl, Nat.zero_le _⟩

set_option maxRecDepth 100000 in
set_option maxHeartbeats 8000000 in
theorem exp_ref (a b e f m : Value) (A B E F M : Nat) (w : World) (ha : Vl w a A 1048576) (hb : Vl w b B 1048576) (he : Vl w e E 1048576) (hf : Vl w f F 1048576) (hm : Vl w m M 1048576) (h0 : rcode M (Lg A || Lg E) ≠ 0) :
    Calls Try.prog 5 #[a, b, e, f, m] w fun e w' => e = .returned (.bool true) ∧ Below w.heap.size w w' := by
  obtain ⟨c, Hc, hc0⟩ : ∃ c : Nat, Hid (rcode M (Lg A || Lg E) = c) ∧ c ≠ 0 := ⟨_, rfl, h0⟩
  have hcI : ((c : Int) != 0) = true := by simp; omega
  have Hc0 : Hid (c ≠ 0) := hc0
  clear h0 hc0
  have Ha : Hid (Vl w a A 1048576) := ha
  have Hb : Hid (Vl w b B 1048576) := hb
  have He : Hid (Vl w e E 1048576) := he
  have Hf : Hid (Vl w f F 1048576) := hf
  have Hm : Hid (Vl w m M 1048576) := hm
  have HB : Hid (Below w.heap.size w w) := Below.refl _ _
  clear ha hb he hf hm
  go_enter Try.func5, Try.ntmps5
  have Cc := awake_v w
  go_wp2_with fail
  refine Cc.mono ?_
  clear Cc
  rintro e w1 ⟨rfl, hbel⟩
  replace Ha : Hid (Vl w1 a (A) 1048576) := Ha.out.below hbel (Nat.le_refl _)
  replace Hb : Hid (Vl w1 b (B) 1048576) := Hb.out.below hbel (Nat.le_refl _)
  replace He : Hid (Vl w1 e (E) 1048576) := He.out.below hbel (Nat.le_refl _)
  replace Hf : Hid (Vl w1 f (F) 1048576) := Hf.out.below hbel (Nat.le_refl _)
  replace Hm : Hid (Vl w1 m (M) 1048576) := Hm.out.below hbel (Nat.le_refl _)
  replace HB : Hid (Below w.heap.size w w1) := HB.out.trans (hbel.mono HB.out.size)
  clear hbel
  have Cc := mexp_v a e m (A) (E) (M) w1 (Ha.out.le (by decide)) (He.out.le (by decide)) (Hm.out.le (by decide))
  rw [Hc.out] at Cc
  go_wp2_with fail
  refine Cc.mono ?_
  clear Cc
  rintro e w2 hans
  obtain ⟨rfl, hbel⟩ := hans.bad Hc0.out
  replace Ha : Hid (Vl w2 a (A) 1048576) := Ha.out.below hbel (Nat.le_refl _)
  replace Hb : Hid (Vl w2 b (B) 1048576) := Hb.out.below hbel (Nat.le_refl _)
  replace He : Hid (Vl w2 e (E) 1048576) := He.out.below hbel (Nat.le_refl _)
  replace Hf : Hid (Vl w2 f (F) 1048576) := Hf.out.below hbel (Nat.le_refl _)
  replace Hm : Hid (Vl w2 m (M) 1048576) := Hm.out.below hbel (Nat.le_refl _)
  replace HB : Hid (Below w.heap.size w w2) := HB.out.trans (hbel.mono HB.out.size)
  clear hans hbel
  have Cc := refuses_v a e m _ _ _ w2 (Ha.out.le (by decide)) (He.out.le (by decide)) (Hm.out.le (by decide))
  rw [Hc.out] at Cc
  go_wp2_with fail
  refine Cc.mono ?_
  clear Cc
  rintro e w2 ⟨rfl, rfl⟩
  go_wp2
  go_ret
  exact ⟨rfl, HB.out⟩

set_option maxRecDepth 100000 in
set_option maxHeartbeats 8000000 in
theorem exp_f (a b e f m : Value) (A B E F M : Nat) (w : World) (ha : Vl w a A 1048576) (hb : Vl w b B 1048576) (he : Vl w e E 1048576) (hf : Vl w f F 1048576) (hm : Vl w m M 1048576) (h0 : rcode M (Lg A || Lg E) = 0) (hf0 : Lg F = true) :
    Calls Try.prog 5 #[a, b, e, f, m] w fun e w' => e = .returned (.bool true) ∧ Below w.heap.size w w' := by
  have HM : Hid (2 ≤ M) := (rcode_zero h0).2.2
  have lM : Hid (Lg M = false) := (rcode_zero h0).1
  have lA : Hid (Lg A = false) := (Bool.or_eq_false_iff.1 (rcode_zero h0).2.1).1
  have lE : Hid (Lg E = false) := (Bool.or_eq_false_iff.1 (rcode_zero h0).2.1).2
  have lF : Hid (Lg F = true) := hf0
  have H0 : Hid (rcode M (Lg A || Lg E) = 0) := h0
  clear h0 hf0
  have Ha : Hid (Vl w a A 1048576) := ha
  have Hb : Hid (Vl w b B 1048576) := hb
  have He : Hid (Vl w e E 1048576) := he
  have Hf : Hid (Vl w f F 1048576) := hf
  have Hm : Hid (Vl w m M 1048576) := hm
  have HB : Hid (Below w.heap.size w w) := Below.refl _ _
  clear ha hb he hf hm
  go_enter Try.func5, Try.ntmps5
  have Cc := awake_v w
  go_wp2_with fail
  refine Cc.mono ?_
  clear Cc
  rintro e w1 ⟨rfl, hbel⟩
  replace Ha : Hid (Vl w1 a (A) 1048576) := Ha.out.below hbel (Nat.le_refl _)
  replace Hb : Hid (Vl w1 b (B) 1048576) := Hb.out.below hbel (Nat.le_refl _)
  replace He : Hid (Vl w1 e (E) 1048576) := He.out.below hbel (Nat.le_refl _)
  replace Hf : Hid (Vl w1 f (F) 1048576) := Hf.out.below hbel (Nat.le_refl _)
  replace Hm : Hid (Vl w1 m (M) 1048576) := Hm.out.below hbel (Nat.le_refl _)
  replace HB : Hid (Below w.heap.size w w1) := HB.out.trans (hbel.mono HB.out.size)
  clear hbel
  have Cc := mexp_v a e m (A) (E) (M) w1 (Ha.out.le (by decide)) (He.out.le (by decide)) (Hm.out.le (by decide))
  go_wp2_with fail
  refine Cc.mono ?_
  clear Cc
  rintro e w2 hans
  obtain ⟨x, rfl, hre⟩ := hans.ok H0.out
  have hbel := hre.bel
  replace Ha : Hid (Vl w2 a (A) 1048576) := Ha.out.below hbel (Nat.le_refl _)
  replace Hb : Hid (Vl w2 b (B) 1048576) := Hb.out.below hbel (Nat.le_refl _)
  replace He : Hid (Vl w2 e (E) 1048576) := He.out.below hbel (Nat.le_refl _)
  replace Hf : Hid (Vl w2 f (F) 1048576) := Hf.out.below hbel (Nat.le_refl _)
  replace Hm : Hid (Vl w2 m (M) 1048576) := Hm.out.below hbel (Nat.le_refl _)
  replace HB : Hid (Below w.heap.size w w2) := HB.out.trans (hbel.mono HB.out.size)
  have Ox : Hid (Om w2 x (A ^ E % M)) := hre.om
  clear hans hre hbel
  have Cc := refuses_v a e m _ _ _ w2 (Ha.out.le (by decide)) (He.out.le (by decide)) (Hm.out.le (by decide))
  rw [H0.out] at Cc
  go_wp2_with fail
  refine Cc.mono ?_
  clear Cc
  rintro e w2 ⟨rfl, rfl⟩
  have Cc := mexp_v a (.slice none 0 0) m A 0 M w2 (Ha.out.le (by decide)) (vnil0 w2) (Hm.out.le (by decide))
  go_wp2_with fail
  refine Cc.mono ?_
  clear Cc
  rintro e w3 hans
  obtain ⟨zero, rfl, hre⟩ := hans.ok (rc0 HM.out lM.out lA.out (Lg_small (by decide)))
  have hbel := hre.bel
  replace Ha : Hid (Vl w3 a (A) 1048576) := Ha.out.below hbel (Nat.le_refl _)
  replace Hb : Hid (Vl w3 b (B) 1048576) := Hb.out.below hbel (Nat.le_refl _)
  replace He : Hid (Vl w3 e (E) 1048576) := He.out.below hbel (Nat.le_refl _)
  replace Hf : Hid (Vl w3 f (F) 1048576) := Hf.out.below hbel (Nat.le_refl _)
  replace Hm : Hid (Vl w3 m (M) 1048576) := Hm.out.below hbel (Nat.le_refl _)
  replace Ox : Hid (Om w3 x (A ^ E % M)) := Ox.out.below hbel (Nat.le_refl _)
  replace HB : Hid (Below w.heap.size w w3) := HB.out.trans (hbel.mono HB.out.size)
  rw [Nat.pow_zero, Nat.mod_eq_of_lt (show 1 < M by have := HM.out; omega)] at hre
  have Ozero : Hid (Om w3 zero (1)) := hre.om
  clear hans hre hbel
  have hlb := alloc_below w3 (.cells #[.int .u32 1] 29)
  have Cc := mexp_v a _ m A 1 M _ (Ha.out.below hlb (Nat.le_refl _) |>.le (by decide)) (lit_nu w3 1 (by decide)) (Hm.out.below hlb (Nat.le_refl _) |>.le (by decide))
  go_wp2_with fail
  refine Cc.mono ?_
  clear Cc
  rintro e w4 hans
  obtain ⟨one, rfl, hre⟩ := hans.ok (rc0 HM.out lM.out lA.out (Lg_small (by decide)))
  have hbel : Below w3.heap.size w3 w4 := hlb.trans (hre.bel.mono hlb.size)
  replace Ha : Hid (Vl w4 a (A) 1048576) := Ha.out.below hbel (Nat.le_refl _)
  replace Hb : Hid (Vl w4 b (B) 1048576) := Hb.out.below hbel (Nat.le_refl _)
  replace He : Hid (Vl w4 e (E) 1048576) := He.out.below hbel (Nat.le_refl _)
  replace Hf : Hid (Vl w4 f (F) 1048576) := Hf.out.below hbel (Nat.le_refl _)
  replace Hm : Hid (Vl w4 m (M) 1048576) := Hm.out.below hbel (Nat.le_refl _)
  replace Ox : Hid (Om w4 x (A ^ E % M)) := Ox.out.below hbel (Nat.le_refl _)
  replace Ozero : Hid (Om w4 zero (1)) := Ozero.out.below hbel (Nat.le_refl _)
  replace HB : Hid (Below w.heap.size w w4) := HB.out.trans (hbel.mono HB.out.size)
  rw [Nat.pow_one] at hre
  have Oone : Hid (Om w4 one (A % M)) := hre.om
  clear hans hre hbel hlb
  have Cc := same_lit w4 zero 1 (by decide) (by decide) Ozero.out
  rw [show ((1 : Nat) : Int) = 1 from rfl] at Cc
  go_wp2_with fail
  refine Cc.mono ?_
  clear Cc
  rintro e w5 ⟨rfl, hbel⟩
  replace Ha : Hid (Vl w5 a (A) 1048576) := Ha.out.below hbel (Nat.le_refl _)
  replace Hb : Hid (Vl w5 b (B) 1048576) := Hb.out.below hbel (Nat.le_refl _)
  replace He : Hid (Vl w5 e (E) 1048576) := He.out.below hbel (Nat.le_refl _)
  replace Hf : Hid (Vl w5 f (F) 1048576) := Hf.out.below hbel (Nat.le_refl _)
  replace Hm : Hid (Vl w5 m (M) 1048576) := Hm.out.below hbel (Nat.le_refl _)
  replace Ox : Hid (Om w5 x (A ^ E % M)) := Ox.out.below hbel (Nat.le_refl _)
  replace Ozero : Hid (Om w5 zero (1)) := Ozero.out.below hbel (Nat.le_refl _)
  replace Oone : Hid (Om w5 one (A % M)) := Oone.out.below hbel (Nat.le_refl _)
  replace HB : Hid (Below w.heap.size w w5) := HB.out.trans (hbel.mono HB.out.size)
  clear hbel
  have Cc := is_v one a m _ _ _ w5 Oone.out (Ha.out.le (by decide)) (Hm.out.le (by decide)) (by have := HM.out; omega) rfl
  go_wp2_with fail
  refine Cc.mono ?_
  clear Cc
  rintro e w6 ⟨rfl, hbel⟩
  replace Ha : Hid (Vl w6 a (A) 1048576) := Ha.out.below hbel (Nat.le_refl _)
  replace Hb : Hid (Vl w6 b (B) 1048576) := Hb.out.below hbel (Nat.le_refl _)
  replace He : Hid (Vl w6 e (E) 1048576) := He.out.below hbel (Nat.le_refl _)
  replace Hf : Hid (Vl w6 f (F) 1048576) := Hf.out.below hbel (Nat.le_refl _)
  replace Hm : Hid (Vl w6 m (M) 1048576) := Hm.out.below hbel (Nat.le_refl _)
  replace Ox : Hid (Om w6 x (A ^ E % M)) := Ox.out.below hbel (Nat.le_refl _)
  replace Ozero : Hid (Om w6 zero (1)) := Ozero.out.below hbel (Nat.le_refl _)
  replace Oone : Hid (Om w6 one (A % M)) := Oone.out.below hbel (Nat.le_refl _)
  replace HB : Hid (Below w.heap.size w w6) := HB.out.trans (hbel.mono HB.out.size)
  clear hbel
  have Cc := vcmp x m (A ^ E % M) (M) 3000000 3000000 w6 Ox.out.nu (Hm.out.le (by decide)) (by decide) (by decide)
  rw [show cmp3 ((A ^ E % M : Nat) : Int) ((M : Nat) : Int) = -1 from cmp3_lt (by have := Nat.mod_lt (A ^ E) (show 0 < M by have := HM.out; omega); omega)] at Cc
  go_wp2_with fail
  refine Cc.mono ?_
  clear Cc
  rintro e w7 ⟨rfl, qq, hq⟩
  have hbel : Below w6.heap.size w6 w7 := by rw [hq]; exact below_drewN (Below.refl _ _) qq
  replace Ha : Hid (Vl w7 a (A) 1048576) := Ha.out.below hbel (Nat.le_refl _)
  replace Hb : Hid (Vl w7 b (B) 1048576) := Hb.out.below hbel (Nat.le_refl _)
  replace He : Hid (Vl w7 e (E) 1048576) := He.out.below hbel (Nat.le_refl _)
  replace Hf : Hid (Vl w7 f (F) 1048576) := Hf.out.below hbel (Nat.le_refl _)
  replace Hm : Hid (Vl w7 m (M) 1048576) := Hm.out.below hbel (Nat.le_refl _)
  replace Ox : Hid (Om w7 x (A ^ E % M)) := Ox.out.below hbel (Nat.le_refl _)
  replace Ozero : Hid (Om w7 zero (1)) := Ozero.out.below hbel (Nat.le_refl _)
  replace Oone : Hid (Om w7 one (A % M)) := Oone.out.below hbel (Nat.le_refl _)
  replace HB : Hid (Below w.heap.size w w7) := HB.out.trans (hbel.mono HB.out.size)
  clear hq hbel
  have Cc := vadd e f _ _ _ _ w7 He.out Hf.out (by decide) (by decide)
  go_wp2_with fail
  refine Cc.mono ?_
  clear Cc
  rintro e w8 ⟨sum, rfl, hnew⟩
  have hbel := hnew.2.2
  replace Ha : Hid (Vl w8 a (A) 1048576) := Ha.out.below hbel (Nat.le_refl _)
  replace Hb : Hid (Vl w8 b (B) 1048576) := Hb.out.below hbel (Nat.le_refl _)
  replace He : Hid (Vl w8 e (E) 1048576) := He.out.below hbel (Nat.le_refl _)
  replace Hf : Hid (Vl w8 f (F) 1048576) := Hf.out.below hbel (Nat.le_refl _)
  replace Hm : Hid (Vl w8 m (M) 1048576) := Hm.out.below hbel (Nat.le_refl _)
  replace Ox : Hid (Om w8 x (A ^ E % M)) := Ox.out.below hbel (Nat.le_refl _)
  replace Ozero : Hid (Om w8 zero (1)) := Ozero.out.below hbel (Nat.le_refl _)
  replace Oone : Hid (Om w8 one (A % M)) := Oone.out.below hbel (Nat.le_refl _)
  replace HB : Hid (Below w.heap.size w w8) := HB.out.trans (hbel.mono HB.out.size)
  have Osum : Hid (Om w8 sum (E + F)) := ⟨hnew.1.base (Nat.zero_le _), Nat.le_trans hnew.2.1 (by decide)⟩
  clear hnew hbel
  obtain ⟨nf, Hnf, hnf⟩ : ∃ n : Nat, Hid ((dg Bs (F)).length = n) ∧ decide ((n : Int) > 128) = true := ⟨_, rfl, by have h := lF.out; unfold Lg at h; rw [← h]; congr 1; simp; omega⟩
  have Cc := limbs_v f (F) _ w8 Hf.out (by decide)
  rw [Hnf.out] at Cc
  go_wp2_with fail
  refine Cc.mono ?_
  clear Cc
  rintro e w8 ⟨rfl, rfl⟩
  go_wp2
  go_ret
  exact ⟨rfl, HB.out⟩

set_option maxRecDepth 100000 in
set_option maxHeartbeats 8000000 in
theorem exp_sum' (a b e f m : Value) (A B E F M : Nat) (w : World) (ha : Vl w a A 1048576) (hb : Vl w b B 1048576) (he : Vl w e E 1048576) (hf : Vl w f F 1048576) (hm : Vl w m M 1048576) (h0 : rcode M (Lg A || Lg E) = 0) (hf0 : Lg F = false) (hs0 : Lg (E + F) = true) :
    Calls Try.prog 5 #[a, b, e, f, m] w fun e w' => e = .returned (.bool true) ∧ Below w.heap.size w w' := by
  have HM : Hid (2 ≤ M) := (rcode_zero h0).2.2
  have lM : Hid (Lg M = false) := (rcode_zero h0).1
  have lA : Hid (Lg A = false) := (Bool.or_eq_false_iff.1 (rcode_zero h0).2.1).1
  have lE : Hid (Lg E = false) := (Bool.or_eq_false_iff.1 (rcode_zero h0).2.1).2
  have lF : Hid (Lg F = false) := hf0
  have lS : Hid (Lg (E + F) = true) := hs0
  have H0 : Hid (rcode M (Lg A || Lg E) = 0) := h0
  clear h0 hf0 hs0
  have Ha : Hid (Vl w a A 1048576) := ha
  have Hb : Hid (Vl w b B 1048576) := hb
  have He : Hid (Vl w e E 1048576) := he
  have Hf : Hid (Vl w f F 1048576) := hf
  have Hm : Hid (Vl w m M 1048576) := hm
  have HB : Hid (Below w.heap.size w w) := Below.refl _ _
  clear ha hb he hf hm
  go_enter Try.func5, Try.ntmps5
  have Cc := awake_v w
  go_wp2_with fail
  refine Cc.mono ?_
  clear Cc
  rintro e w1 ⟨rfl, hbel⟩
  replace Ha : Hid (Vl w1 a (A) 1048576) := Ha.out.below hbel (Nat.le_refl _)
  replace Hb : Hid (Vl w1 b (B) 1048576) := Hb.out.below hbel (Nat.le_refl _)
  replace He : Hid (Vl w1 e (E) 1048576) := He.out.below hbel (Nat.le_refl _)
  replace Hf : Hid (Vl w1 f (F) 1048576) := Hf.out.below hbel (Nat.le_refl _)
  replace Hm : Hid (Vl w1 m (M) 1048576) := Hm.out.below hbel (Nat.le_refl _)
  replace HB : Hid (Below w.heap.size w w1) := HB.out.trans (hbel.mono HB.out.size)
  clear hbel
  have Cc := mexp_v a e m (A) (E) (M) w1 (Ha.out.le (by decide)) (He.out.le (by decide)) (Hm.out.le (by decide))
  go_wp2_with fail
  refine Cc.mono ?_
  clear Cc
  rintro e w2 hans
  obtain ⟨x, rfl, hre⟩ := hans.ok H0.out
  have hbel := hre.bel
  replace Ha : Hid (Vl w2 a (A) 1048576) := Ha.out.below hbel (Nat.le_refl _)
  replace Hb : Hid (Vl w2 b (B) 1048576) := Hb.out.below hbel (Nat.le_refl _)
  replace He : Hid (Vl w2 e (E) 1048576) := He.out.below hbel (Nat.le_refl _)
  replace Hf : Hid (Vl w2 f (F) 1048576) := Hf.out.below hbel (Nat.le_refl _)
  replace Hm : Hid (Vl w2 m (M) 1048576) := Hm.out.below hbel (Nat.le_refl _)
  replace HB : Hid (Below w.heap.size w w2) := HB.out.trans (hbel.mono HB.out.size)
  have Ox : Hid (Om w2 x (A ^ E % M)) := hre.om
  clear hans hre hbel
  have Cc := refuses_v a e m _ _ _ w2 (Ha.out.le (by decide)) (He.out.le (by decide)) (Hm.out.le (by decide))
  rw [H0.out] at Cc
  go_wp2_with fail
  refine Cc.mono ?_
  clear Cc
  rintro e w2 ⟨rfl, rfl⟩
  have Cc := mexp_v a (.slice none 0 0) m A 0 M w2 (Ha.out.le (by decide)) (vnil0 w2) (Hm.out.le (by decide))
  go_wp2_with fail
  refine Cc.mono ?_
  clear Cc
  rintro e w3 hans
  obtain ⟨zero, rfl, hre⟩ := hans.ok (rc0 HM.out lM.out lA.out (Lg_small (by decide)))
  have hbel := hre.bel
  replace Ha : Hid (Vl w3 a (A) 1048576) := Ha.out.below hbel (Nat.le_refl _)
  replace Hb : Hid (Vl w3 b (B) 1048576) := Hb.out.below hbel (Nat.le_refl _)
  replace He : Hid (Vl w3 e (E) 1048576) := He.out.below hbel (Nat.le_refl _)
  replace Hf : Hid (Vl w3 f (F) 1048576) := Hf.out.below hbel (Nat.le_refl _)
  replace Hm : Hid (Vl w3 m (M) 1048576) := Hm.out.below hbel (Nat.le_refl _)
  replace Ox : Hid (Om w3 x (A ^ E % M)) := Ox.out.below hbel (Nat.le_refl _)
  replace HB : Hid (Below w.heap.size w w3) := HB.out.trans (hbel.mono HB.out.size)
  rw [Nat.pow_zero, Nat.mod_eq_of_lt (show 1 < M by have := HM.out; omega)] at hre
  have Ozero : Hid (Om w3 zero (1)) := hre.om
  clear hans hre hbel
  have hlb := alloc_below w3 (.cells #[.int .u32 1] 29)
  have Cc := mexp_v a _ m A 1 M _ (Ha.out.below hlb (Nat.le_refl _) |>.le (by decide)) (lit_nu w3 1 (by decide)) (Hm.out.below hlb (Nat.le_refl _) |>.le (by decide))
  go_wp2_with fail
  refine Cc.mono ?_
  clear Cc
  rintro e w4 hans
  obtain ⟨one, rfl, hre⟩ := hans.ok (rc0 HM.out lM.out lA.out (Lg_small (by decide)))
  have hbel : Below w3.heap.size w3 w4 := hlb.trans (hre.bel.mono hlb.size)
  replace Ha : Hid (Vl w4 a (A) 1048576) := Ha.out.below hbel (Nat.le_refl _)
  replace Hb : Hid (Vl w4 b (B) 1048576) := Hb.out.below hbel (Nat.le_refl _)
  replace He : Hid (Vl w4 e (E) 1048576) := He.out.below hbel (Nat.le_refl _)
  replace Hf : Hid (Vl w4 f (F) 1048576) := Hf.out.below hbel (Nat.le_refl _)
  replace Hm : Hid (Vl w4 m (M) 1048576) := Hm.out.below hbel (Nat.le_refl _)
  replace Ox : Hid (Om w4 x (A ^ E % M)) := Ox.out.below hbel (Nat.le_refl _)
  replace Ozero : Hid (Om w4 zero (1)) := Ozero.out.below hbel (Nat.le_refl _)
  replace HB : Hid (Below w.heap.size w w4) := HB.out.trans (hbel.mono HB.out.size)
  rw [Nat.pow_one] at hre
  have Oone : Hid (Om w4 one (A % M)) := hre.om
  clear hans hre hbel hlb
  have Cc := same_lit w4 zero 1 (by decide) (by decide) Ozero.out
  rw [show ((1 : Nat) : Int) = 1 from rfl] at Cc
  go_wp2_with fail
  refine Cc.mono ?_
  clear Cc
  rintro e w5 ⟨rfl, hbel⟩
  replace Ha : Hid (Vl w5 a (A) 1048576) := Ha.out.below hbel (Nat.le_refl _)
  replace Hb : Hid (Vl w5 b (B) 1048576) := Hb.out.below hbel (Nat.le_refl _)
  replace He : Hid (Vl w5 e (E) 1048576) := He.out.below hbel (Nat.le_refl _)
  replace Hf : Hid (Vl w5 f (F) 1048576) := Hf.out.below hbel (Nat.le_refl _)
  replace Hm : Hid (Vl w5 m (M) 1048576) := Hm.out.below hbel (Nat.le_refl _)
  replace Ox : Hid (Om w5 x (A ^ E % M)) := Ox.out.below hbel (Nat.le_refl _)
  replace Ozero : Hid (Om w5 zero (1)) := Ozero.out.below hbel (Nat.le_refl _)
  replace Oone : Hid (Om w5 one (A % M)) := Oone.out.below hbel (Nat.le_refl _)
  replace HB : Hid (Below w.heap.size w w5) := HB.out.trans (hbel.mono HB.out.size)
  clear hbel
  have Cc := is_v one a m _ _ _ w5 Oone.out (Ha.out.le (by decide)) (Hm.out.le (by decide)) (by have := HM.out; omega) rfl
  go_wp2_with fail
  refine Cc.mono ?_
  clear Cc
  rintro e w6 ⟨rfl, hbel⟩
  replace Ha : Hid (Vl w6 a (A) 1048576) := Ha.out.below hbel (Nat.le_refl _)
  replace Hb : Hid (Vl w6 b (B) 1048576) := Hb.out.below hbel (Nat.le_refl _)
  replace He : Hid (Vl w6 e (E) 1048576) := He.out.below hbel (Nat.le_refl _)
  replace Hf : Hid (Vl w6 f (F) 1048576) := Hf.out.below hbel (Nat.le_refl _)
  replace Hm : Hid (Vl w6 m (M) 1048576) := Hm.out.below hbel (Nat.le_refl _)
  replace Ox : Hid (Om w6 x (A ^ E % M)) := Ox.out.below hbel (Nat.le_refl _)
  replace Ozero : Hid (Om w6 zero (1)) := Ozero.out.below hbel (Nat.le_refl _)
  replace Oone : Hid (Om w6 one (A % M)) := Oone.out.below hbel (Nat.le_refl _)
  replace HB : Hid (Below w.heap.size w w6) := HB.out.trans (hbel.mono HB.out.size)
  clear hbel
  have Cc := vcmp x m (A ^ E % M) (M) 3000000 3000000 w6 Ox.out.nu (Hm.out.le (by decide)) (by decide) (by decide)
  rw [show cmp3 ((A ^ E % M : Nat) : Int) ((M : Nat) : Int) = -1 from cmp3_lt (by have := Nat.mod_lt (A ^ E) (show 0 < M by have := HM.out; omega); omega)] at Cc
  go_wp2_with fail
  refine Cc.mono ?_
  clear Cc
  rintro e w7 ⟨rfl, qq, hq⟩
  have hbel : Below w6.heap.size w6 w7 := by rw [hq]; exact below_drewN (Below.refl _ _) qq
  replace Ha : Hid (Vl w7 a (A) 1048576) := Ha.out.below hbel (Nat.le_refl _)
  replace Hb : Hid (Vl w7 b (B) 1048576) := Hb.out.below hbel (Nat.le_refl _)
  replace He : Hid (Vl w7 e (E) 1048576) := He.out.below hbel (Nat.le_refl _)
  replace Hf : Hid (Vl w7 f (F) 1048576) := Hf.out.below hbel (Nat.le_refl _)
  replace Hm : Hid (Vl w7 m (M) 1048576) := Hm.out.below hbel (Nat.le_refl _)
  replace Ox : Hid (Om w7 x (A ^ E % M)) := Ox.out.below hbel (Nat.le_refl _)
  replace Ozero : Hid (Om w7 zero (1)) := Ozero.out.below hbel (Nat.le_refl _)
  replace Oone : Hid (Om w7 one (A % M)) := Oone.out.below hbel (Nat.le_refl _)
  replace HB : Hid (Below w.heap.size w w7) := HB.out.trans (hbel.mono HB.out.size)
  clear hq hbel
  have Cc := vadd e f _ _ _ _ w7 He.out Hf.out (by decide) (by decide)
  go_wp2_with fail
  refine Cc.mono ?_
  clear Cc
  rintro e w8 ⟨sum, rfl, hnew⟩
  have hbel := hnew.2.2
  replace Ha : Hid (Vl w8 a (A) 1048576) := Ha.out.below hbel (Nat.le_refl _)
  replace Hb : Hid (Vl w8 b (B) 1048576) := Hb.out.below hbel (Nat.le_refl _)
  replace He : Hid (Vl w8 e (E) 1048576) := He.out.below hbel (Nat.le_refl _)
  replace Hf : Hid (Vl w8 f (F) 1048576) := Hf.out.below hbel (Nat.le_refl _)
  replace Hm : Hid (Vl w8 m (M) 1048576) := Hm.out.below hbel (Nat.le_refl _)
  replace Ox : Hid (Om w8 x (A ^ E % M)) := Ox.out.below hbel (Nat.le_refl _)
  replace Ozero : Hid (Om w8 zero (1)) := Ozero.out.below hbel (Nat.le_refl _)
  replace Oone : Hid (Om w8 one (A % M)) := Oone.out.below hbel (Nat.le_refl _)
  replace HB : Hid (Below w.heap.size w w8) := HB.out.trans (hbel.mono HB.out.size)
  have Osum : Hid (Om w8 sum (E + F)) := ⟨hnew.1.base (Nat.zero_le _), Nat.le_trans hnew.2.1 (by decide)⟩
  clear hnew hbel
  obtain ⟨nf, Hnf, hnf⟩ : ∃ n : Nat, Hid ((dg Bs (F)).length = n) ∧ decide ((n : Int) > 128) = false := ⟨_, rfl, by have h := lF.out; unfold Lg at h; rw [← h]; congr 1; simp; omega⟩
  have Cc := limbs_v f (F) _ w8 Hf.out (by decide)
  rw [Hnf.out] at Cc
  go_wp2_with fail
  refine Cc.mono ?_
  clear Cc
  rintro e w8 ⟨rfl, rfl⟩
  obtain ⟨nsum, Hnsum, hnsum⟩ : ∃ n : Nat, Hid ((dg Bs (E + F)).length = n) ∧ decide ((n : Int) > 128) = true := ⟨_, rfl, by have h := lS.out; unfold Lg at h; rw [← h]; congr 1; simp; omega⟩
  have Cc := limbs_v sum (E + F) _ w8 Osum.out.nu (by decide)
  rw [Hnsum.out] at Cc
  go_wp2_with fail
  refine Cc.mono ?_
  clear Cc
  rintro e w8 ⟨rfl, rfl⟩
  go_wp2
  go_ret
  exact ⟨rfl, HB.out⟩

set_option maxRecDepth 100000 in
set_option maxHeartbeats 8000000 in
theorem exp_b (a b e f m : Value) (A B E F M : Nat) (w : World) (ha : Vl w a A 1048576) (hb : Vl w b B 1048576) (he : Vl w e E 1048576) (hf : Vl w f F 1048576) (hm : Vl w m M 1048576) (h0 : rcode M (Lg A || Lg E) = 0) (hf0 : Lg F = false) (hs0 : Lg (E + F) = false) (hb0 : Lg B = true) :
    Calls Try.prog 5 #[a, b, e, f, m] w fun e w' => e = .returned (.bool true) ∧ Below w.heap.size w w' := by
  have HM : Hid (2 ≤ M) := (rcode_zero h0).2.2
  have lM : Hid (Lg M = false) := (rcode_zero h0).1
  have lA : Hid (Lg A = false) := (Bool.or_eq_false_iff.1 (rcode_zero h0).2.1).1
  have lE : Hid (Lg E = false) := (Bool.or_eq_false_iff.1 (rcode_zero h0).2.1).2
  have lF : Hid (Lg F = false) := hf0
  have lS : Hid (Lg (E + F) = false) := hs0
  have lB : Hid (Lg B = true) := hb0
  have H0 : Hid (rcode M (Lg A || Lg E) = 0) := h0
  clear h0 hf0 hs0 hb0
  have Ha : Hid (Vl w a A 1048576) := ha
  have Hb : Hid (Vl w b B 1048576) := hb
  have He : Hid (Vl w e E 1048576) := he
  have Hf : Hid (Vl w f F 1048576) := hf
  have Hm : Hid (Vl w m M 1048576) := hm
  have HB : Hid (Below w.heap.size w w) := Below.refl _ _
  clear ha hb he hf hm
  go_enter Try.func5, Try.ntmps5
  have Cc := awake_v w
  go_wp2_with fail
  refine Cc.mono ?_
  clear Cc
  rintro e w1 ⟨rfl, hbel⟩
  replace Ha : Hid (Vl w1 a (A) 1048576) := Ha.out.below hbel (Nat.le_refl _)
  replace Hb : Hid (Vl w1 b (B) 1048576) := Hb.out.below hbel (Nat.le_refl _)
  replace He : Hid (Vl w1 e (E) 1048576) := He.out.below hbel (Nat.le_refl _)
  replace Hf : Hid (Vl w1 f (F) 1048576) := Hf.out.below hbel (Nat.le_refl _)
  replace Hm : Hid (Vl w1 m (M) 1048576) := Hm.out.below hbel (Nat.le_refl _)
  replace HB : Hid (Below w.heap.size w w1) := HB.out.trans (hbel.mono HB.out.size)
  clear hbel
  have Cc := mexp_v a e m (A) (E) (M) w1 (Ha.out.le (by decide)) (He.out.le (by decide)) (Hm.out.le (by decide))
  go_wp2_with fail
  refine Cc.mono ?_
  clear Cc
  rintro e w2 hans
  obtain ⟨x, rfl, hre⟩ := hans.ok H0.out
  have hbel := hre.bel
  replace Ha : Hid (Vl w2 a (A) 1048576) := Ha.out.below hbel (Nat.le_refl _)
  replace Hb : Hid (Vl w2 b (B) 1048576) := Hb.out.below hbel (Nat.le_refl _)
  replace He : Hid (Vl w2 e (E) 1048576) := He.out.below hbel (Nat.le_refl _)
  replace Hf : Hid (Vl w2 f (F) 1048576) := Hf.out.below hbel (Nat.le_refl _)
  replace Hm : Hid (Vl w2 m (M) 1048576) := Hm.out.below hbel (Nat.le_refl _)
  replace HB : Hid (Below w.heap.size w w2) := HB.out.trans (hbel.mono HB.out.size)
  have Ox : Hid (Om w2 x (A ^ E % M)) := hre.om
  clear hans hre hbel
  have Cc := refuses_v a e m _ _ _ w2 (Ha.out.le (by decide)) (He.out.le (by decide)) (Hm.out.le (by decide))
  rw [H0.out] at Cc
  go_wp2_with fail
  refine Cc.mono ?_
  clear Cc
  rintro e w2 ⟨rfl, rfl⟩
  have Cc := mexp_v a (.slice none 0 0) m A 0 M w2 (Ha.out.le (by decide)) (vnil0 w2) (Hm.out.le (by decide))
  go_wp2_with fail
  refine Cc.mono ?_
  clear Cc
  rintro e w3 hans
  obtain ⟨zero, rfl, hre⟩ := hans.ok (rc0 HM.out lM.out lA.out (Lg_small (by decide)))
  have hbel := hre.bel
  replace Ha : Hid (Vl w3 a (A) 1048576) := Ha.out.below hbel (Nat.le_refl _)
  replace Hb : Hid (Vl w3 b (B) 1048576) := Hb.out.below hbel (Nat.le_refl _)
  replace He : Hid (Vl w3 e (E) 1048576) := He.out.below hbel (Nat.le_refl _)
  replace Hf : Hid (Vl w3 f (F) 1048576) := Hf.out.below hbel (Nat.le_refl _)
  replace Hm : Hid (Vl w3 m (M) 1048576) := Hm.out.below hbel (Nat.le_refl _)
  replace Ox : Hid (Om w3 x (A ^ E % M)) := Ox.out.below hbel (Nat.le_refl _)
  replace HB : Hid (Below w.heap.size w w3) := HB.out.trans (hbel.mono HB.out.size)
  rw [Nat.pow_zero, Nat.mod_eq_of_lt (show 1 < M by have := HM.out; omega)] at hre
  have Ozero : Hid (Om w3 zero (1)) := hre.om
  clear hans hre hbel
  have hlb := alloc_below w3 (.cells #[.int .u32 1] 29)
  have Cc := mexp_v a _ m A 1 M _ (Ha.out.below hlb (Nat.le_refl _) |>.le (by decide)) (lit_nu w3 1 (by decide)) (Hm.out.below hlb (Nat.le_refl _) |>.le (by decide))
  go_wp2_with fail
  refine Cc.mono ?_
  clear Cc
  rintro e w4 hans
  obtain ⟨one, rfl, hre⟩ := hans.ok (rc0 HM.out lM.out lA.out (Lg_small (by decide)))
  have hbel : Below w3.heap.size w3 w4 := hlb.trans (hre.bel.mono hlb.size)
  replace Ha : Hid (Vl w4 a (A) 1048576) := Ha.out.below hbel (Nat.le_refl _)
  replace Hb : Hid (Vl w4 b (B) 1048576) := Hb.out.below hbel (Nat.le_refl _)
  replace He : Hid (Vl w4 e (E) 1048576) := He.out.below hbel (Nat.le_refl _)
  replace Hf : Hid (Vl w4 f (F) 1048576) := Hf.out.below hbel (Nat.le_refl _)
  replace Hm : Hid (Vl w4 m (M) 1048576) := Hm.out.below hbel (Nat.le_refl _)
  replace Ox : Hid (Om w4 x (A ^ E % M)) := Ox.out.below hbel (Nat.le_refl _)
  replace Ozero : Hid (Om w4 zero (1)) := Ozero.out.below hbel (Nat.le_refl _)
  replace HB : Hid (Below w.heap.size w w4) := HB.out.trans (hbel.mono HB.out.size)
  rw [Nat.pow_one] at hre
  have Oone : Hid (Om w4 one (A % M)) := hre.om
  clear hans hre hbel hlb
  have Cc := same_lit w4 zero 1 (by decide) (by decide) Ozero.out
  rw [show ((1 : Nat) : Int) = 1 from rfl] at Cc
  go_wp2_with fail
  refine Cc.mono ?_
  clear Cc
  rintro e w5 ⟨rfl, hbel⟩
  replace Ha : Hid (Vl w5 a (A) 1048576) := Ha.out.below hbel (Nat.le_refl _)
  replace Hb : Hid (Vl w5 b (B) 1048576) := Hb.out.below hbel (Nat.le_refl _)
  replace He : Hid (Vl w5 e (E) 1048576) := He.out.below hbel (Nat.le_refl _)
  replace Hf : Hid (Vl w5 f (F) 1048576) := Hf.out.below hbel (Nat.le_refl _)
  replace Hm : Hid (Vl w5 m (M) 1048576) := Hm.out.below hbel (Nat.le_refl _)
  replace Ox : Hid (Om w5 x (A ^ E % M)) := Ox.out.below hbel (Nat.le_refl _)
  replace Ozero : Hid (Om w5 zero (1)) := Ozero.out.below hbel (Nat.le_refl _)
  replace Oone : Hid (Om w5 one (A % M)) := Oone.out.below hbel (Nat.le_refl _)
  replace HB : Hid (Below w.heap.size w w5) := HB.out.trans (hbel.mono HB.out.size)
  clear hbel
  have Cc := is_v one a m _ _ _ w5 Oone.out (Ha.out.le (by decide)) (Hm.out.le (by decide)) (by have := HM.out; omega) rfl
  go_wp2_with fail
  refine Cc.mono ?_
  clear Cc
  rintro e w6 ⟨rfl, hbel⟩
  replace Ha : Hid (Vl w6 a (A) 1048576) := Ha.out.below hbel (Nat.le_refl _)
  replace Hb : Hid (Vl w6 b (B) 1048576) := Hb.out.below hbel (Nat.le_refl _)
  replace He : Hid (Vl w6 e (E) 1048576) := He.out.below hbel (Nat.le_refl _)
  replace Hf : Hid (Vl w6 f (F) 1048576) := Hf.out.below hbel (Nat.le_refl _)
  replace Hm : Hid (Vl w6 m (M) 1048576) := Hm.out.below hbel (Nat.le_refl _)
  replace Ox : Hid (Om w6 x (A ^ E % M)) := Ox.out.below hbel (Nat.le_refl _)
  replace Ozero : Hid (Om w6 zero (1)) := Ozero.out.below hbel (Nat.le_refl _)
  replace Oone : Hid (Om w6 one (A % M)) := Oone.out.below hbel (Nat.le_refl _)
  replace HB : Hid (Below w.heap.size w w6) := HB.out.trans (hbel.mono HB.out.size)
  clear hbel
  have Cc := vcmp x m (A ^ E % M) (M) 3000000 3000000 w6 Ox.out.nu (Hm.out.le (by decide)) (by decide) (by decide)
  rw [show cmp3 ((A ^ E % M : Nat) : Int) ((M : Nat) : Int) = -1 from cmp3_lt (by have := Nat.mod_lt (A ^ E) (show 0 < M by have := HM.out; omega); omega)] at Cc
  go_wp2_with fail
  refine Cc.mono ?_
  clear Cc
  rintro e w7 ⟨rfl, qq, hq⟩
  have hbel : Below w6.heap.size w6 w7 := by rw [hq]; exact below_drewN (Below.refl _ _) qq
  replace Ha : Hid (Vl w7 a (A) 1048576) := Ha.out.below hbel (Nat.le_refl _)
  replace Hb : Hid (Vl w7 b (B) 1048576) := Hb.out.below hbel (Nat.le_refl _)
  replace He : Hid (Vl w7 e (E) 1048576) := He.out.below hbel (Nat.le_refl _)
  replace Hf : Hid (Vl w7 f (F) 1048576) := Hf.out.below hbel (Nat.le_refl _)
  replace Hm : Hid (Vl w7 m (M) 1048576) := Hm.out.below hbel (Nat.le_refl _)
  replace Ox : Hid (Om w7 x (A ^ E % M)) := Ox.out.below hbel (Nat.le_refl _)
  replace Ozero : Hid (Om w7 zero (1)) := Ozero.out.below hbel (Nat.le_refl _)
  replace Oone : Hid (Om w7 one (A % M)) := Oone.out.below hbel (Nat.le_refl _)
  replace HB : Hid (Below w.heap.size w w7) := HB.out.trans (hbel.mono HB.out.size)
  clear hq hbel
  have Cc := vadd e f _ _ _ _ w7 He.out Hf.out (by decide) (by decide)
  go_wp2_with fail
  refine Cc.mono ?_
  clear Cc
  rintro e w8 ⟨sum, rfl, hnew⟩
  have hbel := hnew.2.2
  replace Ha : Hid (Vl w8 a (A) 1048576) := Ha.out.below hbel (Nat.le_refl _)
  replace Hb : Hid (Vl w8 b (B) 1048576) := Hb.out.below hbel (Nat.le_refl _)
  replace He : Hid (Vl w8 e (E) 1048576) := He.out.below hbel (Nat.le_refl _)
  replace Hf : Hid (Vl w8 f (F) 1048576) := Hf.out.below hbel (Nat.le_refl _)
  replace Hm : Hid (Vl w8 m (M) 1048576) := Hm.out.below hbel (Nat.le_refl _)
  replace Ox : Hid (Om w8 x (A ^ E % M)) := Ox.out.below hbel (Nat.le_refl _)
  replace Ozero : Hid (Om w8 zero (1)) := Ozero.out.below hbel (Nat.le_refl _)
  replace Oone : Hid (Om w8 one (A % M)) := Oone.out.below hbel (Nat.le_refl _)
  replace HB : Hid (Below w.heap.size w w8) := HB.out.trans (hbel.mono HB.out.size)
  have Osum : Hid (Om w8 sum (E + F)) := ⟨hnew.1.base (Nat.zero_le _), Nat.le_trans hnew.2.1 (by decide)⟩
  clear hnew hbel
  obtain ⟨nf, Hnf, hnf⟩ : ∃ n : Nat, Hid ((dg Bs (F)).length = n) ∧ decide ((n : Int) > 128) = false := ⟨_, rfl, by have h := lF.out; unfold Lg at h; rw [← h]; congr 1; simp; omega⟩
  have Cc := limbs_v f (F) _ w8 Hf.out (by decide)
  rw [Hnf.out] at Cc
  go_wp2_with fail
  refine Cc.mono ?_
  clear Cc
  rintro e w8 ⟨rfl, rfl⟩
  obtain ⟨nsum, Hnsum, hnsum⟩ : ∃ n : Nat, Hid ((dg Bs (E + F)).length = n) ∧ decide ((n : Int) > 128) = false := ⟨_, rfl, by have h := lS.out; unfold Lg at h; rw [← h]; congr 1; simp; omega⟩
  have Cc := limbs_v sum (E + F) _ w8 Osum.out.nu (by decide)
  rw [Hnsum.out] at Cc
  go_wp2_with fail
  refine Cc.mono ?_
  clear Cc
  rintro e w8 ⟨rfl, rfl⟩
  obtain ⟨nb, Hnb, hnb⟩ : ∃ n : Nat, Hid ((dg Bs (B)).length = n) ∧ decide ((n : Int) > 128) = true := ⟨_, rfl, by have h := lB.out; unfold Lg at h; rw [← h]; congr 1; simp; omega⟩
  have Cc := limbs_v b (B) _ w8 Hb.out (by decide)
  rw [Hnb.out] at Cc
  go_wp2_with fail
  refine Cc.mono ?_
  clear Cc
  rintro e w8 ⟨rfl, rfl⟩
  go_wp2
  go_ret
  exact ⟨rfl, HB.out⟩

set_option maxRecDepth 100000 in
set_option maxHeartbeats 8000000 in
theorem exp_all (a b e f m : Value) (A B E F M : Nat) (w : World) (ha : Vl w a A 1048576) (hb : Vl w b B 1048576) (he : Vl w e E 1048576) (hf : Vl w f F 1048576) (hm : Vl w m M 1048576) (h0 : rcode M (Lg A || Lg E) = 0) (hf0 : Lg F = false) (hs0 : Lg (E + F) = false) (hb0 : Lg B = false) :
    Calls Try.prog 5 #[a, b, e, f, m] w fun e w' => e = .returned (.bool true) ∧ Below w.heap.size w w' := by
  have HM : Hid (2 ≤ M) := (rcode_zero h0).2.2
  have lM : Hid (Lg M = false) := (rcode_zero h0).1
  have lA : Hid (Lg A = false) := (Bool.or_eq_false_iff.1 (rcode_zero h0).2.1).1
  have lE : Hid (Lg E = false) := (Bool.or_eq_false_iff.1 (rcode_zero h0).2.1).2
  have lF : Hid (Lg F = false) := hf0
  have lS : Hid (Lg (E + F) = false) := hs0
  have lB : Hid (Lg B = false) := hb0
  have H0 : Hid (rcode M (Lg A || Lg E) = 0) := h0
  clear h0 hf0 hs0 hb0
  have Ha : Hid (Vl w a A 1048576) := ha
  have Hb : Hid (Vl w b B 1048576) := hb
  have He : Hid (Vl w e E 1048576) := he
  have Hf : Hid (Vl w f F 1048576) := hf
  have Hm : Hid (Vl w m M 1048576) := hm
  have HB : Hid (Below w.heap.size w w) := Below.refl _ _
  clear ha hb he hf hm
  go_enter Try.func5, Try.ntmps5
  have Cc := awake_v w
  go_wp2_with fail
  refine Cc.mono ?_
  clear Cc
  rintro e w1 ⟨rfl, hbel⟩
  replace Ha : Hid (Vl w1 a (A) 1048576) := Ha.out.below hbel (Nat.le_refl _)
  replace Hb : Hid (Vl w1 b (B) 1048576) := Hb.out.below hbel (Nat.le_refl _)
  replace He : Hid (Vl w1 e (E) 1048576) := He.out.below hbel (Nat.le_refl _)
  replace Hf : Hid (Vl w1 f (F) 1048576) := Hf.out.below hbel (Nat.le_refl _)
  replace Hm : Hid (Vl w1 m (M) 1048576) := Hm.out.below hbel (Nat.le_refl _)
  replace HB : Hid (Below w.heap.size w w1) := HB.out.trans (hbel.mono HB.out.size)
  clear hbel
  have Cc := mexp_v a e m (A) (E) (M) w1 (Ha.out.le (by decide)) (He.out.le (by decide)) (Hm.out.le (by decide))
  go_wp2_with fail
  refine Cc.mono ?_
  clear Cc
  rintro e w2 hans
  obtain ⟨x, rfl, hre⟩ := hans.ok H0.out
  have hbel := hre.bel
  replace Ha : Hid (Vl w2 a (A) 1048576) := Ha.out.below hbel (Nat.le_refl _)
  replace Hb : Hid (Vl w2 b (B) 1048576) := Hb.out.below hbel (Nat.le_refl _)
  replace He : Hid (Vl w2 e (E) 1048576) := He.out.below hbel (Nat.le_refl _)
  replace Hf : Hid (Vl w2 f (F) 1048576) := Hf.out.below hbel (Nat.le_refl _)
  replace Hm : Hid (Vl w2 m (M) 1048576) := Hm.out.below hbel (Nat.le_refl _)
  replace HB : Hid (Below w.heap.size w w2) := HB.out.trans (hbel.mono HB.out.size)
  have Ox : Hid (Om w2 x (A ^ E % M)) := hre.om
  clear hans hre hbel
  have Cc := refuses_v a e m _ _ _ w2 (Ha.out.le (by decide)) (He.out.le (by decide)) (Hm.out.le (by decide))
  rw [H0.out] at Cc
  go_wp2_with fail
  refine Cc.mono ?_
  clear Cc
  rintro e w2 ⟨rfl, rfl⟩
  have Cc := mexp_v a (.slice none 0 0) m A 0 M w2 (Ha.out.le (by decide)) (vnil0 w2) (Hm.out.le (by decide))
  go_wp2_with fail
  refine Cc.mono ?_
  clear Cc
  rintro e w3 hans
  obtain ⟨zero, rfl, hre⟩ := hans.ok (rc0 HM.out lM.out lA.out (Lg_small (by decide)))
  have hbel := hre.bel
  replace Ha : Hid (Vl w3 a (A) 1048576) := Ha.out.below hbel (Nat.le_refl _)
  replace Hb : Hid (Vl w3 b (B) 1048576) := Hb.out.below hbel (Nat.le_refl _)
  replace He : Hid (Vl w3 e (E) 1048576) := He.out.below hbel (Nat.le_refl _)
  replace Hf : Hid (Vl w3 f (F) 1048576) := Hf.out.below hbel (Nat.le_refl _)
  replace Hm : Hid (Vl w3 m (M) 1048576) := Hm.out.below hbel (Nat.le_refl _)
  replace Ox : Hid (Om w3 x (A ^ E % M)) := Ox.out.below hbel (Nat.le_refl _)
  replace HB : Hid (Below w.heap.size w w3) := HB.out.trans (hbel.mono HB.out.size)
  rw [Nat.pow_zero, Nat.mod_eq_of_lt (show 1 < M by have := HM.out; omega)] at hre
  have Ozero : Hid (Om w3 zero (1)) := hre.om
  clear hans hre hbel
  have hlb := alloc_below w3 (.cells #[.int .u32 1] 29)
  have Cc := mexp_v a _ m A 1 M _ (Ha.out.below hlb (Nat.le_refl _) |>.le (by decide)) (lit_nu w3 1 (by decide)) (Hm.out.below hlb (Nat.le_refl _) |>.le (by decide))
  go_wp2_with fail
  refine Cc.mono ?_
  clear Cc
  rintro e w4 hans
  obtain ⟨one, rfl, hre⟩ := hans.ok (rc0 HM.out lM.out lA.out (Lg_small (by decide)))
  have hbel : Below w3.heap.size w3 w4 := hlb.trans (hre.bel.mono hlb.size)
  replace Ha : Hid (Vl w4 a (A) 1048576) := Ha.out.below hbel (Nat.le_refl _)
  replace Hb : Hid (Vl w4 b (B) 1048576) := Hb.out.below hbel (Nat.le_refl _)
  replace He : Hid (Vl w4 e (E) 1048576) := He.out.below hbel (Nat.le_refl _)
  replace Hf : Hid (Vl w4 f (F) 1048576) := Hf.out.below hbel (Nat.le_refl _)
  replace Hm : Hid (Vl w4 m (M) 1048576) := Hm.out.below hbel (Nat.le_refl _)
  replace Ox : Hid (Om w4 x (A ^ E % M)) := Ox.out.below hbel (Nat.le_refl _)
  replace Ozero : Hid (Om w4 zero (1)) := Ozero.out.below hbel (Nat.le_refl _)
  replace HB : Hid (Below w.heap.size w w4) := HB.out.trans (hbel.mono HB.out.size)
  rw [Nat.pow_one] at hre
  have Oone : Hid (Om w4 one (A % M)) := hre.om
  clear hans hre hbel hlb
  have Cc := same_lit w4 zero 1 (by decide) (by decide) Ozero.out
  rw [show ((1 : Nat) : Int) = 1 from rfl] at Cc
  go_wp2_with fail
  refine Cc.mono ?_
  clear Cc
  rintro e w5 ⟨rfl, hbel⟩
  replace Ha : Hid (Vl w5 a (A) 1048576) := Ha.out.below hbel (Nat.le_refl _)
  replace Hb : Hid (Vl w5 b (B) 1048576) := Hb.out.below hbel (Nat.le_refl _)
  replace He : Hid (Vl w5 e (E) 1048576) := He.out.below hbel (Nat.le_refl _)
  replace Hf : Hid (Vl w5 f (F) 1048576) := Hf.out.below hbel (Nat.le_refl _)
  replace Hm : Hid (Vl w5 m (M) 1048576) := Hm.out.below hbel (Nat.le_refl _)
  replace Ox : Hid (Om w5 x (A ^ E % M)) := Ox.out.below hbel (Nat.le_refl _)
  replace Ozero : Hid (Om w5 zero (1)) := Ozero.out.below hbel (Nat.le_refl _)
  replace Oone : Hid (Om w5 one (A % M)) := Oone.out.below hbel (Nat.le_refl _)
  replace HB : Hid (Below w.heap.size w w5) := HB.out.trans (hbel.mono HB.out.size)
  clear hbel
  have Cc := is_v one a m _ _ _ w5 Oone.out (Ha.out.le (by decide)) (Hm.out.le (by decide)) (by have := HM.out; omega) rfl
  go_wp2_with fail
  refine Cc.mono ?_
  clear Cc
  rintro e w6 ⟨rfl, hbel⟩
  replace Ha : Hid (Vl w6 a (A) 1048576) := Ha.out.below hbel (Nat.le_refl _)
  replace Hb : Hid (Vl w6 b (B) 1048576) := Hb.out.below hbel (Nat.le_refl _)
  replace He : Hid (Vl w6 e (E) 1048576) := He.out.below hbel (Nat.le_refl _)
  replace Hf : Hid (Vl w6 f (F) 1048576) := Hf.out.below hbel (Nat.le_refl _)
  replace Hm : Hid (Vl w6 m (M) 1048576) := Hm.out.below hbel (Nat.le_refl _)
  replace Ox : Hid (Om w6 x (A ^ E % M)) := Ox.out.below hbel (Nat.le_refl _)
  replace Ozero : Hid (Om w6 zero (1)) := Ozero.out.below hbel (Nat.le_refl _)
  replace Oone : Hid (Om w6 one (A % M)) := Oone.out.below hbel (Nat.le_refl _)
  replace HB : Hid (Below w.heap.size w w6) := HB.out.trans (hbel.mono HB.out.size)
  clear hbel
  have Cc := vcmp x m (A ^ E % M) (M) 3000000 3000000 w6 Ox.out.nu (Hm.out.le (by decide)) (by decide) (by decide)
  rw [show cmp3 ((A ^ E % M : Nat) : Int) ((M : Nat) : Int) = -1 from cmp3_lt (by have := Nat.mod_lt (A ^ E) (show 0 < M by have := HM.out; omega); omega)] at Cc
  go_wp2_with fail
  refine Cc.mono ?_
  clear Cc
  rintro e w7 ⟨rfl, qq, hq⟩
  have hbel : Below w6.heap.size w6 w7 := by rw [hq]; exact below_drewN (Below.refl _ _) qq
  replace Ha : Hid (Vl w7 a (A) 1048576) := Ha.out.below hbel (Nat.le_refl _)
  replace Hb : Hid (Vl w7 b (B) 1048576) := Hb.out.below hbel (Nat.le_refl _)
  replace He : Hid (Vl w7 e (E) 1048576) := He.out.below hbel (Nat.le_refl _)
  replace Hf : Hid (Vl w7 f (F) 1048576) := Hf.out.below hbel (Nat.le_refl _)
  replace Hm : Hid (Vl w7 m (M) 1048576) := Hm.out.below hbel (Nat.le_refl _)
  replace Ox : Hid (Om w7 x (A ^ E % M)) := Ox.out.below hbel (Nat.le_refl _)
  replace Ozero : Hid (Om w7 zero (1)) := Ozero.out.below hbel (Nat.le_refl _)
  replace Oone : Hid (Om w7 one (A % M)) := Oone.out.below hbel (Nat.le_refl _)
  replace HB : Hid (Below w.heap.size w w7) := HB.out.trans (hbel.mono HB.out.size)
  clear hq hbel
  have Cc := vadd e f _ _ _ _ w7 He.out Hf.out (by decide) (by decide)
  go_wp2_with fail
  refine Cc.mono ?_
  clear Cc
  rintro e w8 ⟨sum, rfl, hnew⟩
  have hbel := hnew.2.2
  replace Ha : Hid (Vl w8 a (A) 1048576) := Ha.out.below hbel (Nat.le_refl _)
  replace Hb : Hid (Vl w8 b (B) 1048576) := Hb.out.below hbel (Nat.le_refl _)
  replace He : Hid (Vl w8 e (E) 1048576) := He.out.below hbel (Nat.le_refl _)
  replace Hf : Hid (Vl w8 f (F) 1048576) := Hf.out.below hbel (Nat.le_refl _)
  replace Hm : Hid (Vl w8 m (M) 1048576) := Hm.out.below hbel (Nat.le_refl _)
  replace Ox : Hid (Om w8 x (A ^ E % M)) := Ox.out.below hbel (Nat.le_refl _)
  replace Ozero : Hid (Om w8 zero (1)) := Ozero.out.below hbel (Nat.le_refl _)
  replace Oone : Hid (Om w8 one (A % M)) := Oone.out.below hbel (Nat.le_refl _)
  replace HB : Hid (Below w.heap.size w w8) := HB.out.trans (hbel.mono HB.out.size)
  have Osum : Hid (Om w8 sum (E + F)) := ⟨hnew.1.base (Nat.zero_le _), Nat.le_trans hnew.2.1 (by decide)⟩
  clear hnew hbel
  obtain ⟨nf, Hnf, hnf⟩ : ∃ n : Nat, Hid ((dg Bs (F)).length = n) ∧ decide ((n : Int) > 128) = false := ⟨_, rfl, by have h := lF.out; unfold Lg at h; rw [← h]; congr 1; simp; omega⟩
  have Cc := limbs_v f (F) _ w8 Hf.out (by decide)
  rw [Hnf.out] at Cc
  go_wp2_with fail
  refine Cc.mono ?_
  clear Cc
  rintro e w8 ⟨rfl, rfl⟩
  obtain ⟨nsum, Hnsum, hnsum⟩ : ∃ n : Nat, Hid ((dg Bs (E + F)).length = n) ∧ decide ((n : Int) > 128) = false := ⟨_, rfl, by have h := lS.out; unfold Lg at h; rw [← h]; congr 1; simp; omega⟩
  have Cc := limbs_v sum (E + F) _ w8 Osum.out.nu (by decide)
  rw [Hnsum.out] at Cc
  go_wp2_with fail
  refine Cc.mono ?_
  clear Cc
  rintro e w8 ⟨rfl, rfl⟩
  obtain ⟨nb, Hnb, hnb⟩ : ∃ n : Nat, Hid ((dg Bs (B)).length = n) ∧ decide ((n : Int) > 128) = false := ⟨_, rfl, by have h := lB.out; unfold Lg at h; rw [← h]; congr 1; simp; omega⟩
  have Cc := limbs_v b (B) _ w8 Hb.out (by decide)
  rw [Hnb.out] at Cc
  go_wp2_with fail
  refine Cc.mono ?_
  clear Cc
  rintro e w8 ⟨rfl, rfl⟩
  have Cc := mexp_v a f m (A) (F) (M) w8 (Ha.out.le (by decide)) (Hf.out.le (by decide)) (Hm.out.le (by decide))
  go_wp2_with fail
  refine Cc.mono ?_
  clear Cc
  rintro e w9 hans
  obtain ⟨y, rfl, hre⟩ := hans.ok (rc0 HM.out lM.out lA.out lF.out)
  have hbel := hre.bel
  replace Ha : Hid (Vl w9 a (A) 1048576) := Ha.out.below hbel (Nat.le_refl _)
  replace Hb : Hid (Vl w9 b (B) 1048576) := Hb.out.below hbel (Nat.le_refl _)
  replace He : Hid (Vl w9 e (E) 1048576) := He.out.below hbel (Nat.le_refl _)
  replace Hf : Hid (Vl w9 f (F) 1048576) := Hf.out.below hbel (Nat.le_refl _)
  replace Hm : Hid (Vl w9 m (M) 1048576) := Hm.out.below hbel (Nat.le_refl _)
  replace Ox : Hid (Om w9 x (A ^ E % M)) := Ox.out.below hbel (Nat.le_refl _)
  replace Ozero : Hid (Om w9 zero (1)) := Ozero.out.below hbel (Nat.le_refl _)
  replace Oone : Hid (Om w9 one (A % M)) := Oone.out.below hbel (Nat.le_refl _)
  replace Osum : Hid (Om w9 sum (E + F)) := Osum.out.below hbel (Nat.le_refl _)
  replace HB : Hid (Below w.heap.size w w9) := HB.out.trans (hbel.mono HB.out.size)
  have Oy : Hid (Om w9 y (A ^ F % M)) := hre.om
  clear hans hre hbel
  have Cc := mexp_v a sum m (A) (E + F) (M) w9 (Ha.out.le (by decide)) Osum.out.nu (Hm.out.le (by decide))
  go_wp2_with fail
  refine Cc.mono ?_
  clear Cc
  rintro e w10 hans
  obtain ⟨z, rfl, hre⟩ := hans.ok (rc0 HM.out lM.out lA.out lS.out)
  have hbel := hre.bel
  replace Ha : Hid (Vl w10 a (A) 1048576) := Ha.out.below hbel (Nat.le_refl _)
  replace Hb : Hid (Vl w10 b (B) 1048576) := Hb.out.below hbel (Nat.le_refl _)
  replace He : Hid (Vl w10 e (E) 1048576) := He.out.below hbel (Nat.le_refl _)
  replace Hf : Hid (Vl w10 f (F) 1048576) := Hf.out.below hbel (Nat.le_refl _)
  replace Hm : Hid (Vl w10 m (M) 1048576) := Hm.out.below hbel (Nat.le_refl _)
  replace Ox : Hid (Om w10 x (A ^ E % M)) := Ox.out.below hbel (Nat.le_refl _)
  replace Ozero : Hid (Om w10 zero (1)) := Ozero.out.below hbel (Nat.le_refl _)
  replace Oone : Hid (Om w10 one (A % M)) := Oone.out.below hbel (Nat.le_refl _)
  replace Osum : Hid (Om w10 sum (E + F)) := Osum.out.below hbel (Nat.le_refl _)
  replace Oy : Hid (Om w10 y (A ^ F % M)) := Oy.out.below hbel (Nat.le_refl _)
  replace HB : Hid (Below w.heap.size w w10) := HB.out.trans (hbel.mono HB.out.size)
  have Oz : Hid (Om w10 z (A ^ (E + F) % M)) := hre.om
  clear hans hre hbel
  have Cc := mmul_v x y m (A ^ E % M) (A ^ F % M) (M) w10 Ox.out.nu Oy.out.nu (Hm.out.le (by decide))
  go_wp2_with fail
  refine Cc.mono ?_
  clear Cc
  rintro e w11 hans
  obtain ⟨p, rfl, hre⟩ := hans.ok (rc0 HM.out lM.out (Lg_mod lM.out HM.out) (Lg_mod lM.out HM.out))
  have hbel := hre.bel
  replace Ha : Hid (Vl w11 a (A) 1048576) := Ha.out.below hbel (Nat.le_refl _)
  replace Hb : Hid (Vl w11 b (B) 1048576) := Hb.out.below hbel (Nat.le_refl _)
  replace He : Hid (Vl w11 e (E) 1048576) := He.out.below hbel (Nat.le_refl _)
  replace Hf : Hid (Vl w11 f (F) 1048576) := Hf.out.below hbel (Nat.le_refl _)
  replace Hm : Hid (Vl w11 m (M) 1048576) := Hm.out.below hbel (Nat.le_refl _)
  replace Ox : Hid (Om w11 x (A ^ E % M)) := Ox.out.below hbel (Nat.le_refl _)
  replace Ozero : Hid (Om w11 zero (1)) := Ozero.out.below hbel (Nat.le_refl _)
  replace Oone : Hid (Om w11 one (A % M)) := Oone.out.below hbel (Nat.le_refl _)
  replace Osum : Hid (Om w11 sum (E + F)) := Osum.out.below hbel (Nat.le_refl _)
  replace Oy : Hid (Om w11 y (A ^ F % M)) := Oy.out.below hbel (Nat.le_refl _)
  replace Oz : Hid (Om w11 z (A ^ (E + F) % M)) := Oz.out.below hbel (Nat.le_refl _)
  replace HB : Hid (Below w.heap.size w w11) := HB.out.trans (hbel.mono HB.out.size)
  have Op : Hid (Om w11 p (A ^ E % M * (A ^ F % M) % M)) := hre.om
  clear hans hre hbel
  have Cc := lsame_eq z p (A ^ (E + F) % M) w11 Oz.out.nm (by have h := Op.out.nm; rw [← exp_sum A E F M] at h; exact h) (Nat.le_trans Oz.out.2 (by decide))
  go_wp2_with fail
  refine Cc.mono ?_
  clear Cc
  rintro e w12 ⟨rfl, qq, hq⟩
  have hbel : Below w11.heap.size w11 w12 := by rw [hq]; exact below_drewN (Below.refl _ _) qq
  replace Ha : Hid (Vl w12 a (A) 1048576) := Ha.out.below hbel (Nat.le_refl _)
  replace Hb : Hid (Vl w12 b (B) 1048576) := Hb.out.below hbel (Nat.le_refl _)
  replace He : Hid (Vl w12 e (E) 1048576) := He.out.below hbel (Nat.le_refl _)
  replace Hf : Hid (Vl w12 f (F) 1048576) := Hf.out.below hbel (Nat.le_refl _)
  replace Hm : Hid (Vl w12 m (M) 1048576) := Hm.out.below hbel (Nat.le_refl _)
  replace Ox : Hid (Om w12 x (A ^ E % M)) := Ox.out.below hbel (Nat.le_refl _)
  replace Ozero : Hid (Om w12 zero (1)) := Ozero.out.below hbel (Nat.le_refl _)
  replace Oone : Hid (Om w12 one (A % M)) := Oone.out.below hbel (Nat.le_refl _)
  replace Osum : Hid (Om w12 sum (E + F)) := Osum.out.below hbel (Nat.le_refl _)
  replace Oy : Hid (Om w12 y (A ^ F % M)) := Oy.out.below hbel (Nat.le_refl _)
  replace Oz : Hid (Om w12 z (A ^ (E + F) % M)) := Oz.out.below hbel (Nat.le_refl _)
  replace Op : Hid (Om w12 p (A ^ E % M * (A ^ F % M) % M)) := Op.out.below hbel (Nat.le_refl _)
  replace HB : Hid (Below w.heap.size w w12) := HB.out.trans (hbel.mono HB.out.size)
  clear hq hbel
  have Cc := mmul_v a b m (A) (B) (M) w12 (Ha.out.le (by decide)) (Hb.out.le (by decide)) (Hm.out.le (by decide))
  go_wp2_with fail
  refine Cc.mono ?_
  clear Cc
  rintro e w13 hans
  obtain ⟨ab, rfl, hre⟩ := hans.ok (rc0 HM.out lM.out lA.out lB.out)
  have hbel := hre.bel
  replace Ha : Hid (Vl w13 a (A) 1048576) := Ha.out.below hbel (Nat.le_refl _)
  replace Hb : Hid (Vl w13 b (B) 1048576) := Hb.out.below hbel (Nat.le_refl _)
  replace He : Hid (Vl w13 e (E) 1048576) := He.out.below hbel (Nat.le_refl _)
  replace Hf : Hid (Vl w13 f (F) 1048576) := Hf.out.below hbel (Nat.le_refl _)
  replace Hm : Hid (Vl w13 m (M) 1048576) := Hm.out.below hbel (Nat.le_refl _)
  replace Ox : Hid (Om w13 x (A ^ E % M)) := Ox.out.below hbel (Nat.le_refl _)
  replace Ozero : Hid (Om w13 zero (1)) := Ozero.out.below hbel (Nat.le_refl _)
  replace Oone : Hid (Om w13 one (A % M)) := Oone.out.below hbel (Nat.le_refl _)
  replace Osum : Hid (Om w13 sum (E + F)) := Osum.out.below hbel (Nat.le_refl _)
  replace Oy : Hid (Om w13 y (A ^ F % M)) := Oy.out.below hbel (Nat.le_refl _)
  replace Oz : Hid (Om w13 z (A ^ (E + F) % M)) := Oz.out.below hbel (Nat.le_refl _)
  replace Op : Hid (Om w13 p (A ^ E % M * (A ^ F % M) % M)) := Op.out.below hbel (Nat.le_refl _)
  replace HB : Hid (Below w.heap.size w w13) := HB.out.trans (hbel.mono HB.out.size)
  have Oab : Hid (Om w13 ab (A * B % M)) := hre.om
  clear hans hre hbel
  have Cc := mexp_v b e m (B) (E) (M) w13 (Hb.out.le (by decide)) (He.out.le (by decide)) (Hm.out.le (by decide))
  go_wp2_with fail
  refine Cc.mono ?_
  clear Cc
  rintro e w14 hans
  obtain ⟨we, rfl, hre⟩ := hans.ok (rc0 HM.out lM.out lB.out lE.out)
  have hbel := hre.bel
  replace Ha : Hid (Vl w14 a (A) 1048576) := Ha.out.below hbel (Nat.le_refl _)
  replace Hb : Hid (Vl w14 b (B) 1048576) := Hb.out.below hbel (Nat.le_refl _)
  replace He : Hid (Vl w14 e (E) 1048576) := He.out.below hbel (Nat.le_refl _)
  replace Hf : Hid (Vl w14 f (F) 1048576) := Hf.out.below hbel (Nat.le_refl _)
  replace Hm : Hid (Vl w14 m (M) 1048576) := Hm.out.below hbel (Nat.le_refl _)
  replace Ox : Hid (Om w14 x (A ^ E % M)) := Ox.out.below hbel (Nat.le_refl _)
  replace Ozero : Hid (Om w14 zero (1)) := Ozero.out.below hbel (Nat.le_refl _)
  replace Oone : Hid (Om w14 one (A % M)) := Oone.out.below hbel (Nat.le_refl _)
  replace Osum : Hid (Om w14 sum (E + F)) := Osum.out.below hbel (Nat.le_refl _)
  replace Oy : Hid (Om w14 y (A ^ F % M)) := Oy.out.below hbel (Nat.le_refl _)
  replace Oz : Hid (Om w14 z (A ^ (E + F) % M)) := Oz.out.below hbel (Nat.le_refl _)
  replace Op : Hid (Om w14 p (A ^ E % M * (A ^ F % M) % M)) := Op.out.below hbel (Nat.le_refl _)
  replace Oab : Hid (Om w14 ab (A * B % M)) := Oab.out.below hbel (Nat.le_refl _)
  replace HB : Hid (Below w.heap.size w w14) := HB.out.trans (hbel.mono HB.out.size)
  have Owe : Hid (Om w14 we (B ^ E % M)) := hre.om
  clear hans hre hbel
  have Cc := mexp_v ab e m (A * B % M) (E) (M) w14 Oab.out.nu (He.out.le (by decide)) (Hm.out.le (by decide))
  go_wp2_with fail
  refine Cc.mono ?_
  clear Cc
  rintro e w15 hans
  obtain ⟨l, rfl, hre⟩ := hans.ok (rc0 HM.out lM.out (Lg_mod lM.out HM.out) lE.out)
  have hbel := hre.bel
  replace Ha : Hid (Vl w15 a (A) 1048576) := Ha.out.below hbel (Nat.le_refl _)
  replace Hb : Hid (Vl w15 b (B) 1048576) := Hb.out.below hbel (Nat.le_refl _)
  replace He : Hid (Vl w15 e (E) 1048576) := He.out.below hbel (Nat.le_refl _)
  replace Hf : Hid (Vl w15 f (F) 1048576) := Hf.out.below hbel (Nat.le_refl _)
  replace Hm : Hid (Vl w15 m (M) 1048576) := Hm.out.below hbel (Nat.le_refl _)
  replace Ox : Hid (Om w15 x (A ^ E % M)) := Ox.out.below hbel (Nat.le_refl _)
  replace Ozero : Hid (Om w15 zero (1)) := Ozero.out.below hbel (Nat.le_refl _)
  replace Oone : Hid (Om w15 one (A % M)) := Oone.out.below hbel (Nat.le_refl _)
  replace Osum : Hid (Om w15 sum (E + F)) := Osum.out.below hbel (Nat.le_refl _)
  replace Oy : Hid (Om w15 y (A ^ F % M)) := Oy.out.below hbel (Nat.le_refl _)
  replace Oz : Hid (Om w15 z (A ^ (E + F) % M)) := Oz.out.below hbel (Nat.le_refl _)
  replace Op : Hid (Om w15 p (A ^ E % M * (A ^ F % M) % M)) := Op.out.below hbel (Nat.le_refl _)
  replace Oab : Hid (Om w15 ab (A * B % M)) := Oab.out.below hbel (Nat.le_refl _)
  replace Owe : Hid (Om w15 we (B ^ E % M)) := Owe.out.below hbel (Nat.le_refl _)
  replace HB : Hid (Below w.heap.size w w15) := HB.out.trans (hbel.mono HB.out.size)
  have Ol : Hid (Om w15 l ((A * B % M) ^ E % M)) := hre.om
  clear hans hre hbel
  have Cc := mmul_v x we m (A ^ E % M) (B ^ E % M) (M) w15 Ox.out.nu Owe.out.nu (Hm.out.le (by decide))
  go_wp2_with fail
  refine Cc.mono ?_
  clear Cc
  rintro e w16 hans
  obtain ⟨r, rfl, hre⟩ := hans.ok (rc0 HM.out lM.out (Lg_mod lM.out HM.out) (Lg_mod lM.out HM.out))
  have hbel := hre.bel
  replace Ha : Hid (Vl w16 a (A) 1048576) := Ha.out.below hbel (Nat.le_refl _)
  replace Hb : Hid (Vl w16 b (B) 1048576) := Hb.out.below hbel (Nat.le_refl _)
  replace He : Hid (Vl w16 e (E) 1048576) := He.out.below hbel (Nat.le_refl _)
  replace Hf : Hid (Vl w16 f (F) 1048576) := Hf.out.below hbel (Nat.le_refl _)
  replace Hm : Hid (Vl w16 m (M) 1048576) := Hm.out.below hbel (Nat.le_refl _)
  replace Ox : Hid (Om w16 x (A ^ E % M)) := Ox.out.below hbel (Nat.le_refl _)
  replace Ozero : Hid (Om w16 zero (1)) := Ozero.out.below hbel (Nat.le_refl _)
  replace Oone : Hid (Om w16 one (A % M)) := Oone.out.below hbel (Nat.le_refl _)
  replace Osum : Hid (Om w16 sum (E + F)) := Osum.out.below hbel (Nat.le_refl _)
  replace Oy : Hid (Om w16 y (A ^ F % M)) := Oy.out.below hbel (Nat.le_refl _)
  replace Oz : Hid (Om w16 z (A ^ (E + F) % M)) := Oz.out.below hbel (Nat.le_refl _)
  replace Op : Hid (Om w16 p (A ^ E % M * (A ^ F % M) % M)) := Op.out.below hbel (Nat.le_refl _)
  replace Oab : Hid (Om w16 ab (A * B % M)) := Oab.out.below hbel (Nat.le_refl _)
  replace Owe : Hid (Om w16 we (B ^ E % M)) := Owe.out.below hbel (Nat.le_refl _)
  replace Ol : Hid (Om w16 l ((A * B % M) ^ E % M)) := Ol.out.below hbel (Nat.le_refl _)
  replace HB : Hid (Below w.heap.size w w16) := HB.out.trans (hbel.mono HB.out.size)
  have Or : Hid (Om w16 r (A ^ E % M * (B ^ E % M) % M)) := hre.om
  clear hans hre hbel
  have Cc := lsame_eq l r ((A * B % M) ^ E % M) w16 Ol.out.nm (by have h := Or.out.nm; rw [← exp_prod A B E M] at h; exact h) (Nat.le_trans Ol.out.2 (by decide))
  go_wp2_with fail
  refine Cc.mono ?_
  clear Cc
  rintro e w17 ⟨rfl, qq, hq⟩
  have hbel : Below w16.heap.size w16 w17 := by rw [hq]; exact below_drewN (Below.refl _ _) qq
  replace Ha : Hid (Vl w17 a (A) 1048576) := Ha.out.below hbel (Nat.le_refl _)
  replace Hb : Hid (Vl w17 b (B) 1048576) := Hb.out.below hbel (Nat.le_refl _)
  replace He : Hid (Vl w17 e (E) 1048576) := He.out.below hbel (Nat.le_refl _)
  replace Hf : Hid (Vl w17 f (F) 1048576) := Hf.out.below hbel (Nat.le_refl _)
  replace Hm : Hid (Vl w17 m (M) 1048576) := Hm.out.below hbel (Nat.le_refl _)
  replace Ox : Hid (Om w17 x (A ^ E % M)) := Ox.out.below hbel (Nat.le_refl _)
  replace Ozero : Hid (Om w17 zero (1)) := Ozero.out.below hbel (Nat.le_refl _)
  replace Oone : Hid (Om w17 one (A % M)) := Oone.out.below hbel (Nat.le_refl _)
  replace Osum : Hid (Om w17 sum (E + F)) := Osum.out.below hbel (Nat.le_refl _)
  replace Oy : Hid (Om w17 y (A ^ F % M)) := Oy.out.below hbel (Nat.le_refl _)
  replace Oz : Hid (Om w17 z (A ^ (E + F) % M)) := Oz.out.below hbel (Nat.le_refl _)
  replace Op : Hid (Om w17 p (A ^ E % M * (A ^ F % M) % M)) := Op.out.below hbel (Nat.le_refl _)
  replace Oab : Hid (Om w17 ab (A * B % M)) := Oab.out.below hbel (Nat.le_refl _)
  replace Owe : Hid (Om w17 we (B ^ E % M)) := Owe.out.below hbel (Nat.le_refl _)
  replace Ol : Hid (Om w17 l ((A * B % M) ^ E % M)) := Ol.out.below hbel (Nat.le_refl _)
  replace Or : Hid (Om w17 r (A ^ E % M * (B ^ E % M) % M)) := Or.out.below hbel (Nat.le_refl _)
  replace HB : Hid (Below w.heap.size w w17) := HB.out.trans (hbel.mono HB.out.size)
  clear hq hbel
  go_wp2
  go_ret
  exact ⟨rfl, HB.out⟩

theorem exp_core (a b e f m : Value) (A B E F M : Nat) (w : World) (ha : Vl w a A 1048576) (hb : Vl w b B 1048576) (he : Vl w e E 1048576) (hf : Vl w f F 1048576) (hm : Vl w m M 1048576) :
    Calls Try.prog 5 #[a, b, e, f, m] w fun e w' => e = .returned (.bool true) ∧ Below w.heap.size w w' := by
  by_cases h0 : rcode M (Lg A || Lg E) = 0
  · cases h1 : Lg F with
    | true => exact exp_f a b e f m A B E F M w ha hb he hf hm h0 h1
    | false =>
      cases h2 : Lg (E + F) with
      | true => exact exp_sum' a b e f m A B E F M w ha hb he hf hm h0 h1 h2
      | false =>
        cases h3 : Lg B with
        | true => exact exp_b a b e f m A B E F M w ha hb he hf hm h0 h1 h2 h3
        | false => exact exp_all a b e f m A B E F M w ha hb he hf hm h0 h1 h2 h3
  · exact exp_ref a b e f m A B E F M w ha hb he hf hm h0

end Go.Proofs.Ytecapoknnnoheaa
