import Derived.Test.YtkkcmfkegbdgjaaDvLaw
namespace Go.Proofs.Ytkkcmfkegbdgjaa
open Go.RowKit

set_option maxHeartbeats 4000000 in
theorem ord_200 (a b c : Value) (A B C : Nat) (w : World) (ha : Vl w a A 1048576) (hb : Vl w b B 1048576) (hc : Vl w c C 1048576) (hx : B < A) (hy : B < C) (hz : C = 0) :
    Calls Try.prog 5 #[a, b, c] w fun e w' => e = .returned (.bool true) ∧ Below w.heap.size w w' := by
  have H0 : Hid ((True → B < A) ∧ (True → B < C) ∧ (True → C = 0)) := ⟨fun _ => hx, fun _ => hy, fun _ => hz⟩
  clear hx hy hz
  have Ha : Hid (Vl w a A 1048576) := ha
  have Hb : Hid (Vl w b B 1048576) := hb
  have Hc : Hid (Vl w c C 1048576) := hc
  have HB : Hid (Below w.heap.size w w) := Below.refl _ _
  clear ha hb hc
  go_enter Try.func5, Try.ntmps5
  go_wp2_with fail
  refine (alive_any w).mono ?_
  rintro e w1 ⟨rfl, hbel⟩
  replace Ha : Hid (Vl w1 a (A) (1048576)) := Ha.out.below hbel (Nat.le_refl _)
  replace Hb : Hid (Vl w1 b (B) (1048576)) := Hb.out.below hbel (Nat.le_refl _)
  replace Hc : Hid (Vl w1 c (C) (1048576)) := Hc.out.below hbel (Nat.le_refl _)
  replace HB : Hid (Below w.heap.size w w1) := HB.out.trans (hbel.mono HB.out.size)
  clear hbel
  have Cc := vcmp a b _ _ _ _ w1 Ha.out Hb.out (by decide) (by decide)
  rw [show cmp3 ((A : Nat) : Int) ((B : Nat) : Int) = 1 from cmp3_gt (by have h1 := H0.out.1 trivial; have h2 := H0.out.2.1 trivial; have h3 := H0.out.2.2 trivial; omega)] at Cc
  go_wp2_with fail
  refine Cc.mono ?_
  clear Cc
  rintro e w2 ⟨rfl, qq, hq⟩
  replace Ha : Hid (Vl w2 a (A) (1048576)) := by rw [hq]; exact Ha.out.drewN qq
  replace Hb : Hid (Vl w2 b (B) (1048576)) := by rw [hq]; exact Hb.out.drewN qq
  replace Hc : Hid (Vl w2 c (C) (1048576)) := by rw [hq]; exact Hc.out.drewN qq
  replace HB : Hid (Below w.heap.size w w2) := by rw [hq]; exact below_drewN HB.out qq
  clear hq
  have Cc := vcmp b c _ _ _ _ w2 Hb.out Hc.out (by decide) (by decide)
  rw [show cmp3 ((B : Nat) : Int) ((C : Nat) : Int) = -1 from cmp3_lt (by have h1 := H0.out.1 trivial; have h2 := H0.out.2.1 trivial; have h3 := H0.out.2.2 trivial; omega)] at Cc
  go_wp2_with fail
  refine Cc.mono ?_
  clear Cc
  rintro e w3 ⟨rfl, qq, hq⟩
  replace Ha : Hid (Vl w3 a (A) (1048576)) := by rw [hq]; exact Ha.out.drewN qq
  replace Hb : Hid (Vl w3 b (B) (1048576)) := by rw [hq]; exact Hb.out.drewN qq
  replace Hc : Hid (Vl w3 c (C) (1048576)) := by rw [hq]; exact Hc.out.drewN qq
  replace HB : Hid (Below w.heap.size w w3) := by rw [hq]; exact below_drewN HB.out qq
  clear hq
  have Cc := vcmp a a _ _ _ _ w3 Ha.out Ha.out (by decide) (by decide)
  rw [show cmp3 ((A : Nat) : Int) ((A : Nat) : Int) = 0 from cmp3_eq rfl] at Cc
  go_wp2_with fail
  refine Cc.mono ?_
  clear Cc
  rintro e w4 ⟨rfl, qq, hq⟩
  replace Ha : Hid (Vl w4 a (A) (1048576)) := by rw [hq]; exact Ha.out.drewN qq
  replace Hb : Hid (Vl w4 b (B) (1048576)) := by rw [hq]; exact Hb.out.drewN qq
  replace Hc : Hid (Vl w4 c (C) (1048576)) := by rw [hq]; exact Hc.out.drewN qq
  replace HB : Hid (Below w.heap.size w w4) := by rw [hq]; exact below_drewN HB.out qq
  clear hq
  have Cc := vcmp b a _ _ _ _ w4 Hb.out Ha.out (by decide) (by decide)
  rw [show cmp3 ((B : Nat) : Int) ((A : Nat) : Int) = -1 from cmp3_lt (by have h1 := H0.out.1 trivial; have h2 := H0.out.2.1 trivial; have h3 := H0.out.2.2 trivial; omega)] at Cc
  go_wp2_with fail
  refine Cc.mono ?_
  clear Cc
  rintro e w5 ⟨rfl, qq, hq⟩
  replace Ha : Hid (Vl w5 a (A) (1048576)) := by rw [hq]; exact Ha.out.drewN qq
  replace Hb : Hid (Vl w5 b (B) (1048576)) := by rw [hq]; exact Hb.out.drewN qq
  replace Hc : Hid (Vl w5 c (C) (1048576)) := by rw [hq]; exact Hc.out.drewN qq
  replace HB : Hid (Below w.heap.size w w5) := by rw [hq]; exact below_drewN HB.out qq
  clear hq
  have Cc := vadd a c _ _ _ _ w5 Ha.out Hc.out (by decide) (by decide)
  go_wp2_with fail
  refine Cc.mono ?_
  clear Cc
  rintro e w6 ⟨s1, rfl, hnew⟩
  have hbel := hnew.2.2
  replace Ha : Hid (Vl w6 a (A) (1048576)) := Ha.out.below hbel (Nat.le_refl _)
  replace Hb : Hid (Vl w6 b (B) (1048576)) := Hb.out.below hbel (Nat.le_refl _)
  replace Hc : Hid (Vl w6 c (C) (1048576)) := Hc.out.below hbel (Nat.le_refl _)
  replace HB : Hid (Below w.heap.size w w6) := HB.out.trans (hbel.mono HB.out.size)
  have Os1 : Hid (Ow w6 0 s1 (dg Bs (A + C)) ∧ (dg Bs (A + C)).length ≤ 1048576 + 1048576 + 1) := ⟨hnew.1.base (Nat.zero_le _), hnew.2.1⟩
  clear hnew hbel
  have Cc := vadd b c _ _ _ _ w6 Hb.out Hc.out (by decide) (by decide)
  go_wp2_with fail
  refine Cc.mono ?_
  clear Cc
  rintro e w7 ⟨s2, rfl, hnew⟩
  have hbel := hnew.2.2
  replace Ha : Hid (Vl w7 a (A) (1048576)) := Ha.out.below hbel (Nat.le_refl _)
  replace Hb : Hid (Vl w7 b (B) (1048576)) := Hb.out.below hbel (Nat.le_refl _)
  replace Hc : Hid (Vl w7 c (C) (1048576)) := Hc.out.below hbel (Nat.le_refl _)
  replace Os1 : Hid (Ow w7 0 s1 (dg Bs (A + C)) ∧ (dg Bs (A + C)).length ≤ 1048576 + 1048576 + 1) := ⟨Os1.out.1.below hbel (Nat.le_refl _), Os1.out.2⟩
  replace HB : Hid (Below w.heap.size w w7) := HB.out.trans (hbel.mono HB.out.size)
  have Os2 : Hid (Ow w7 0 s2 (dg Bs (B + C)) ∧ (dg Bs (B + C)).length ≤ 1048576 + 1048576 + 1) := ⟨hnew.1.base (Nat.zero_le _), hnew.2.1⟩
  clear hnew hbel
  have Cc := vcmp s1 s2 _ _ _ _ w7 (Os1.out.1.vl Os1.out.2) (Os2.out.1.vl Os2.out.2) (by decide) (by decide)
  rw [show cmp3 ((A + C : Nat) : Int) ((B + C : Nat) : Int) = 1 from cmp3_gt (by have h1 := H0.out.1 trivial; have h2 := H0.out.2.1 trivial; have h3 := H0.out.2.2 trivial; omega)] at Cc
  go_wp2_with fail
  refine Cc.mono ?_
  clear Cc
  rintro e w8 ⟨rfl, qq, hq⟩
  replace Ha : Hid (Vl w8 a (A) (1048576)) := by rw [hq]; exact Ha.out.drewN qq
  replace Hb : Hid (Vl w8 b (B) (1048576)) := by rw [hq]; exact Hb.out.drewN qq
  replace Hc : Hid (Vl w8 c (C) (1048576)) := by rw [hq]; exact Hc.out.drewN qq
  replace Os1 : Hid (Ow w8 0 s1 (dg Bs (A + C)) ∧ (dg Bs (A + C)).length ≤ 1048576 + 1048576 + 1) := by rw [hq]; exact ⟨Os1.out.1.drewN qq, Os1.out.2⟩
  replace Os2 : Hid (Ow w8 0 s2 (dg Bs (B + C)) ∧ (dg Bs (B + C)).length ≤ 1048576 + 1048576 + 1) := by rw [hq]; exact ⟨Os2.out.1.drewN qq, Os2.out.2⟩
  replace HB : Hid (Below w.heap.size w w8) := by rw [hq]; exact below_drewN HB.out qq
  clear hq
  have Cc := vmul a c _ _ _ _ w8 Ha.out Hc.out (by decide) (by decide)
  go_wp2_with fail
  refine Cc.mono ?_
  clear Cc
  rintro e w9 ⟨p1, rfl, hnew⟩
  have hbel := hnew.2.2
  replace Ha : Hid (Vl w9 a (A) (1048576)) := Ha.out.below hbel (Nat.le_refl _)
  replace Hb : Hid (Vl w9 b (B) (1048576)) := Hb.out.below hbel (Nat.le_refl _)
  replace Hc : Hid (Vl w9 c (C) (1048576)) := Hc.out.below hbel (Nat.le_refl _)
  replace Os1 : Hid (Ow w9 0 s1 (dg Bs (A + C)) ∧ (dg Bs (A + C)).length ≤ 1048576 + 1048576 + 1) := ⟨Os1.out.1.below hbel (Nat.le_refl _), Os1.out.2⟩
  replace Os2 : Hid (Ow w9 0 s2 (dg Bs (B + C)) ∧ (dg Bs (B + C)).length ≤ 1048576 + 1048576 + 1) := ⟨Os2.out.1.below hbel (Nat.le_refl _), Os2.out.2⟩
  replace HB : Hid (Below w.heap.size w w9) := HB.out.trans (hbel.mono HB.out.size)
  have Op1 : Hid (Ow w9 0 p1 (dg Bs (A * C)) ∧ (dg Bs (A * C)).length ≤ 1048576 + 1048576) := ⟨hnew.1.base (Nat.zero_le _), hnew.2.1⟩
  clear hnew hbel
  have Cc := vmul b c _ _ _ _ w9 Hb.out Hc.out (by decide) (by decide)
  go_wp2_with fail
  refine Cc.mono ?_
  clear Cc
  rintro e w10 ⟨p2, rfl, hnew⟩
  have hbel := hnew.2.2
  replace Ha : Hid (Vl w10 a (A) (1048576)) := Ha.out.below hbel (Nat.le_refl _)
  replace Hb : Hid (Vl w10 b (B) (1048576)) := Hb.out.below hbel (Nat.le_refl _)
  replace Hc : Hid (Vl w10 c (C) (1048576)) := Hc.out.below hbel (Nat.le_refl _)
  replace Os1 : Hid (Ow w10 0 s1 (dg Bs (A + C)) ∧ (dg Bs (A + C)).length ≤ 1048576 + 1048576 + 1) := ⟨Os1.out.1.below hbel (Nat.le_refl _), Os1.out.2⟩
  replace Os2 : Hid (Ow w10 0 s2 (dg Bs (B + C)) ∧ (dg Bs (B + C)).length ≤ 1048576 + 1048576 + 1) := ⟨Os2.out.1.below hbel (Nat.le_refl _), Os2.out.2⟩
  replace Op1 : Hid (Ow w10 0 p1 (dg Bs (A * C)) ∧ (dg Bs (A * C)).length ≤ 1048576 + 1048576) := ⟨Op1.out.1.below hbel (Nat.le_refl _), Op1.out.2⟩
  replace HB : Hid (Below w.heap.size w w10) := HB.out.trans (hbel.mono HB.out.size)
  have Op2 : Hid (Ow w10 0 p2 (dg Bs (B * C)) ∧ (dg Bs (B * C)).length ≤ 1048576 + 1048576) := ⟨hnew.1.base (Nat.zero_le _), hnew.2.1⟩
  clear hnew hbel
  have Cc := vcmp p1 p2 _ _ _ _ w10 (Op1.out.1.vl Op1.out.2) (Op2.out.1.vl Op2.out.2) (by decide) (by decide)
  rw [show cmp3 ((A * C : Nat) : Int) ((B * C : Nat) : Int) = 0 from cmp3_eq (by rw [H0.out.2.2 trivial, Nat.mul_zero, Nat.mul_zero])] at Cc
  go_wp2_with fail
  refine Cc.mono ?_
  clear Cc
  rintro e w11 ⟨rfl, qq, hq⟩
  replace Ha : Hid (Vl w11 a (A) (1048576)) := by rw [hq]; exact Ha.out.drewN qq
  replace Hb : Hid (Vl w11 b (B) (1048576)) := by rw [hq]; exact Hb.out.drewN qq
  replace Hc : Hid (Vl w11 c (C) (1048576)) := by rw [hq]; exact Hc.out.drewN qq
  replace Os1 : Hid (Ow w11 0 s1 (dg Bs (A + C)) ∧ (dg Bs (A + C)).length ≤ 1048576 + 1048576 + 1) := by rw [hq]; exact ⟨Os1.out.1.drewN qq, Os1.out.2⟩
  replace Os2 : Hid (Ow w11 0 s2 (dg Bs (B + C)) ∧ (dg Bs (B + C)).length ≤ 1048576 + 1048576 + 1) := by rw [hq]; exact ⟨Os2.out.1.drewN qq, Os2.out.2⟩
  replace Op1 : Hid (Ow w11 0 p1 (dg Bs (A * C)) ∧ (dg Bs (A * C)).length ≤ 1048576 + 1048576) := by rw [hq]; exact ⟨Op1.out.1.drewN qq, Op1.out.2⟩
  replace Op2 : Hid (Ow w11 0 p2 (dg Bs (B * C)) ∧ (dg Bs (B * C)).length ≤ 1048576 + 1048576) := by rw [hq]; exact ⟨Op2.out.1.drewN qq, Op2.out.2⟩
  replace HB : Hid (Below w.heap.size w w11) := by rw [hq]; exact below_drewN HB.out qq
  clear hq
  have Cc := vbits c _ _ w11 Hc.out (by decide)
  rw [show ((bl C : Nat) : Int) = 0 from by rw [H0.out.2.2 trivial]; rfl] at Cc
  go_wp2_with fail
  refine Cc.mono ?_
  clear Cc
  rintro e w11 ⟨rfl, rfl⟩
  have Cc := vbits c _ _ w11 Hc.out (by decide)
  rw [show ((bl C : Nat) : Int) = 0 from by rw [H0.out.2.2 trivial]; rfl] at Cc
  go_wp2_with fail
  refine Cc.mono ?_
  clear Cc
  rintro e w11 ⟨rfl, rfl⟩
  have Cc := vsub b a _ _ _ _ w11 Hb.out Ha.out (by decide) (by decide)
  rw [decide_eq_false (show ¬ A ≤ B by have := H0.out.1 trivial; omega)] at Cc
  go_wp2_with fail
  refine Cc.mono ?_
  clear Cc
  rintro e w12 ⟨d, rfl, hnew⟩
  have hbel := hnew.2.2
  replace Ha : Hid (Vl w12 a (A) (1048576)) := Ha.out.below hbel (Nat.le_refl _)
  replace Hb : Hid (Vl w12 b (B) (1048576)) := Hb.out.below hbel (Nat.le_refl _)
  replace Hc : Hid (Vl w12 c (C) (1048576)) := Hc.out.below hbel (Nat.le_refl _)
  replace Os1 : Hid (Ow w12 0 s1 (dg Bs (A + C)) ∧ (dg Bs (A + C)).length ≤ 1048576 + 1048576 + 1) := ⟨Os1.out.1.below hbel (Nat.le_refl _), Os1.out.2⟩
  replace Os2 : Hid (Ow w12 0 s2 (dg Bs (B + C)) ∧ (dg Bs (B + C)).length ≤ 1048576 + 1048576 + 1) := ⟨Os2.out.1.below hbel (Nat.le_refl _), Os2.out.2⟩
  replace Op1 : Hid (Ow w12 0 p1 (dg Bs (A * C)) ∧ (dg Bs (A * C)).length ≤ 1048576 + 1048576) := ⟨Op1.out.1.below hbel (Nat.le_refl _), Op1.out.2⟩
  replace Op2 : Hid (Ow w12 0 p2 (dg Bs (B * C)) ∧ (dg Bs (B * C)).length ≤ 1048576 + 1048576) := ⟨Op2.out.1.below hbel (Nat.le_refl _), Op2.out.2⟩
  replace HB : Hid (Below w.heap.size w w12) := HB.out.trans (hbel.mono HB.out.size)
  have Od : Hid (Ow w12 0 d (dg Bs (B - A)) ∧ (dg Bs (B - A)).length ≤ 1048576) := ⟨hnew.1.base (Nat.zero_le _), hnew.2.1⟩
  clear hnew hbel
  go_wp2_with fail
  have hbel := alloc_below w12 (.cells #[.int .u32 1] 36)
  have hlit := vlit w12 [1] (by decide)
  rw [show (([1] : List Nat).map U).toArray = #[.int .u32 1] from rfl] at hlit
  generalize hw2 : w12.alloc (.cells #[.int .u32 1] 36) = w13 at hbel hlit ⊢
  replace Ha : Hid (Vl w13 a (A) (1048576)) := Ha.out.below hbel (Nat.le_refl _)
  replace Hb : Hid (Vl w13 b (B) (1048576)) := Hb.out.below hbel (Nat.le_refl _)
  replace Hc : Hid (Vl w13 c (C) (1048576)) := Hc.out.below hbel (Nat.le_refl _)
  replace Os1 : Hid (Ow w13 0 s1 (dg Bs (A + C)) ∧ (dg Bs (A + C)).length ≤ 1048576 + 1048576 + 1) := ⟨Os1.out.1.below hbel (Nat.le_refl _), Os1.out.2⟩
  replace Os2 : Hid (Ow w13 0 s2 (dg Bs (B + C)) ∧ (dg Bs (B + C)).length ≤ 1048576 + 1048576 + 1) := ⟨Os2.out.1.below hbel (Nat.le_refl _), Os2.out.2⟩
  replace Op1 : Hid (Ow w13 0 p1 (dg Bs (A * C)) ∧ (dg Bs (A * C)).length ≤ 1048576 + 1048576) := ⟨Op1.out.1.below hbel (Nat.le_refl _), Op1.out.2⟩
  replace Op2 : Hid (Ow w13 0 p2 (dg Bs (B * C)) ∧ (dg Bs (B * C)).length ≤ 1048576 + 1048576) := ⟨Op2.out.1.below hbel (Nat.le_refl _), Op2.out.2⟩
  replace Od : Hid (Ow w13 0 d (dg Bs (B - A)) ∧ (dg Bs (B - A)).length ≤ 1048576) := ⟨Od.out.1.below hbel (Nat.le_refl _), Od.out.2⟩
  replace HB : Hid (Below w.heap.size w w13) := HB.out.trans (hbel.mono HB.out.size)
  clear hbel hw2
  have hl1 : nv Bs [1] = 1 := by simp [nv]
  rw [hl1] at hlit
  clear hl1
  have Cc := vadd a _ _ _ _ _ w13 Ha.out hlit (by decide) (by decide)
  clear hlit
  refine Cc.mono ?_
  clear Cc
  rintro e w14 ⟨nx, rfl, hnew⟩
  have hbel := hnew.2.2
  replace Ha : Hid (Vl w14 a (A) (1048576)) := Ha.out.below hbel (Nat.le_refl _)
  replace Hb : Hid (Vl w14 b (B) (1048576)) := Hb.out.below hbel (Nat.le_refl _)
  replace Hc : Hid (Vl w14 c (C) (1048576)) := Hc.out.below hbel (Nat.le_refl _)
  replace Os1 : Hid (Ow w14 0 s1 (dg Bs (A + C)) ∧ (dg Bs (A + C)).length ≤ 1048576 + 1048576 + 1) := ⟨Os1.out.1.below hbel (Nat.le_refl _), Os1.out.2⟩
  replace Os2 : Hid (Ow w14 0 s2 (dg Bs (B + C)) ∧ (dg Bs (B + C)).length ≤ 1048576 + 1048576 + 1) := ⟨Os2.out.1.below hbel (Nat.le_refl _), Os2.out.2⟩
  replace Op1 : Hid (Ow w14 0 p1 (dg Bs (A * C)) ∧ (dg Bs (A * C)).length ≤ 1048576 + 1048576) := ⟨Op1.out.1.below hbel (Nat.le_refl _), Op1.out.2⟩
  replace Op2 : Hid (Ow w14 0 p2 (dg Bs (B * C)) ∧ (dg Bs (B * C)).length ≤ 1048576 + 1048576) := ⟨Op2.out.1.below hbel (Nat.le_refl _), Op2.out.2⟩
  replace Od : Hid (Ow w14 0 d (dg Bs (B - A)) ∧ (dg Bs (B - A)).length ≤ 1048576) := ⟨Od.out.1.below hbel (Nat.le_refl _), Od.out.2⟩
  replace HB : Hid (Below w.heap.size w w14) := HB.out.trans (hbel.mono HB.out.size)
  have Onx : Hid (Ow w14 0 nx (dg Bs (A + 1)) ∧ (dg Bs (A + 1)).length ≤ 1048576 + 1 + 1) := ⟨hnew.1.base (Nat.zero_le _), hnew.2.1⟩
  clear hnew hbel
  have Cc := vcmp nx a _ _ _ _ w14 (Onx.out.1.vl Onx.out.2) Ha.out (by decide) (by decide)
  rw [show cmp3 ((A + 1 : Nat) : Int) ((A : Nat) : Int) = 1 from cmp3_gt (by omega)] at Cc
  go_wp2_with fail
  refine Cc.mono ?_
  clear Cc
  rintro e w15 ⟨rfl, qq, hq⟩
  replace Ha : Hid (Vl w15 a (A) (1048576)) := by rw [hq]; exact Ha.out.drewN qq
  replace Hb : Hid (Vl w15 b (B) (1048576)) := by rw [hq]; exact Hb.out.drewN qq
  replace Hc : Hid (Vl w15 c (C) (1048576)) := by rw [hq]; exact Hc.out.drewN qq
  replace Os1 : Hid (Ow w15 0 s1 (dg Bs (A + C)) ∧ (dg Bs (A + C)).length ≤ 1048576 + 1048576 + 1) := by rw [hq]; exact ⟨Os1.out.1.drewN qq, Os1.out.2⟩
  replace Os2 : Hid (Ow w15 0 s2 (dg Bs (B + C)) ∧ (dg Bs (B + C)).length ≤ 1048576 + 1048576 + 1) := by rw [hq]; exact ⟨Os2.out.1.drewN qq, Os2.out.2⟩
  replace Op1 : Hid (Ow w15 0 p1 (dg Bs (A * C)) ∧ (dg Bs (A * C)).length ≤ 1048576 + 1048576) := by rw [hq]; exact ⟨Op1.out.1.drewN qq, Op1.out.2⟩
  replace Op2 : Hid (Ow w15 0 p2 (dg Bs (B * C)) ∧ (dg Bs (B * C)).length ≤ 1048576 + 1048576) := by rw [hq]; exact ⟨Op2.out.1.drewN qq, Op2.out.2⟩
  replace Od : Hid (Ow w15 0 d (dg Bs (B - A)) ∧ (dg Bs (B - A)).length ≤ 1048576) := by rw [hq]; exact ⟨Od.out.1.drewN qq, Od.out.2⟩
  replace Onx : Hid (Ow w15 0 nx (dg Bs (A + 1)) ∧ (dg Bs (A + 1)).length ≤ 1048576 + 1 + 1) := by rw [hq]; exact ⟨Onx.out.1.drewN qq, Onx.out.2⟩
  replace HB : Hid (Below w.heap.size w w15) := by rw [hq]; exact below_drewN HB.out qq
  clear hq
  go_wp2
  go_ret
  exact ⟨rfl, HB.out⟩

set_option maxHeartbeats 4000000 in
theorem ord_201 (a b c : Value) (A B C : Nat) (w : World) (ha : Vl w a A 1048576) (hb : Vl w b B 1048576) (hc : Vl w c C 1048576) (hx : B < A) (hy : B < C) (hz : 0 < C) :
    Calls Try.prog 5 #[a, b, c] w fun e w' => e = .returned (.bool true) ∧ Below w.heap.size w w' := by
  have H0 : Hid ((True → B < A) ∧ (True → B < C) ∧ (True → 0 < C)) := ⟨fun _ => hx, fun _ => hy, fun _ => hz⟩
  clear hx hy hz
  have Ha : Hid (Vl w a A 1048576) := ha
  have Hb : Hid (Vl w b B 1048576) := hb
  have Hc : Hid (Vl w c C 1048576) := hc
  have HB : Hid (Below w.heap.size w w) := Below.refl _ _
  clear ha hb hc
  go_enter Try.func5, Try.ntmps5
  go_wp2_with fail
  refine (alive_any w).mono ?_
  rintro e w1 ⟨rfl, hbel⟩
  replace Ha : Hid (Vl w1 a (A) (1048576)) := Ha.out.below hbel (Nat.le_refl _)
  replace Hb : Hid (Vl w1 b (B) (1048576)) := Hb.out.below hbel (Nat.le_refl _)
  replace Hc : Hid (Vl w1 c (C) (1048576)) := Hc.out.below hbel (Nat.le_refl _)
  replace HB : Hid (Below w.heap.size w w1) := HB.out.trans (hbel.mono HB.out.size)
  clear hbel
  have Cc := vcmp a b _ _ _ _ w1 Ha.out Hb.out (by decide) (by decide)
  rw [show cmp3 ((A : Nat) : Int) ((B : Nat) : Int) = 1 from cmp3_gt (by have h1 := H0.out.1 trivial; have h2 := H0.out.2.1 trivial; have h3 := H0.out.2.2 trivial; omega)] at Cc
  go_wp2_with fail
  refine Cc.mono ?_
  clear Cc
  rintro e w2 ⟨rfl, qq, hq⟩
  replace Ha : Hid (Vl w2 a (A) (1048576)) := by rw [hq]; exact Ha.out.drewN qq
  replace Hb : Hid (Vl w2 b (B) (1048576)) := by rw [hq]; exact Hb.out.drewN qq
  replace Hc : Hid (Vl w2 c (C) (1048576)) := by rw [hq]; exact Hc.out.drewN qq
  replace HB : Hid (Below w.heap.size w w2) := by rw [hq]; exact below_drewN HB.out qq
  clear hq
  have Cc := vcmp b c _ _ _ _ w2 Hb.out Hc.out (by decide) (by decide)
  rw [show cmp3 ((B : Nat) : Int) ((C : Nat) : Int) = -1 from cmp3_lt (by have h1 := H0.out.1 trivial; have h2 := H0.out.2.1 trivial; have h3 := H0.out.2.2 trivial; omega)] at Cc
  go_wp2_with fail
  refine Cc.mono ?_
  clear Cc
  rintro e w3 ⟨rfl, qq, hq⟩
  replace Ha : Hid (Vl w3 a (A) (1048576)) := by rw [hq]; exact Ha.out.drewN qq
  replace Hb : Hid (Vl w3 b (B) (1048576)) := by rw [hq]; exact Hb.out.drewN qq
  replace Hc : Hid (Vl w3 c (C) (1048576)) := by rw [hq]; exact Hc.out.drewN qq
  replace HB : Hid (Below w.heap.size w w3) := by rw [hq]; exact below_drewN HB.out qq
  clear hq
  have Cc := vcmp a a _ _ _ _ w3 Ha.out Ha.out (by decide) (by decide)
  rw [show cmp3 ((A : Nat) : Int) ((A : Nat) : Int) = 0 from cmp3_eq rfl] at Cc
  go_wp2_with fail
  refine Cc.mono ?_
  clear Cc
  rintro e w4 ⟨rfl, qq, hq⟩
  replace Ha : Hid (Vl w4 a (A) (1048576)) := by rw [hq]; exact Ha.out.drewN qq
  replace Hb : Hid (Vl w4 b (B) (1048576)) := by rw [hq]; exact Hb.out.drewN qq
  replace Hc : Hid (Vl w4 c (C) (1048576)) := by rw [hq]; exact Hc.out.drewN qq
  replace HB : Hid (Below w.heap.size w w4) := by rw [hq]; exact below_drewN HB.out qq
  clear hq
  have Cc := vcmp b a _ _ _ _ w4 Hb.out Ha.out (by decide) (by decide)
  rw [show cmp3 ((B : Nat) : Int) ((A : Nat) : Int) = -1 from cmp3_lt (by have h1 := H0.out.1 trivial; have h2 := H0.out.2.1 trivial; have h3 := H0.out.2.2 trivial; omega)] at Cc
  go_wp2_with fail
  refine Cc.mono ?_
  clear Cc
  rintro e w5 ⟨rfl, qq, hq⟩
  replace Ha : Hid (Vl w5 a (A) (1048576)) := by rw [hq]; exact Ha.out.drewN qq
  replace Hb : Hid (Vl w5 b (B) (1048576)) := by rw [hq]; exact Hb.out.drewN qq
  replace Hc : Hid (Vl w5 c (C) (1048576)) := by rw [hq]; exact Hc.out.drewN qq
  replace HB : Hid (Below w.heap.size w w5) := by rw [hq]; exact below_drewN HB.out qq
  clear hq
  have Cc := vadd a c _ _ _ _ w5 Ha.out Hc.out (by decide) (by decide)
  go_wp2_with fail
  refine Cc.mono ?_
  clear Cc
  rintro e w6 ⟨s1, rfl, hnew⟩
  have hbel := hnew.2.2
  replace Ha : Hid (Vl w6 a (A) (1048576)) := Ha.out.below hbel (Nat.le_refl _)
  replace Hb : Hid (Vl w6 b (B) (1048576)) := Hb.out.below hbel (Nat.le_refl _)
  replace Hc : Hid (Vl w6 c (C) (1048576)) := Hc.out.below hbel (Nat.le_refl _)
  replace HB : Hid (Below w.heap.size w w6) := HB.out.trans (hbel.mono HB.out.size)
  have Os1 : Hid (Ow w6 0 s1 (dg Bs (A + C)) ∧ (dg Bs (A + C)).length ≤ 1048576 + 1048576 + 1) := ⟨hnew.1.base (Nat.zero_le _), hnew.2.1⟩
  clear hnew hbel
  have Cc := vadd b c _ _ _ _ w6 Hb.out Hc.out (by decide) (by decide)
  go_wp2_with fail
  refine Cc.mono ?_
  clear Cc
  rintro e w7 ⟨s2, rfl, hnew⟩
  have hbel := hnew.2.2
  replace Ha : Hid (Vl w7 a (A) (1048576)) := Ha.out.below hbel (Nat.le_refl _)
  replace Hb : Hid (Vl w7 b (B) (1048576)) := Hb.out.below hbel (Nat.le_refl _)
  replace Hc : Hid (Vl w7 c (C) (1048576)) := Hc.out.below hbel (Nat.le_refl _)
  replace Os1 : Hid (Ow w7 0 s1 (dg Bs (A + C)) ∧ (dg Bs (A + C)).length ≤ 1048576 + 1048576 + 1) := ⟨Os1.out.1.below hbel (Nat.le_refl _), Os1.out.2⟩
  replace HB : Hid (Below w.heap.size w w7) := HB.out.trans (hbel.mono HB.out.size)
  have Os2 : Hid (Ow w7 0 s2 (dg Bs (B + C)) ∧ (dg Bs (B + C)).length ≤ 1048576 + 1048576 + 1) := ⟨hnew.1.base (Nat.zero_le _), hnew.2.1⟩
  clear hnew hbel
  have Cc := vcmp s1 s2 _ _ _ _ w7 (Os1.out.1.vl Os1.out.2) (Os2.out.1.vl Os2.out.2) (by decide) (by decide)
  rw [show cmp3 ((A + C : Nat) : Int) ((B + C : Nat) : Int) = 1 from cmp3_gt (by have h1 := H0.out.1 trivial; have h2 := H0.out.2.1 trivial; have h3 := H0.out.2.2 trivial; omega)] at Cc
  go_wp2_with fail
  refine Cc.mono ?_
  clear Cc
  rintro e w8 ⟨rfl, qq, hq⟩
  replace Ha : Hid (Vl w8 a (A) (1048576)) := by rw [hq]; exact Ha.out.drewN qq
  replace Hb : Hid (Vl w8 b (B) (1048576)) := by rw [hq]; exact Hb.out.drewN qq
  replace Hc : Hid (Vl w8 c (C) (1048576)) := by rw [hq]; exact Hc.out.drewN qq
  replace Os1 : Hid (Ow w8 0 s1 (dg Bs (A + C)) ∧ (dg Bs (A + C)).length ≤ 1048576 + 1048576 + 1) := by rw [hq]; exact ⟨Os1.out.1.drewN qq, Os1.out.2⟩
  replace Os2 : Hid (Ow w8 0 s2 (dg Bs (B + C)) ∧ (dg Bs (B + C)).length ≤ 1048576 + 1048576 + 1) := by rw [hq]; exact ⟨Os2.out.1.drewN qq, Os2.out.2⟩
  replace HB : Hid (Below w.heap.size w w8) := by rw [hq]; exact below_drewN HB.out qq
  clear hq
  have Cc := vmul a c _ _ _ _ w8 Ha.out Hc.out (by decide) (by decide)
  go_wp2_with fail
  refine Cc.mono ?_
  clear Cc
  rintro e w9 ⟨p1, rfl, hnew⟩
  have hbel := hnew.2.2
  replace Ha : Hid (Vl w9 a (A) (1048576)) := Ha.out.below hbel (Nat.le_refl _)
  replace Hb : Hid (Vl w9 b (B) (1048576)) := Hb.out.below hbel (Nat.le_refl _)
  replace Hc : Hid (Vl w9 c (C) (1048576)) := Hc.out.below hbel (Nat.le_refl _)
  replace Os1 : Hid (Ow w9 0 s1 (dg Bs (A + C)) ∧ (dg Bs (A + C)).length ≤ 1048576 + 1048576 + 1) := ⟨Os1.out.1.below hbel (Nat.le_refl _), Os1.out.2⟩
  replace Os2 : Hid (Ow w9 0 s2 (dg Bs (B + C)) ∧ (dg Bs (B + C)).length ≤ 1048576 + 1048576 + 1) := ⟨Os2.out.1.below hbel (Nat.le_refl _), Os2.out.2⟩
  replace HB : Hid (Below w.heap.size w w9) := HB.out.trans (hbel.mono HB.out.size)
  have Op1 : Hid (Ow w9 0 p1 (dg Bs (A * C)) ∧ (dg Bs (A * C)).length ≤ 1048576 + 1048576) := ⟨hnew.1.base (Nat.zero_le _), hnew.2.1⟩
  clear hnew hbel
  have Cc := vmul b c _ _ _ _ w9 Hb.out Hc.out (by decide) (by decide)
  go_wp2_with fail
  refine Cc.mono ?_
  clear Cc
  rintro e w10 ⟨p2, rfl, hnew⟩
  have hbel := hnew.2.2
  replace Ha : Hid (Vl w10 a (A) (1048576)) := Ha.out.below hbel (Nat.le_refl _)
  replace Hb : Hid (Vl w10 b (B) (1048576)) := Hb.out.below hbel (Nat.le_refl _)
  replace Hc : Hid (Vl w10 c (C) (1048576)) := Hc.out.below hbel (Nat.le_refl _)
  replace Os1 : Hid (Ow w10 0 s1 (dg Bs (A + C)) ∧ (dg Bs (A + C)).length ≤ 1048576 + 1048576 + 1) := ⟨Os1.out.1.below hbel (Nat.le_refl _), Os1.out.2⟩
  replace Os2 : Hid (Ow w10 0 s2 (dg Bs (B + C)) ∧ (dg Bs (B + C)).length ≤ 1048576 + 1048576 + 1) := ⟨Os2.out.1.below hbel (Nat.le_refl _), Os2.out.2⟩
  replace Op1 : Hid (Ow w10 0 p1 (dg Bs (A * C)) ∧ (dg Bs (A * C)).length ≤ 1048576 + 1048576) := ⟨Op1.out.1.below hbel (Nat.le_refl _), Op1.out.2⟩
  replace HB : Hid (Below w.heap.size w w10) := HB.out.trans (hbel.mono HB.out.size)
  have Op2 : Hid (Ow w10 0 p2 (dg Bs (B * C)) ∧ (dg Bs (B * C)).length ≤ 1048576 + 1048576) := ⟨hnew.1.base (Nat.zero_le _), hnew.2.1⟩
  clear hnew hbel
  have Cc := vcmp p1 p2 _ _ _ _ w10 (Op1.out.1.vl Op1.out.2) (Op2.out.1.vl Op2.out.2) (by decide) (by decide)
  rw [show cmp3 ((A * C : Nat) : Int) ((B * C : Nat) : Int) = 1 from cmp3_gt (by have h1 := H0.out.1 trivial; have h2 := H0.out.2.1 trivial; have h3 := H0.out.2.2 trivial; have h4 := Nat.mul_lt_mul_of_pos_right h1 h3; omega)] at Cc
  go_wp2_with fail
  refine Cc.mono ?_
  clear Cc
  rintro e w11 ⟨rfl, qq, hq⟩
  replace Ha : Hid (Vl w11 a (A) (1048576)) := by rw [hq]; exact Ha.out.drewN qq
  replace Hb : Hid (Vl w11 b (B) (1048576)) := by rw [hq]; exact Hb.out.drewN qq
  replace Hc : Hid (Vl w11 c (C) (1048576)) := by rw [hq]; exact Hc.out.drewN qq
  replace Os1 : Hid (Ow w11 0 s1 (dg Bs (A + C)) ∧ (dg Bs (A + C)).length ≤ 1048576 + 1048576 + 1) := by rw [hq]; exact ⟨Os1.out.1.drewN qq, Os1.out.2⟩
  replace Os2 : Hid (Ow w11 0 s2 (dg Bs (B + C)) ∧ (dg Bs (B + C)).length ≤ 1048576 + 1048576 + 1) := by rw [hq]; exact ⟨Os2.out.1.drewN qq, Os2.out.2⟩
  replace Op1 : Hid (Ow w11 0 p1 (dg Bs (A * C)) ∧ (dg Bs (A * C)).length ≤ 1048576 + 1048576) := by rw [hq]; exact ⟨Op1.out.1.drewN qq, Op1.out.2⟩
  replace Op2 : Hid (Ow w11 0 p2 (dg Bs (B * C)) ∧ (dg Bs (B * C)).length ≤ 1048576 + 1048576) := by rw [hq]; exact ⟨Op2.out.1.drewN qq, Op2.out.2⟩
  replace HB : Hid (Below w.heap.size w w11) := by rw [hq]; exact below_drewN HB.out qq
  clear hq
  obtain ⟨bc, Hbc⟩ : ∃ bc : Nat, Hid (bl C = bc) := ⟨_, rfl⟩
  have hbc : ((bc : Int) == 0) = false := by have h := bl_pos C (by have := H0.out.2.2 trivial; omega); rw [Hbc.out] at h; simp; omega
  have hbc2 : decide ((bc : Int) > 0) = true := by have h := bl_pos C (by have := H0.out.2.2 trivial; omega); rw [Hbc.out] at h; exact decide_eq_true (by omega)
  have hbc3 : decide ((0 : Int) < (bc : Int)) = true := by have h := bl_pos C (by have := H0.out.2.2 trivial; omega); rw [Hbc.out] at h; exact decide_eq_true (by omega)
  have hbc4 : decide (0 < bc) = true := by have h := bl_pos C (by have := H0.out.2.2 trivial; omega); rw [Hbc.out] at h; exact decide_eq_true (by omega)
  have Cc := vbits c _ _ w11 Hc.out (by decide)
  rw [Hbc.out] at Cc
  go_wp2_with fail
  refine Cc.mono ?_
  clear Cc
  rintro e w11 ⟨rfl, rfl⟩
  have Cc := vbits c _ _ w11 Hc.out (by decide)
  rw [Hbc.out] at Cc
  go_wp2_with fail
  refine Cc.mono ?_
  clear Cc
  rintro e w11 ⟨rfl, rfl⟩
  have Cc := vsub b a _ _ _ _ w11 Hb.out Ha.out (by decide) (by decide)
  rw [decide_eq_false (show ¬ A ≤ B by have := H0.out.1 trivial; omega)] at Cc
  go_wp2_with fail
  refine Cc.mono ?_
  clear Cc
  rintro e w12 ⟨d, rfl, hnew⟩
  have hbel := hnew.2.2
  replace Ha : Hid (Vl w12 a (A) (1048576)) := Ha.out.below hbel (Nat.le_refl _)
  replace Hb : Hid (Vl w12 b (B) (1048576)) := Hb.out.below hbel (Nat.le_refl _)
  replace Hc : Hid (Vl w12 c (C) (1048576)) := Hc.out.below hbel (Nat.le_refl _)
  replace Os1 : Hid (Ow w12 0 s1 (dg Bs (A + C)) ∧ (dg Bs (A + C)).length ≤ 1048576 + 1048576 + 1) := ⟨Os1.out.1.below hbel (Nat.le_refl _), Os1.out.2⟩
  replace Os2 : Hid (Ow w12 0 s2 (dg Bs (B + C)) ∧ (dg Bs (B + C)).length ≤ 1048576 + 1048576 + 1) := ⟨Os2.out.1.below hbel (Nat.le_refl _), Os2.out.2⟩
  replace Op1 : Hid (Ow w12 0 p1 (dg Bs (A * C)) ∧ (dg Bs (A * C)).length ≤ 1048576 + 1048576) := ⟨Op1.out.1.below hbel (Nat.le_refl _), Op1.out.2⟩
  replace Op2 : Hid (Ow w12 0 p2 (dg Bs (B * C)) ∧ (dg Bs (B * C)).length ≤ 1048576 + 1048576) := ⟨Op2.out.1.below hbel (Nat.le_refl _), Op2.out.2⟩
  replace HB : Hid (Below w.heap.size w w12) := HB.out.trans (hbel.mono HB.out.size)
  have Od : Hid (Ow w12 0 d (dg Bs (B - A)) ∧ (dg Bs (B - A)).length ≤ 1048576) := ⟨hnew.1.base (Nat.zero_le _), hnew.2.1⟩
  clear hnew hbel
  go_wp2_with fail
  have hbel := alloc_below w12 (.cells #[.int .u32 1] 36)
  have hlit := vlit w12 [1] (by decide)
  rw [show (([1] : List Nat).map U).toArray = #[.int .u32 1] from rfl] at hlit
  generalize hw2 : w12.alloc (.cells #[.int .u32 1] 36) = w13 at hbel hlit ⊢
  replace Ha : Hid (Vl w13 a (A) (1048576)) := Ha.out.below hbel (Nat.le_refl _)
  replace Hb : Hid (Vl w13 b (B) (1048576)) := Hb.out.below hbel (Nat.le_refl _)
  replace Hc : Hid (Vl w13 c (C) (1048576)) := Hc.out.below hbel (Nat.le_refl _)
  replace Os1 : Hid (Ow w13 0 s1 (dg Bs (A + C)) ∧ (dg Bs (A + C)).length ≤ 1048576 + 1048576 + 1) := ⟨Os1.out.1.below hbel (Nat.le_refl _), Os1.out.2⟩
  replace Os2 : Hid (Ow w13 0 s2 (dg Bs (B + C)) ∧ (dg Bs (B + C)).length ≤ 1048576 + 1048576 + 1) := ⟨Os2.out.1.below hbel (Nat.le_refl _), Os2.out.2⟩
  replace Op1 : Hid (Ow w13 0 p1 (dg Bs (A * C)) ∧ (dg Bs (A * C)).length ≤ 1048576 + 1048576) := ⟨Op1.out.1.below hbel (Nat.le_refl _), Op1.out.2⟩
  replace Op2 : Hid (Ow w13 0 p2 (dg Bs (B * C)) ∧ (dg Bs (B * C)).length ≤ 1048576 + 1048576) := ⟨Op2.out.1.below hbel (Nat.le_refl _), Op2.out.2⟩
  replace Od : Hid (Ow w13 0 d (dg Bs (B - A)) ∧ (dg Bs (B - A)).length ≤ 1048576) := ⟨Od.out.1.below hbel (Nat.le_refl _), Od.out.2⟩
  replace HB : Hid (Below w.heap.size w w13) := HB.out.trans (hbel.mono HB.out.size)
  clear hbel hw2
  have hl1 : nv Bs [1] = 1 := by simp [nv]
  rw [hl1] at hlit
  clear hl1
  have Cc := vadd a _ _ _ _ _ w13 Ha.out hlit (by decide) (by decide)
  clear hlit
  refine Cc.mono ?_
  clear Cc
  rintro e w14 ⟨nx, rfl, hnew⟩
  have hbel := hnew.2.2
  replace Ha : Hid (Vl w14 a (A) (1048576)) := Ha.out.below hbel (Nat.le_refl _)
  replace Hb : Hid (Vl w14 b (B) (1048576)) := Hb.out.below hbel (Nat.le_refl _)
  replace Hc : Hid (Vl w14 c (C) (1048576)) := Hc.out.below hbel (Nat.le_refl _)
  replace Os1 : Hid (Ow w14 0 s1 (dg Bs (A + C)) ∧ (dg Bs (A + C)).length ≤ 1048576 + 1048576 + 1) := ⟨Os1.out.1.below hbel (Nat.le_refl _), Os1.out.2⟩
  replace Os2 : Hid (Ow w14 0 s2 (dg Bs (B + C)) ∧ (dg Bs (B + C)).length ≤ 1048576 + 1048576 + 1) := ⟨Os2.out.1.below hbel (Nat.le_refl _), Os2.out.2⟩
  replace Op1 : Hid (Ow w14 0 p1 (dg Bs (A * C)) ∧ (dg Bs (A * C)).length ≤ 1048576 + 1048576) := ⟨Op1.out.1.below hbel (Nat.le_refl _), Op1.out.2⟩
  replace Op2 : Hid (Ow w14 0 p2 (dg Bs (B * C)) ∧ (dg Bs (B * C)).length ≤ 1048576 + 1048576) := ⟨Op2.out.1.below hbel (Nat.le_refl _), Op2.out.2⟩
  replace Od : Hid (Ow w14 0 d (dg Bs (B - A)) ∧ (dg Bs (B - A)).length ≤ 1048576) := ⟨Od.out.1.below hbel (Nat.le_refl _), Od.out.2⟩
  replace HB : Hid (Below w.heap.size w w14) := HB.out.trans (hbel.mono HB.out.size)
  have Onx : Hid (Ow w14 0 nx (dg Bs (A + 1)) ∧ (dg Bs (A + 1)).length ≤ 1048576 + 1 + 1) := ⟨hnew.1.base (Nat.zero_le _), hnew.2.1⟩
  clear hnew hbel
  have Cc := vcmp nx a _ _ _ _ w14 (Onx.out.1.vl Onx.out.2) Ha.out (by decide) (by decide)
  rw [show cmp3 ((A + 1 : Nat) : Int) ((A : Nat) : Int) = 1 from cmp3_gt (by omega)] at Cc
  go_wp2_with fail
  refine Cc.mono ?_
  clear Cc
  rintro e w15 ⟨rfl, qq, hq⟩
  replace Ha : Hid (Vl w15 a (A) (1048576)) := by rw [hq]; exact Ha.out.drewN qq
  replace Hb : Hid (Vl w15 b (B) (1048576)) := by rw [hq]; exact Hb.out.drewN qq
  replace Hc : Hid (Vl w15 c (C) (1048576)) := by rw [hq]; exact Hc.out.drewN qq
  replace Os1 : Hid (Ow w15 0 s1 (dg Bs (A + C)) ∧ (dg Bs (A + C)).length ≤ 1048576 + 1048576 + 1) := by rw [hq]; exact ⟨Os1.out.1.drewN qq, Os1.out.2⟩
  replace Os2 : Hid (Ow w15 0 s2 (dg Bs (B + C)) ∧ (dg Bs (B + C)).length ≤ 1048576 + 1048576 + 1) := by rw [hq]; exact ⟨Os2.out.1.drewN qq, Os2.out.2⟩
  replace Op1 : Hid (Ow w15 0 p1 (dg Bs (A * C)) ∧ (dg Bs (A * C)).length ≤ 1048576 + 1048576) := by rw [hq]; exact ⟨Op1.out.1.drewN qq, Op1.out.2⟩
  replace Op2 : Hid (Ow w15 0 p2 (dg Bs (B * C)) ∧ (dg Bs (B * C)).length ≤ 1048576 + 1048576) := by rw [hq]; exact ⟨Op2.out.1.drewN qq, Op2.out.2⟩
  replace Od : Hid (Ow w15 0 d (dg Bs (B - A)) ∧ (dg Bs (B - A)).length ≤ 1048576) := by rw [hq]; exact ⟨Od.out.1.drewN qq, Od.out.2⟩
  replace Onx : Hid (Ow w15 0 nx (dg Bs (A + 1)) ∧ (dg Bs (A + 1)).length ≤ 1048576 + 1 + 1) := by rw [hq]; exact ⟨Onx.out.1.drewN qq, Onx.out.2⟩
  replace HB : Hid (Below w.heap.size w w15) := by rw [hq]; exact below_drewN HB.out qq
  clear hq
  go_wp2
  go_ret
  exact ⟨rfl, HB.out⟩

set_option maxHeartbeats 4000000 in
theorem ord_210 (a b c : Value) (A B C : Nat) (w : World) (ha : Vl w a A 1048576) (hb : Vl w b B 1048576) (hc : Vl w c C 1048576) (hx : B < A) (hy : B = C) (hz : C = 0) :
    Calls Try.prog 5 #[a, b, c] w fun e w' => e = .returned (.bool true) ∧ Below w.heap.size w w' := by
  have H0 : Hid ((True → B < A) ∧ (True → B = C) ∧ (True → C = 0)) := ⟨fun _ => hx, fun _ => hy, fun _ => hz⟩
  clear hx hy hz
  have Ha : Hid (Vl w a A 1048576) := ha
  have Hb : Hid (Vl w b B 1048576) := hb
  have Hc : Hid (Vl w c C 1048576) := hc
  have HB : Hid (Below w.heap.size w w) := Below.refl _ _
  clear ha hb hc
  go_enter Try.func5, Try.ntmps5
  go_wp2_with fail
  refine (alive_any w).mono ?_
  rintro e w1 ⟨rfl, hbel⟩
  replace Ha : Hid (Vl w1 a (A) (1048576)) := Ha.out.below hbel (Nat.le_refl _)
  replace Hb : Hid (Vl w1 b (B) (1048576)) := Hb.out.below hbel (Nat.le_refl _)
  replace Hc : Hid (Vl w1 c (C) (1048576)) := Hc.out.below hbel (Nat.le_refl _)
  replace HB : Hid (Below w.heap.size w w1) := HB.out.trans (hbel.mono HB.out.size)
  clear hbel
  have Cc := vcmp a b _ _ _ _ w1 Ha.out Hb.out (by decide) (by decide)
  rw [show cmp3 ((A : Nat) : Int) ((B : Nat) : Int) = 1 from cmp3_gt (by have h1 := H0.out.1 trivial; have h2 := H0.out.2.1 trivial; have h3 := H0.out.2.2 trivial; omega)] at Cc
  go_wp2_with fail
  refine Cc.mono ?_
  clear Cc
  rintro e w2 ⟨rfl, qq, hq⟩
  replace Ha : Hid (Vl w2 a (A) (1048576)) := by rw [hq]; exact Ha.out.drewN qq
  replace Hb : Hid (Vl w2 b (B) (1048576)) := by rw [hq]; exact Hb.out.drewN qq
  replace Hc : Hid (Vl w2 c (C) (1048576)) := by rw [hq]; exact Hc.out.drewN qq
  replace HB : Hid (Below w.heap.size w w2) := by rw [hq]; exact below_drewN HB.out qq
  clear hq
  have Cc := vcmp b c _ _ _ _ w2 Hb.out Hc.out (by decide) (by decide)
  rw [show cmp3 ((B : Nat) : Int) ((C : Nat) : Int) = 0 from cmp3_eq (by have h1 := H0.out.1 trivial; have h2 := H0.out.2.1 trivial; have h3 := H0.out.2.2 trivial; omega)] at Cc
  go_wp2_with fail
  refine Cc.mono ?_
  clear Cc
  rintro e w3 ⟨rfl, qq, hq⟩
  replace Ha : Hid (Vl w3 a (A) (1048576)) := by rw [hq]; exact Ha.out.drewN qq
  replace Hb : Hid (Vl w3 b (B) (1048576)) := by rw [hq]; exact Hb.out.drewN qq
  replace Hc : Hid (Vl w3 c (C) (1048576)) := by rw [hq]; exact Hc.out.drewN qq
  replace HB : Hid (Below w.heap.size w w3) := by rw [hq]; exact below_drewN HB.out qq
  clear hq
  have Cc := vcmp a a _ _ _ _ w3 Ha.out Ha.out (by decide) (by decide)
  rw [show cmp3 ((A : Nat) : Int) ((A : Nat) : Int) = 0 from cmp3_eq rfl] at Cc
  go_wp2_with fail
  refine Cc.mono ?_
  clear Cc
  rintro e w4 ⟨rfl, qq, hq⟩
  replace Ha : Hid (Vl w4 a (A) (1048576)) := by rw [hq]; exact Ha.out.drewN qq
  replace Hb : Hid (Vl w4 b (B) (1048576)) := by rw [hq]; exact Hb.out.drewN qq
  replace Hc : Hid (Vl w4 c (C) (1048576)) := by rw [hq]; exact Hc.out.drewN qq
  replace HB : Hid (Below w.heap.size w w4) := by rw [hq]; exact below_drewN HB.out qq
  clear hq
  have Cc := vcmp b a _ _ _ _ w4 Hb.out Ha.out (by decide) (by decide)
  rw [show cmp3 ((B : Nat) : Int) ((A : Nat) : Int) = -1 from cmp3_lt (by have h1 := H0.out.1 trivial; have h2 := H0.out.2.1 trivial; have h3 := H0.out.2.2 trivial; omega)] at Cc
  go_wp2_with fail
  refine Cc.mono ?_
  clear Cc
  rintro e w5 ⟨rfl, qq, hq⟩
  replace Ha : Hid (Vl w5 a (A) (1048576)) := by rw [hq]; exact Ha.out.drewN qq
  replace Hb : Hid (Vl w5 b (B) (1048576)) := by rw [hq]; exact Hb.out.drewN qq
  replace Hc : Hid (Vl w5 c (C) (1048576)) := by rw [hq]; exact Hc.out.drewN qq
  replace HB : Hid (Below w.heap.size w w5) := by rw [hq]; exact below_drewN HB.out qq
  clear hq
  have Cc := vadd a c _ _ _ _ w5 Ha.out Hc.out (by decide) (by decide)
  go_wp2_with fail
  refine Cc.mono ?_
  clear Cc
  rintro e w6 ⟨s1, rfl, hnew⟩
  have hbel := hnew.2.2
  replace Ha : Hid (Vl w6 a (A) (1048576)) := Ha.out.below hbel (Nat.le_refl _)
  replace Hb : Hid (Vl w6 b (B) (1048576)) := Hb.out.below hbel (Nat.le_refl _)
  replace Hc : Hid (Vl w6 c (C) (1048576)) := Hc.out.below hbel (Nat.le_refl _)
  replace HB : Hid (Below w.heap.size w w6) := HB.out.trans (hbel.mono HB.out.size)
  have Os1 : Hid (Ow w6 0 s1 (dg Bs (A + C)) ∧ (dg Bs (A + C)).length ≤ 1048576 + 1048576 + 1) := ⟨hnew.1.base (Nat.zero_le _), hnew.2.1⟩
  clear hnew hbel
  have Cc := vadd b c _ _ _ _ w6 Hb.out Hc.out (by decide) (by decide)
  go_wp2_with fail
  refine Cc.mono ?_
  clear Cc
  rintro e w7 ⟨s2, rfl, hnew⟩
  have hbel := hnew.2.2
  replace Ha : Hid (Vl w7 a (A) (1048576)) := Ha.out.below hbel (Nat.le_refl _)
  replace Hb : Hid (Vl w7 b (B) (1048576)) := Hb.out.below hbel (Nat.le_refl _)
  replace Hc : Hid (Vl w7 c (C) (1048576)) := Hc.out.below hbel (Nat.le_refl _)
  replace Os1 : Hid (Ow w7 0 s1 (dg Bs (A + C)) ∧ (dg Bs (A + C)).length ≤ 1048576 + 1048576 + 1) := ⟨Os1.out.1.below hbel (Nat.le_refl _), Os1.out.2⟩
  replace HB : Hid (Below w.heap.size w w7) := HB.out.trans (hbel.mono HB.out.size)
  have Os2 : Hid (Ow w7 0 s2 (dg Bs (B + C)) ∧ (dg Bs (B + C)).length ≤ 1048576 + 1048576 + 1) := ⟨hnew.1.base (Nat.zero_le _), hnew.2.1⟩
  clear hnew hbel
  have Cc := vcmp s1 s2 _ _ _ _ w7 (Os1.out.1.vl Os1.out.2) (Os2.out.1.vl Os2.out.2) (by decide) (by decide)
  rw [show cmp3 ((A + C : Nat) : Int) ((B + C : Nat) : Int) = 1 from cmp3_gt (by have h1 := H0.out.1 trivial; have h2 := H0.out.2.1 trivial; have h3 := H0.out.2.2 trivial; omega)] at Cc
  go_wp2_with fail
  refine Cc.mono ?_
  clear Cc
  rintro e w8 ⟨rfl, qq, hq⟩
  replace Ha : Hid (Vl w8 a (A) (1048576)) := by rw [hq]; exact Ha.out.drewN qq
  replace Hb : Hid (Vl w8 b (B) (1048576)) := by rw [hq]; exact Hb.out.drewN qq
  replace Hc : Hid (Vl w8 c (C) (1048576)) := by rw [hq]; exact Hc.out.drewN qq
  replace Os1 : Hid (Ow w8 0 s1 (dg Bs (A + C)) ∧ (dg Bs (A + C)).length ≤ 1048576 + 1048576 + 1) := by rw [hq]; exact ⟨Os1.out.1.drewN qq, Os1.out.2⟩
  replace Os2 : Hid (Ow w8 0 s2 (dg Bs (B + C)) ∧ (dg Bs (B + C)).length ≤ 1048576 + 1048576 + 1) := by rw [hq]; exact ⟨Os2.out.1.drewN qq, Os2.out.2⟩
  replace HB : Hid (Below w.heap.size w w8) := by rw [hq]; exact below_drewN HB.out qq
  clear hq
  have Cc := vmul a c _ _ _ _ w8 Ha.out Hc.out (by decide) (by decide)
  go_wp2_with fail
  refine Cc.mono ?_
  clear Cc
  rintro e w9 ⟨p1, rfl, hnew⟩
  have hbel := hnew.2.2
  replace Ha : Hid (Vl w9 a (A) (1048576)) := Ha.out.below hbel (Nat.le_refl _)
  replace Hb : Hid (Vl w9 b (B) (1048576)) := Hb.out.below hbel (Nat.le_refl _)
  replace Hc : Hid (Vl w9 c (C) (1048576)) := Hc.out.below hbel (Nat.le_refl _)
  replace Os1 : Hid (Ow w9 0 s1 (dg Bs (A + C)) ∧ (dg Bs (A + C)).length ≤ 1048576 + 1048576 + 1) := ⟨Os1.out.1.below hbel (Nat.le_refl _), Os1.out.2⟩
  replace Os2 : Hid (Ow w9 0 s2 (dg Bs (B + C)) ∧ (dg Bs (B + C)).length ≤ 1048576 + 1048576 + 1) := ⟨Os2.out.1.below hbel (Nat.le_refl _), Os2.out.2⟩
  replace HB : Hid (Below w.heap.size w w9) := HB.out.trans (hbel.mono HB.out.size)
  have Op1 : Hid (Ow w9 0 p1 (dg Bs (A * C)) ∧ (dg Bs (A * C)).length ≤ 1048576 + 1048576) := ⟨hnew.1.base (Nat.zero_le _), hnew.2.1⟩
  clear hnew hbel
  have Cc := vmul b c _ _ _ _ w9 Hb.out Hc.out (by decide) (by decide)
  go_wp2_with fail
  refine Cc.mono ?_
  clear Cc
  rintro e w10 ⟨p2, rfl, hnew⟩
  have hbel := hnew.2.2
  replace Ha : Hid (Vl w10 a (A) (1048576)) := Ha.out.below hbel (Nat.le_refl _)
  replace Hb : Hid (Vl w10 b (B) (1048576)) := Hb.out.below hbel (Nat.le_refl _)
  replace Hc : Hid (Vl w10 c (C) (1048576)) := Hc.out.below hbel (Nat.le_refl _)
  replace Os1 : Hid (Ow w10 0 s1 (dg Bs (A + C)) ∧ (dg Bs (A + C)).length ≤ 1048576 + 1048576 + 1) := ⟨Os1.out.1.below hbel (Nat.le_refl _), Os1.out.2⟩
  replace Os2 : Hid (Ow w10 0 s2 (dg Bs (B + C)) ∧ (dg Bs (B + C)).length ≤ 1048576 + 1048576 + 1) := ⟨Os2.out.1.below hbel (Nat.le_refl _), Os2.out.2⟩
  replace Op1 : Hid (Ow w10 0 p1 (dg Bs (A * C)) ∧ (dg Bs (A * C)).length ≤ 1048576 + 1048576) := ⟨Op1.out.1.below hbel (Nat.le_refl _), Op1.out.2⟩
  replace HB : Hid (Below w.heap.size w w10) := HB.out.trans (hbel.mono HB.out.size)
  have Op2 : Hid (Ow w10 0 p2 (dg Bs (B * C)) ∧ (dg Bs (B * C)).length ≤ 1048576 + 1048576) := ⟨hnew.1.base (Nat.zero_le _), hnew.2.1⟩
  clear hnew hbel
  have Cc := vcmp p1 p2 _ _ _ _ w10 (Op1.out.1.vl Op1.out.2) (Op2.out.1.vl Op2.out.2) (by decide) (by decide)
  rw [show cmp3 ((A * C : Nat) : Int) ((B * C : Nat) : Int) = 0 from cmp3_eq (by rw [H0.out.2.2 trivial, Nat.mul_zero, Nat.mul_zero])] at Cc
  go_wp2_with fail
  refine Cc.mono ?_
  clear Cc
  rintro e w11 ⟨rfl, qq, hq⟩
  replace Ha : Hid (Vl w11 a (A) (1048576)) := by rw [hq]; exact Ha.out.drewN qq
  replace Hb : Hid (Vl w11 b (B) (1048576)) := by rw [hq]; exact Hb.out.drewN qq
  replace Hc : Hid (Vl w11 c (C) (1048576)) := by rw [hq]; exact Hc.out.drewN qq
  replace Os1 : Hid (Ow w11 0 s1 (dg Bs (A + C)) ∧ (dg Bs (A + C)).length ≤ 1048576 + 1048576 + 1) := by rw [hq]; exact ⟨Os1.out.1.drewN qq, Os1.out.2⟩
  replace Os2 : Hid (Ow w11 0 s2 (dg Bs (B + C)) ∧ (dg Bs (B + C)).length ≤ 1048576 + 1048576 + 1) := by rw [hq]; exact ⟨Os2.out.1.drewN qq, Os2.out.2⟩
  replace Op1 : Hid (Ow w11 0 p1 (dg Bs (A * C)) ∧ (dg Bs (A * C)).length ≤ 1048576 + 1048576) := by rw [hq]; exact ⟨Op1.out.1.drewN qq, Op1.out.2⟩
  replace Op2 : Hid (Ow w11 0 p2 (dg Bs (B * C)) ∧ (dg Bs (B * C)).length ≤ 1048576 + 1048576) := by rw [hq]; exact ⟨Op2.out.1.drewN qq, Op2.out.2⟩
  replace HB : Hid (Below w.heap.size w w11) := by rw [hq]; exact below_drewN HB.out qq
  clear hq
  have Cc := vbits c _ _ w11 Hc.out (by decide)
  rw [show ((bl C : Nat) : Int) = 0 from by rw [H0.out.2.2 trivial]; rfl] at Cc
  go_wp2_with fail
  refine Cc.mono ?_
  clear Cc
  rintro e w11 ⟨rfl, rfl⟩
  have Cc := vbits c _ _ w11 Hc.out (by decide)
  rw [show ((bl C : Nat) : Int) = 0 from by rw [H0.out.2.2 trivial]; rfl] at Cc
  go_wp2_with fail
  refine Cc.mono ?_
  clear Cc
  rintro e w11 ⟨rfl, rfl⟩
  have Cc := vsub b a _ _ _ _ w11 Hb.out Ha.out (by decide) (by decide)
  rw [decide_eq_false (show ¬ A ≤ B by have := H0.out.1 trivial; omega)] at Cc
  go_wp2_with fail
  refine Cc.mono ?_
  clear Cc
  rintro e w12 ⟨d, rfl, hnew⟩
  have hbel := hnew.2.2
  replace Ha : Hid (Vl w12 a (A) (1048576)) := Ha.out.below hbel (Nat.le_refl _)
  replace Hb : Hid (Vl w12 b (B) (1048576)) := Hb.out.below hbel (Nat.le_refl _)
  replace Hc : Hid (Vl w12 c (C) (1048576)) := Hc.out.below hbel (Nat.le_refl _)
  replace Os1 : Hid (Ow w12 0 s1 (dg Bs (A + C)) ∧ (dg Bs (A + C)).length ≤ 1048576 + 1048576 + 1) := ⟨Os1.out.1.below hbel (Nat.le_refl _), Os1.out.2⟩
  replace Os2 : Hid (Ow w12 0 s2 (dg Bs (B + C)) ∧ (dg Bs (B + C)).length ≤ 1048576 + 1048576 + 1) := ⟨Os2.out.1.below hbel (Nat.le_refl _), Os2.out.2⟩
  replace Op1 : Hid (Ow w12 0 p1 (dg Bs (A * C)) ∧ (dg Bs (A * C)).length ≤ 1048576 + 1048576) := ⟨Op1.out.1.below hbel (Nat.le_refl _), Op1.out.2⟩
  replace Op2 : Hid (Ow w12 0 p2 (dg Bs (B * C)) ∧ (dg Bs (B * C)).length ≤ 1048576 + 1048576) := ⟨Op2.out.1.below hbel (Nat.le_refl _), Op2.out.2⟩
  replace HB : Hid (Below w.heap.size w w12) := HB.out.trans (hbel.mono HB.out.size)
  have Od : Hid (Ow w12 0 d (dg Bs (B - A)) ∧ (dg Bs (B - A)).length ≤ 1048576) := ⟨hnew.1.base (Nat.zero_le _), hnew.2.1⟩
  clear hnew hbel
  go_wp2_with fail
  have hbel := alloc_below w12 (.cells #[.int .u32 1] 36)
  have hlit := vlit w12 [1] (by decide)
  rw [show (([1] : List Nat).map U).toArray = #[.int .u32 1] from rfl] at hlit
  generalize hw2 : w12.alloc (.cells #[.int .u32 1] 36) = w13 at hbel hlit ⊢
  replace Ha : Hid (Vl w13 a (A) (1048576)) := Ha.out.below hbel (Nat.le_refl _)
  replace Hb : Hid (Vl w13 b (B) (1048576)) := Hb.out.below hbel (Nat.le_refl _)
  replace Hc : Hid (Vl w13 c (C) (1048576)) := Hc.out.below hbel (Nat.le_refl _)
  replace Os1 : Hid (Ow w13 0 s1 (dg Bs (A + C)) ∧ (dg Bs (A + C)).length ≤ 1048576 + 1048576 + 1) := ⟨Os1.out.1.below hbel (Nat.le_refl _), Os1.out.2⟩
  replace Os2 : Hid (Ow w13 0 s2 (dg Bs (B + C)) ∧ (dg Bs (B + C)).length ≤ 1048576 + 1048576 + 1) := ⟨Os2.out.1.below hbel (Nat.le_refl _), Os2.out.2⟩
  replace Op1 : Hid (Ow w13 0 p1 (dg Bs (A * C)) ∧ (dg Bs (A * C)).length ≤ 1048576 + 1048576) := ⟨Op1.out.1.below hbel (Nat.le_refl _), Op1.out.2⟩
  replace Op2 : Hid (Ow w13 0 p2 (dg Bs (B * C)) ∧ (dg Bs (B * C)).length ≤ 1048576 + 1048576) := ⟨Op2.out.1.below hbel (Nat.le_refl _), Op2.out.2⟩
  replace Od : Hid (Ow w13 0 d (dg Bs (B - A)) ∧ (dg Bs (B - A)).length ≤ 1048576) := ⟨Od.out.1.below hbel (Nat.le_refl _), Od.out.2⟩
  replace HB : Hid (Below w.heap.size w w13) := HB.out.trans (hbel.mono HB.out.size)
  clear hbel hw2
  have hl1 : nv Bs [1] = 1 := by simp [nv]
  rw [hl1] at hlit
  clear hl1
  have Cc := vadd a _ _ _ _ _ w13 Ha.out hlit (by decide) (by decide)
  clear hlit
  refine Cc.mono ?_
  clear Cc
  rintro e w14 ⟨nx, rfl, hnew⟩
  have hbel := hnew.2.2
  replace Ha : Hid (Vl w14 a (A) (1048576)) := Ha.out.below hbel (Nat.le_refl _)
  replace Hb : Hid (Vl w14 b (B) (1048576)) := Hb.out.below hbel (Nat.le_refl _)
  replace Hc : Hid (Vl w14 c (C) (1048576)) := Hc.out.below hbel (Nat.le_refl _)
  replace Os1 : Hid (Ow w14 0 s1 (dg Bs (A + C)) ∧ (dg Bs (A + C)).length ≤ 1048576 + 1048576 + 1) := ⟨Os1.out.1.below hbel (Nat.le_refl _), Os1.out.2⟩
  replace Os2 : Hid (Ow w14 0 s2 (dg Bs (B + C)) ∧ (dg Bs (B + C)).length ≤ 1048576 + 1048576 + 1) := ⟨Os2.out.1.below hbel (Nat.le_refl _), Os2.out.2⟩
  replace Op1 : Hid (Ow w14 0 p1 (dg Bs (A * C)) ∧ (dg Bs (A * C)).length ≤ 1048576 + 1048576) := ⟨Op1.out.1.below hbel (Nat.le_refl _), Op1.out.2⟩
  replace Op2 : Hid (Ow w14 0 p2 (dg Bs (B * C)) ∧ (dg Bs (B * C)).length ≤ 1048576 + 1048576) := ⟨Op2.out.1.below hbel (Nat.le_refl _), Op2.out.2⟩
  replace Od : Hid (Ow w14 0 d (dg Bs (B - A)) ∧ (dg Bs (B - A)).length ≤ 1048576) := ⟨Od.out.1.below hbel (Nat.le_refl _), Od.out.2⟩
  replace HB : Hid (Below w.heap.size w w14) := HB.out.trans (hbel.mono HB.out.size)
  have Onx : Hid (Ow w14 0 nx (dg Bs (A + 1)) ∧ (dg Bs (A + 1)).length ≤ 1048576 + 1 + 1) := ⟨hnew.1.base (Nat.zero_le _), hnew.2.1⟩
  clear hnew hbel
  have Cc := vcmp nx a _ _ _ _ w14 (Onx.out.1.vl Onx.out.2) Ha.out (by decide) (by decide)
  rw [show cmp3 ((A + 1 : Nat) : Int) ((A : Nat) : Int) = 1 from cmp3_gt (by omega)] at Cc
  go_wp2_with fail
  refine Cc.mono ?_
  clear Cc
  rintro e w15 ⟨rfl, qq, hq⟩
  replace Ha : Hid (Vl w15 a (A) (1048576)) := by rw [hq]; exact Ha.out.drewN qq
  replace Hb : Hid (Vl w15 b (B) (1048576)) := by rw [hq]; exact Hb.out.drewN qq
  replace Hc : Hid (Vl w15 c (C) (1048576)) := by rw [hq]; exact Hc.out.drewN qq
  replace Os1 : Hid (Ow w15 0 s1 (dg Bs (A + C)) ∧ (dg Bs (A + C)).length ≤ 1048576 + 1048576 + 1) := by rw [hq]; exact ⟨Os1.out.1.drewN qq, Os1.out.2⟩
  replace Os2 : Hid (Ow w15 0 s2 (dg Bs (B + C)) ∧ (dg Bs (B + C)).length ≤ 1048576 + 1048576 + 1) := by rw [hq]; exact ⟨Os2.out.1.drewN qq, Os2.out.2⟩
  replace Op1 : Hid (Ow w15 0 p1 (dg Bs (A * C)) ∧ (dg Bs (A * C)).length ≤ 1048576 + 1048576) := by rw [hq]; exact ⟨Op1.out.1.drewN qq, Op1.out.2⟩
  replace Op2 : Hid (Ow w15 0 p2 (dg Bs (B * C)) ∧ (dg Bs (B * C)).length ≤ 1048576 + 1048576) := by rw [hq]; exact ⟨Op2.out.1.drewN qq, Op2.out.2⟩
  replace Od : Hid (Ow w15 0 d (dg Bs (B - A)) ∧ (dg Bs (B - A)).length ≤ 1048576) := by rw [hq]; exact ⟨Od.out.1.drewN qq, Od.out.2⟩
  replace Onx : Hid (Ow w15 0 nx (dg Bs (A + 1)) ∧ (dg Bs (A + 1)).length ≤ 1048576 + 1 + 1) := by rw [hq]; exact ⟨Onx.out.1.drewN qq, Onx.out.2⟩
  replace HB : Hid (Below w.heap.size w w15) := by rw [hq]; exact below_drewN HB.out qq
  clear hq
  go_wp2
  go_ret
  exact ⟨rfl, HB.out⟩

set_option maxHeartbeats 4000000 in
theorem ord_211 (a b c : Value) (A B C : Nat) (w : World) (ha : Vl w a A 1048576) (hb : Vl w b B 1048576) (hc : Vl w c C 1048576) (hx : B < A) (hy : B = C) (hz : 0 < C) :
    Calls Try.prog 5 #[a, b, c] w fun e w' => e = .returned (.bool true) ∧ Below w.heap.size w w' := by
  have H0 : Hid ((True → B < A) ∧ (True → B = C) ∧ (True → 0 < C)) := ⟨fun _ => hx, fun _ => hy, fun _ => hz⟩
  clear hx hy hz
  have Ha : Hid (Vl w a A 1048576) := ha
  have Hb : Hid (Vl w b B 1048576) := hb
  have Hc : Hid (Vl w c C 1048576) := hc
  have HB : Hid (Below w.heap.size w w) := Below.refl _ _
  clear ha hb hc
  go_enter Try.func5, Try.ntmps5
  go_wp2_with fail
  refine (alive_any w).mono ?_
  rintro e w1 ⟨rfl, hbel⟩
  replace Ha : Hid (Vl w1 a (A) (1048576)) := Ha.out.below hbel (Nat.le_refl _)
  replace Hb : Hid (Vl w1 b (B) (1048576)) := Hb.out.below hbel (Nat.le_refl _)
  replace Hc : Hid (Vl w1 c (C) (1048576)) := Hc.out.below hbel (Nat.le_refl _)
  replace HB : Hid (Below w.heap.size w w1) := HB.out.trans (hbel.mono HB.out.size)
  clear hbel
  have Cc := vcmp a b _ _ _ _ w1 Ha.out Hb.out (by decide) (by decide)
  rw [show cmp3 ((A : Nat) : Int) ((B : Nat) : Int) = 1 from cmp3_gt (by have h1 := H0.out.1 trivial; have h2 := H0.out.2.1 trivial; have h3 := H0.out.2.2 trivial; omega)] at Cc
  go_wp2_with fail
  refine Cc.mono ?_
  clear Cc
  rintro e w2 ⟨rfl, qq, hq⟩
  replace Ha : Hid (Vl w2 a (A) (1048576)) := by rw [hq]; exact Ha.out.drewN qq
  replace Hb : Hid (Vl w2 b (B) (1048576)) := by rw [hq]; exact Hb.out.drewN qq
  replace Hc : Hid (Vl w2 c (C) (1048576)) := by rw [hq]; exact Hc.out.drewN qq
  replace HB : Hid (Below w.heap.size w w2) := by rw [hq]; exact below_drewN HB.out qq
  clear hq
  have Cc := vcmp b c _ _ _ _ w2 Hb.out Hc.out (by decide) (by decide)
  rw [show cmp3 ((B : Nat) : Int) ((C : Nat) : Int) = 0 from cmp3_eq (by have h1 := H0.out.1 trivial; have h2 := H0.out.2.1 trivial; have h3 := H0.out.2.2 trivial; omega)] at Cc
  go_wp2_with fail
  refine Cc.mono ?_
  clear Cc
  rintro e w3 ⟨rfl, qq, hq⟩
  replace Ha : Hid (Vl w3 a (A) (1048576)) := by rw [hq]; exact Ha.out.drewN qq
  replace Hb : Hid (Vl w3 b (B) (1048576)) := by rw [hq]; exact Hb.out.drewN qq
  replace Hc : Hid (Vl w3 c (C) (1048576)) := by rw [hq]; exact Hc.out.drewN qq
  replace HB : Hid (Below w.heap.size w w3) := by rw [hq]; exact below_drewN HB.out qq
  clear hq
  have Cc := vcmp a a _ _ _ _ w3 Ha.out Ha.out (by decide) (by decide)
  rw [show cmp3 ((A : Nat) : Int) ((A : Nat) : Int) = 0 from cmp3_eq rfl] at Cc
  go_wp2_with fail
  refine Cc.mono ?_
  clear Cc
  rintro e w4 ⟨rfl, qq, hq⟩
  replace Ha : Hid (Vl w4 a (A) (1048576)) := by rw [hq]; exact Ha.out.drewN qq
  replace Hb : Hid (Vl w4 b (B) (1048576)) := by rw [hq]; exact Hb.out.drewN qq
  replace Hc : Hid (Vl w4 c (C) (1048576)) := by rw [hq]; exact Hc.out.drewN qq
  replace HB : Hid (Below w.heap.size w w4) := by rw [hq]; exact below_drewN HB.out qq
  clear hq
  have Cc := vcmp b a _ _ _ _ w4 Hb.out Ha.out (by decide) (by decide)
  rw [show cmp3 ((B : Nat) : Int) ((A : Nat) : Int) = -1 from cmp3_lt (by have h1 := H0.out.1 trivial; have h2 := H0.out.2.1 trivial; have h3 := H0.out.2.2 trivial; omega)] at Cc
  go_wp2_with fail
  refine Cc.mono ?_
  clear Cc
  rintro e w5 ⟨rfl, qq, hq⟩
  replace Ha : Hid (Vl w5 a (A) (1048576)) := by rw [hq]; exact Ha.out.drewN qq
  replace Hb : Hid (Vl w5 b (B) (1048576)) := by rw [hq]; exact Hb.out.drewN qq
  replace Hc : Hid (Vl w5 c (C) (1048576)) := by rw [hq]; exact Hc.out.drewN qq
  replace HB : Hid (Below w.heap.size w w5) := by rw [hq]; exact below_drewN HB.out qq
  clear hq
  have Cc := vadd a c _ _ _ _ w5 Ha.out Hc.out (by decide) (by decide)
  go_wp2_with fail
  refine Cc.mono ?_
  clear Cc
  rintro e w6 ⟨s1, rfl, hnew⟩
  have hbel := hnew.2.2
  replace Ha : Hid (Vl w6 a (A) (1048576)) := Ha.out.below hbel (Nat.le_refl _)
  replace Hb : Hid (Vl w6 b (B) (1048576)) := Hb.out.below hbel (Nat.le_refl _)
  replace Hc : Hid (Vl w6 c (C) (1048576)) := Hc.out.below hbel (Nat.le_refl _)
  replace HB : Hid (Below w.heap.size w w6) := HB.out.trans (hbel.mono HB.out.size)
  have Os1 : Hid (Ow w6 0 s1 (dg Bs (A + C)) ∧ (dg Bs (A + C)).length ≤ 1048576 + 1048576 + 1) := ⟨hnew.1.base (Nat.zero_le _), hnew.2.1⟩
  clear hnew hbel
  have Cc := vadd b c _ _ _ _ w6 Hb.out Hc.out (by decide) (by decide)
  go_wp2_with fail
  refine Cc.mono ?_
  clear Cc
  rintro e w7 ⟨s2, rfl, hnew⟩
  have hbel := hnew.2.2
  replace Ha : Hid (Vl w7 a (A) (1048576)) := Ha.out.below hbel (Nat.le_refl _)
  replace Hb : Hid (Vl w7 b (B) (1048576)) := Hb.out.below hbel (Nat.le_refl _)
  replace Hc : Hid (Vl w7 c (C) (1048576)) := Hc.out.below hbel (Nat.le_refl _)
  replace Os1 : Hid (Ow w7 0 s1 (dg Bs (A + C)) ∧ (dg Bs (A + C)).length ≤ 1048576 + 1048576 + 1) := ⟨Os1.out.1.below hbel (Nat.le_refl _), Os1.out.2⟩
  replace HB : Hid (Below w.heap.size w w7) := HB.out.trans (hbel.mono HB.out.size)
  have Os2 : Hid (Ow w7 0 s2 (dg Bs (B + C)) ∧ (dg Bs (B + C)).length ≤ 1048576 + 1048576 + 1) := ⟨hnew.1.base (Nat.zero_le _), hnew.2.1⟩
  clear hnew hbel
  have Cc := vcmp s1 s2 _ _ _ _ w7 (Os1.out.1.vl Os1.out.2) (Os2.out.1.vl Os2.out.2) (by decide) (by decide)
  rw [show cmp3 ((A + C : Nat) : Int) ((B + C : Nat) : Int) = 1 from cmp3_gt (by have h1 := H0.out.1 trivial; have h2 := H0.out.2.1 trivial; have h3 := H0.out.2.2 trivial; omega)] at Cc
  go_wp2_with fail
  refine Cc.mono ?_
  clear Cc
  rintro e w8 ⟨rfl, qq, hq⟩
  replace Ha : Hid (Vl w8 a (A) (1048576)) := by rw [hq]; exact Ha.out.drewN qq
  replace Hb : Hid (Vl w8 b (B) (1048576)) := by rw [hq]; exact Hb.out.drewN qq
  replace Hc : Hid (Vl w8 c (C) (1048576)) := by rw [hq]; exact Hc.out.drewN qq
  replace Os1 : Hid (Ow w8 0 s1 (dg Bs (A + C)) ∧ (dg Bs (A + C)).length ≤ 1048576 + 1048576 + 1) := by rw [hq]; exact ⟨Os1.out.1.drewN qq, Os1.out.2⟩
  replace Os2 : Hid (Ow w8 0 s2 (dg Bs (B + C)) ∧ (dg Bs (B + C)).length ≤ 1048576 + 1048576 + 1) := by rw [hq]; exact ⟨Os2.out.1.drewN qq, Os2.out.2⟩
  replace HB : Hid (Below w.heap.size w w8) := by rw [hq]; exact below_drewN HB.out qq
  clear hq
  have Cc := vmul a c _ _ _ _ w8 Ha.out Hc.out (by decide) (by decide)
  go_wp2_with fail
  refine Cc.mono ?_
  clear Cc
  rintro e w9 ⟨p1, rfl, hnew⟩
  have hbel := hnew.2.2
  replace Ha : Hid (Vl w9 a (A) (1048576)) := Ha.out.below hbel (Nat.le_refl _)
  replace Hb : Hid (Vl w9 b (B) (1048576)) := Hb.out.below hbel (Nat.le_refl _)
  replace Hc : Hid (Vl w9 c (C) (1048576)) := Hc.out.below hbel (Nat.le_refl _)
  replace Os1 : Hid (Ow w9 0 s1 (dg Bs (A + C)) ∧ (dg Bs (A + C)).length ≤ 1048576 + 1048576 + 1) := ⟨Os1.out.1.below hbel (Nat.le_refl _), Os1.out.2⟩
  replace Os2 : Hid (Ow w9 0 s2 (dg Bs (B + C)) ∧ (dg Bs (B + C)).length ≤ 1048576 + 1048576 + 1) := ⟨Os2.out.1.below hbel (Nat.le_refl _), Os2.out.2⟩
  replace HB : Hid (Below w.heap.size w w9) := HB.out.trans (hbel.mono HB.out.size)
  have Op1 : Hid (Ow w9 0 p1 (dg Bs (A * C)) ∧ (dg Bs (A * C)).length ≤ 1048576 + 1048576) := ⟨hnew.1.base (Nat.zero_le _), hnew.2.1⟩
  clear hnew hbel
  have Cc := vmul b c _ _ _ _ w9 Hb.out Hc.out (by decide) (by decide)
  go_wp2_with fail
  refine Cc.mono ?_
  clear Cc
  rintro e w10 ⟨p2, rfl, hnew⟩
  have hbel := hnew.2.2
  replace Ha : Hid (Vl w10 a (A) (1048576)) := Ha.out.below hbel (Nat.le_refl _)
  replace Hb : Hid (Vl w10 b (B) (1048576)) := Hb.out.below hbel (Nat.le_refl _)
  replace Hc : Hid (Vl w10 c (C) (1048576)) := Hc.out.below hbel (Nat.le_refl _)
  replace Os1 : Hid (Ow w10 0 s1 (dg Bs (A + C)) ∧ (dg Bs (A + C)).length ≤ 1048576 + 1048576 + 1) := ⟨Os1.out.1.below hbel (Nat.le_refl _), Os1.out.2⟩
  replace Os2 : Hid (Ow w10 0 s2 (dg Bs (B + C)) ∧ (dg Bs (B + C)).length ≤ 1048576 + 1048576 + 1) := ⟨Os2.out.1.below hbel (Nat.le_refl _), Os2.out.2⟩
  replace Op1 : Hid (Ow w10 0 p1 (dg Bs (A * C)) ∧ (dg Bs (A * C)).length ≤ 1048576 + 1048576) := ⟨Op1.out.1.below hbel (Nat.le_refl _), Op1.out.2⟩
  replace HB : Hid (Below w.heap.size w w10) := HB.out.trans (hbel.mono HB.out.size)
  have Op2 : Hid (Ow w10 0 p2 (dg Bs (B * C)) ∧ (dg Bs (B * C)).length ≤ 1048576 + 1048576) := ⟨hnew.1.base (Nat.zero_le _), hnew.2.1⟩
  clear hnew hbel
  have Cc := vcmp p1 p2 _ _ _ _ w10 (Op1.out.1.vl Op1.out.2) (Op2.out.1.vl Op2.out.2) (by decide) (by decide)
  rw [show cmp3 ((A * C : Nat) : Int) ((B * C : Nat) : Int) = 1 from cmp3_gt (by have h1 := H0.out.1 trivial; have h2 := H0.out.2.1 trivial; have h3 := H0.out.2.2 trivial; have h4 := Nat.mul_lt_mul_of_pos_right h1 h3; omega)] at Cc
  go_wp2_with fail
  refine Cc.mono ?_
  clear Cc
  rintro e w11 ⟨rfl, qq, hq⟩
  replace Ha : Hid (Vl w11 a (A) (1048576)) := by rw [hq]; exact Ha.out.drewN qq
  replace Hb : Hid (Vl w11 b (B) (1048576)) := by rw [hq]; exact Hb.out.drewN qq
  replace Hc : Hid (Vl w11 c (C) (1048576)) := by rw [hq]; exact Hc.out.drewN qq
  replace Os1 : Hid (Ow w11 0 s1 (dg Bs (A + C)) ∧ (dg Bs (A + C)).length ≤ 1048576 + 1048576 + 1) := by rw [hq]; exact ⟨Os1.out.1.drewN qq, Os1.out.2⟩
  replace Os2 : Hid (Ow w11 0 s2 (dg Bs (B + C)) ∧ (dg Bs (B + C)).length ≤ 1048576 + 1048576 + 1) := by rw [hq]; exact ⟨Os2.out.1.drewN qq, Os2.out.2⟩
  replace Op1 : Hid (Ow w11 0 p1 (dg Bs (A * C)) ∧ (dg Bs (A * C)).length ≤ 1048576 + 1048576) := by rw [hq]; exact ⟨Op1.out.1.drewN qq, Op1.out.2⟩
  replace Op2 : Hid (Ow w11 0 p2 (dg Bs (B * C)) ∧ (dg Bs (B * C)).length ≤ 1048576 + 1048576) := by rw [hq]; exact ⟨Op2.out.1.drewN qq, Op2.out.2⟩
  replace HB : Hid (Below w.heap.size w w11) := by rw [hq]; exact below_drewN HB.out qq
  clear hq
  obtain ⟨bc, Hbc⟩ : ∃ bc : Nat, Hid (bl C = bc) := ⟨_, rfl⟩
  have hbc : ((bc : Int) == 0) = false := by have h := bl_pos C (by have := H0.out.2.2 trivial; omega); rw [Hbc.out] at h; simp; omega
  have hbc2 : decide ((bc : Int) > 0) = true := by have h := bl_pos C (by have := H0.out.2.2 trivial; omega); rw [Hbc.out] at h; exact decide_eq_true (by omega)
  have hbc3 : decide ((0 : Int) < (bc : Int)) = true := by have h := bl_pos C (by have := H0.out.2.2 trivial; omega); rw [Hbc.out] at h; exact decide_eq_true (by omega)
  have hbc4 : decide (0 < bc) = true := by have h := bl_pos C (by have := H0.out.2.2 trivial; omega); rw [Hbc.out] at h; exact decide_eq_true (by omega)
  have Cc := vbits c _ _ w11 Hc.out (by decide)
  rw [Hbc.out] at Cc
  go_wp2_with fail
  refine Cc.mono ?_
  clear Cc
  rintro e w11 ⟨rfl, rfl⟩
  have Cc := vbits c _ _ w11 Hc.out (by decide)
  rw [Hbc.out] at Cc
  go_wp2_with fail
  refine Cc.mono ?_
  clear Cc
  rintro e w11 ⟨rfl, rfl⟩
  have Cc := vsub b a _ _ _ _ w11 Hb.out Ha.out (by decide) (by decide)
  rw [decide_eq_false (show ¬ A ≤ B by have := H0.out.1 trivial; omega)] at Cc
  go_wp2_with fail
  refine Cc.mono ?_
  clear Cc
  rintro e w12 ⟨d, rfl, hnew⟩
  have hbel := hnew.2.2
  replace Ha : Hid (Vl w12 a (A) (1048576)) := Ha.out.below hbel (Nat.le_refl _)
  replace Hb : Hid (Vl w12 b (B) (1048576)) := Hb.out.below hbel (Nat.le_refl _)
  replace Hc : Hid (Vl w12 c (C) (1048576)) := Hc.out.below hbel (Nat.le_refl _)
  replace Os1 : Hid (Ow w12 0 s1 (dg Bs (A + C)) ∧ (dg Bs (A + C)).length ≤ 1048576 + 1048576 + 1) := ⟨Os1.out.1.below hbel (Nat.le_refl _), Os1.out.2⟩
  replace Os2 : Hid (Ow w12 0 s2 (dg Bs (B + C)) ∧ (dg Bs (B + C)).length ≤ 1048576 + 1048576 + 1) := ⟨Os2.out.1.below hbel (Nat.le_refl _), Os2.out.2⟩
  replace Op1 : Hid (Ow w12 0 p1 (dg Bs (A * C)) ∧ (dg Bs (A * C)).length ≤ 1048576 + 1048576) := ⟨Op1.out.1.below hbel (Nat.le_refl _), Op1.out.2⟩
  replace Op2 : Hid (Ow w12 0 p2 (dg Bs (B * C)) ∧ (dg Bs (B * C)).length ≤ 1048576 + 1048576) := ⟨Op2.out.1.below hbel (Nat.le_refl _), Op2.out.2⟩
  replace HB : Hid (Below w.heap.size w w12) := HB.out.trans (hbel.mono HB.out.size)
  have Od : Hid (Ow w12 0 d (dg Bs (B - A)) ∧ (dg Bs (B - A)).length ≤ 1048576) := ⟨hnew.1.base (Nat.zero_le _), hnew.2.1⟩
  clear hnew hbel
  go_wp2_with fail
  have hbel := alloc_below w12 (.cells #[.int .u32 1] 36)
  have hlit := vlit w12 [1] (by decide)
  rw [show (([1] : List Nat).map U).toArray = #[.int .u32 1] from rfl] at hlit
  generalize hw2 : w12.alloc (.cells #[.int .u32 1] 36) = w13 at hbel hlit ⊢
  replace Ha : Hid (Vl w13 a (A) (1048576)) := Ha.out.below hbel (Nat.le_refl _)
  replace Hb : Hid (Vl w13 b (B) (1048576)) := Hb.out.below hbel (Nat.le_refl _)
  replace Hc : Hid (Vl w13 c (C) (1048576)) := Hc.out.below hbel (Nat.le_refl _)
  replace Os1 : Hid (Ow w13 0 s1 (dg Bs (A + C)) ∧ (dg Bs (A + C)).length ≤ 1048576 + 1048576 + 1) := ⟨Os1.out.1.below hbel (Nat.le_refl _), Os1.out.2⟩
  replace Os2 : Hid (Ow w13 0 s2 (dg Bs (B + C)) ∧ (dg Bs (B + C)).length ≤ 1048576 + 1048576 + 1) := ⟨Os2.out.1.below hbel (Nat.le_refl _), Os2.out.2⟩
  replace Op1 : Hid (Ow w13 0 p1 (dg Bs (A * C)) ∧ (dg Bs (A * C)).length ≤ 1048576 + 1048576) := ⟨Op1.out.1.below hbel (Nat.le_refl _), Op1.out.2⟩
  replace Op2 : Hid (Ow w13 0 p2 (dg Bs (B * C)) ∧ (dg Bs (B * C)).length ≤ 1048576 + 1048576) := ⟨Op2.out.1.below hbel (Nat.le_refl _), Op2.out.2⟩
  replace Od : Hid (Ow w13 0 d (dg Bs (B - A)) ∧ (dg Bs (B - A)).length ≤ 1048576) := ⟨Od.out.1.below hbel (Nat.le_refl _), Od.out.2⟩
  replace HB : Hid (Below w.heap.size w w13) := HB.out.trans (hbel.mono HB.out.size)
  clear hbel hw2
  have hl1 : nv Bs [1] = 1 := by simp [nv]
  rw [hl1] at hlit
  clear hl1
  have Cc := vadd a _ _ _ _ _ w13 Ha.out hlit (by decide) (by decide)
  clear hlit
  refine Cc.mono ?_
  clear Cc
  rintro e w14 ⟨nx, rfl, hnew⟩
  have hbel := hnew.2.2
  replace Ha : Hid (Vl w14 a (A) (1048576)) := Ha.out.below hbel (Nat.le_refl _)
  replace Hb : Hid (Vl w14 b (B) (1048576)) := Hb.out.below hbel (Nat.le_refl _)
  replace Hc : Hid (Vl w14 c (C) (1048576)) := Hc.out.below hbel (Nat.le_refl _)
  replace Os1 : Hid (Ow w14 0 s1 (dg Bs (A + C)) ∧ (dg Bs (A + C)).length ≤ 1048576 + 1048576 + 1) := ⟨Os1.out.1.below hbel (Nat.le_refl _), Os1.out.2⟩
  replace Os2 : Hid (Ow w14 0 s2 (dg Bs (B + C)) ∧ (dg Bs (B + C)).length ≤ 1048576 + 1048576 + 1) := ⟨Os2.out.1.below hbel (Nat.le_refl _), Os2.out.2⟩
  replace Op1 : Hid (Ow w14 0 p1 (dg Bs (A * C)) ∧ (dg Bs (A * C)).length ≤ 1048576 + 1048576) := ⟨Op1.out.1.below hbel (Nat.le_refl _), Op1.out.2⟩
  replace Op2 : Hid (Ow w14 0 p2 (dg Bs (B * C)) ∧ (dg Bs (B * C)).length ≤ 1048576 + 1048576) := ⟨Op2.out.1.below hbel (Nat.le_refl _), Op2.out.2⟩
  replace Od : Hid (Ow w14 0 d (dg Bs (B - A)) ∧ (dg Bs (B - A)).length ≤ 1048576) := ⟨Od.out.1.below hbel (Nat.le_refl _), Od.out.2⟩
  replace HB : Hid (Below w.heap.size w w14) := HB.out.trans (hbel.mono HB.out.size)
  have Onx : Hid (Ow w14 0 nx (dg Bs (A + 1)) ∧ (dg Bs (A + 1)).length ≤ 1048576 + 1 + 1) := ⟨hnew.1.base (Nat.zero_le _), hnew.2.1⟩
  clear hnew hbel
  have Cc := vcmp nx a _ _ _ _ w14 (Onx.out.1.vl Onx.out.2) Ha.out (by decide) (by decide)
  rw [show cmp3 ((A + 1 : Nat) : Int) ((A : Nat) : Int) = 1 from cmp3_gt (by omega)] at Cc
  go_wp2_with fail
  refine Cc.mono ?_
  clear Cc
  rintro e w15 ⟨rfl, qq, hq⟩
  replace Ha : Hid (Vl w15 a (A) (1048576)) := by rw [hq]; exact Ha.out.drewN qq
  replace Hb : Hid (Vl w15 b (B) (1048576)) := by rw [hq]; exact Hb.out.drewN qq
  replace Hc : Hid (Vl w15 c (C) (1048576)) := by rw [hq]; exact Hc.out.drewN qq
  replace Os1 : Hid (Ow w15 0 s1 (dg Bs (A + C)) ∧ (dg Bs (A + C)).length ≤ 1048576 + 1048576 + 1) := by rw [hq]; exact ⟨Os1.out.1.drewN qq, Os1.out.2⟩
  replace Os2 : Hid (Ow w15 0 s2 (dg Bs (B + C)) ∧ (dg Bs (B + C)).length ≤ 1048576 + 1048576 + 1) := by rw [hq]; exact ⟨Os2.out.1.drewN qq, Os2.out.2⟩
  replace Op1 : Hid (Ow w15 0 p1 (dg Bs (A * C)) ∧ (dg Bs (A * C)).length ≤ 1048576 + 1048576) := by rw [hq]; exact ⟨Op1.out.1.drewN qq, Op1.out.2⟩
  replace Op2 : Hid (Ow w15 0 p2 (dg Bs (B * C)) ∧ (dg Bs (B * C)).length ≤ 1048576 + 1048576) := by rw [hq]; exact ⟨Op2.out.1.drewN qq, Op2.out.2⟩
  replace Od : Hid (Ow w15 0 d (dg Bs (B - A)) ∧ (dg Bs (B - A)).length ≤ 1048576) := by rw [hq]; exact ⟨Od.out.1.drewN qq, Od.out.2⟩
  replace Onx : Hid (Ow w15 0 nx (dg Bs (A + 1)) ∧ (dg Bs (A + 1)).length ≤ 1048576 + 1 + 1) := by rw [hq]; exact ⟨Onx.out.1.drewN qq, Onx.out.2⟩
  replace HB : Hid (Below w.heap.size w w15) := by rw [hq]; exact below_drewN HB.out qq
  clear hq
  go_wp2
  go_ret
  exact ⟨rfl, HB.out⟩

set_option maxHeartbeats 4000000 in
theorem ord_220 (a b c : Value) (A B C : Nat) (w : World) (ha : Vl w a A 1048576) (hb : Vl w b B 1048576) (hc : Vl w c C 1048576) (hx : B < A) (hy : C < B) (hz : C = 0) :
    Calls Try.prog 5 #[a, b, c] w fun e w' => e = .returned (.bool true) ∧ Below w.heap.size w w' := by
  have H0 : Hid ((True → B < A) ∧ (True → C < B) ∧ (True → C = 0)) := ⟨fun _ => hx, fun _ => hy, fun _ => hz⟩
  clear hx hy hz
  have Ha : Hid (Vl w a A 1048576) := ha
  have Hb : Hid (Vl w b B 1048576) := hb
  have Hc : Hid (Vl w c C 1048576) := hc
  have HB : Hid (Below w.heap.size w w) := Below.refl _ _
  clear ha hb hc
  go_enter Try.func5, Try.ntmps5
  go_wp2_with fail
  refine (alive_any w).mono ?_
  rintro e w1 ⟨rfl, hbel⟩
  replace Ha : Hid (Vl w1 a (A) (1048576)) := Ha.out.below hbel (Nat.le_refl _)
  replace Hb : Hid (Vl w1 b (B) (1048576)) := Hb.out.below hbel (Nat.le_refl _)
  replace Hc : Hid (Vl w1 c (C) (1048576)) := Hc.out.below hbel (Nat.le_refl _)
  replace HB : Hid (Below w.heap.size w w1) := HB.out.trans (hbel.mono HB.out.size)
  clear hbel
  have Cc := vcmp a b _ _ _ _ w1 Ha.out Hb.out (by decide) (by decide)
  rw [show cmp3 ((A : Nat) : Int) ((B : Nat) : Int) = 1 from cmp3_gt (by have h1 := H0.out.1 trivial; have h2 := H0.out.2.1 trivial; have h3 := H0.out.2.2 trivial; omega)] at Cc
  go_wp2_with fail
  refine Cc.mono ?_
  clear Cc
  rintro e w2 ⟨rfl, qq, hq⟩
  replace Ha : Hid (Vl w2 a (A) (1048576)) := by rw [hq]; exact Ha.out.drewN qq
  replace Hb : Hid (Vl w2 b (B) (1048576)) := by rw [hq]; exact Hb.out.drewN qq
  replace Hc : Hid (Vl w2 c (C) (1048576)) := by rw [hq]; exact Hc.out.drewN qq
  replace HB : Hid (Below w.heap.size w w2) := by rw [hq]; exact below_drewN HB.out qq
  clear hq
  have Cc := vcmp b c _ _ _ _ w2 Hb.out Hc.out (by decide) (by decide)
  rw [show cmp3 ((B : Nat) : Int) ((C : Nat) : Int) = 1 from cmp3_gt (by have h1 := H0.out.1 trivial; have h2 := H0.out.2.1 trivial; have h3 := H0.out.2.2 trivial; omega)] at Cc
  go_wp2_with fail
  refine Cc.mono ?_
  clear Cc
  rintro e w3 ⟨rfl, qq, hq⟩
  replace Ha : Hid (Vl w3 a (A) (1048576)) := by rw [hq]; exact Ha.out.drewN qq
  replace Hb : Hid (Vl w3 b (B) (1048576)) := by rw [hq]; exact Hb.out.drewN qq
  replace Hc : Hid (Vl w3 c (C) (1048576)) := by rw [hq]; exact Hc.out.drewN qq
  replace HB : Hid (Below w.heap.size w w3) := by rw [hq]; exact below_drewN HB.out qq
  clear hq
  have Cc := vcmp a a _ _ _ _ w3 Ha.out Ha.out (by decide) (by decide)
  rw [show cmp3 ((A : Nat) : Int) ((A : Nat) : Int) = 0 from cmp3_eq rfl] at Cc
  go_wp2_with fail
  refine Cc.mono ?_
  clear Cc
  rintro e w4 ⟨rfl, qq, hq⟩
  replace Ha : Hid (Vl w4 a (A) (1048576)) := by rw [hq]; exact Ha.out.drewN qq
  replace Hb : Hid (Vl w4 b (B) (1048576)) := by rw [hq]; exact Hb.out.drewN qq
  replace Hc : Hid (Vl w4 c (C) (1048576)) := by rw [hq]; exact Hc.out.drewN qq
  replace HB : Hid (Below w.heap.size w w4) := by rw [hq]; exact below_drewN HB.out qq
  clear hq
  have Cc := vcmp b a _ _ _ _ w4 Hb.out Ha.out (by decide) (by decide)
  rw [show cmp3 ((B : Nat) : Int) ((A : Nat) : Int) = -1 from cmp3_lt (by have h1 := H0.out.1 trivial; have h2 := H0.out.2.1 trivial; have h3 := H0.out.2.2 trivial; omega)] at Cc
  go_wp2_with fail
  refine Cc.mono ?_
  clear Cc
  rintro e w5 ⟨rfl, qq, hq⟩
  replace Ha : Hid (Vl w5 a (A) (1048576)) := by rw [hq]; exact Ha.out.drewN qq
  replace Hb : Hid (Vl w5 b (B) (1048576)) := by rw [hq]; exact Hb.out.drewN qq
  replace Hc : Hid (Vl w5 c (C) (1048576)) := by rw [hq]; exact Hc.out.drewN qq
  replace HB : Hid (Below w.heap.size w w5) := by rw [hq]; exact below_drewN HB.out qq
  clear hq
  have Cc := vadd a c _ _ _ _ w5 Ha.out Hc.out (by decide) (by decide)
  go_wp2_with fail
  refine Cc.mono ?_
  clear Cc
  rintro e w6 ⟨s1, rfl, hnew⟩
  have hbel := hnew.2.2
  replace Ha : Hid (Vl w6 a (A) (1048576)) := Ha.out.below hbel (Nat.le_refl _)
  replace Hb : Hid (Vl w6 b (B) (1048576)) := Hb.out.below hbel (Nat.le_refl _)
  replace Hc : Hid (Vl w6 c (C) (1048576)) := Hc.out.below hbel (Nat.le_refl _)
  replace HB : Hid (Below w.heap.size w w6) := HB.out.trans (hbel.mono HB.out.size)
  have Os1 : Hid (Ow w6 0 s1 (dg Bs (A + C)) ∧ (dg Bs (A + C)).length ≤ 1048576 + 1048576 + 1) := ⟨hnew.1.base (Nat.zero_le _), hnew.2.1⟩
  clear hnew hbel
  have Cc := vadd b c _ _ _ _ w6 Hb.out Hc.out (by decide) (by decide)
  go_wp2_with fail
  refine Cc.mono ?_
  clear Cc
  rintro e w7 ⟨s2, rfl, hnew⟩
  have hbel := hnew.2.2
  replace Ha : Hid (Vl w7 a (A) (1048576)) := Ha.out.below hbel (Nat.le_refl _)
  replace Hb : Hid (Vl w7 b (B) (1048576)) := Hb.out.below hbel (Nat.le_refl _)
  replace Hc : Hid (Vl w7 c (C) (1048576)) := Hc.out.below hbel (Nat.le_refl _)
  replace Os1 : Hid (Ow w7 0 s1 (dg Bs (A + C)) ∧ (dg Bs (A + C)).length ≤ 1048576 + 1048576 + 1) := ⟨Os1.out.1.below hbel (Nat.le_refl _), Os1.out.2⟩
  replace HB : Hid (Below w.heap.size w w7) := HB.out.trans (hbel.mono HB.out.size)
  have Os2 : Hid (Ow w7 0 s2 (dg Bs (B + C)) ∧ (dg Bs (B + C)).length ≤ 1048576 + 1048576 + 1) := ⟨hnew.1.base (Nat.zero_le _), hnew.2.1⟩
  clear hnew hbel
  have Cc := vcmp s1 s2 _ _ _ _ w7 (Os1.out.1.vl Os1.out.2) (Os2.out.1.vl Os2.out.2) (by decide) (by decide)
  rw [show cmp3 ((A + C : Nat) : Int) ((B + C : Nat) : Int) = 1 from cmp3_gt (by have h1 := H0.out.1 trivial; have h2 := H0.out.2.1 trivial; have h3 := H0.out.2.2 trivial; omega)] at Cc
  go_wp2_with fail
  refine Cc.mono ?_
  clear Cc
  rintro e w8 ⟨rfl, qq, hq⟩
  replace Ha : Hid (Vl w8 a (A) (1048576)) := by rw [hq]; exact Ha.out.drewN qq
  replace Hb : Hid (Vl w8 b (B) (1048576)) := by rw [hq]; exact Hb.out.drewN qq
  replace Hc : Hid (Vl w8 c (C) (1048576)) := by rw [hq]; exact Hc.out.drewN qq
  replace Os1 : Hid (Ow w8 0 s1 (dg Bs (A + C)) ∧ (dg Bs (A + C)).length ≤ 1048576 + 1048576 + 1) := by rw [hq]; exact ⟨Os1.out.1.drewN qq, Os1.out.2⟩
  replace Os2 : Hid (Ow w8 0 s2 (dg Bs (B + C)) ∧ (dg Bs (B + C)).length ≤ 1048576 + 1048576 + 1) := by rw [hq]; exact ⟨Os2.out.1.drewN qq, Os2.out.2⟩
  replace HB : Hid (Below w.heap.size w w8) := by rw [hq]; exact below_drewN HB.out qq
  clear hq
  have Cc := vmul a c _ _ _ _ w8 Ha.out Hc.out (by decide) (by decide)
  go_wp2_with fail
  refine Cc.mono ?_
  clear Cc
  rintro e w9 ⟨p1, rfl, hnew⟩
  have hbel := hnew.2.2
  replace Ha : Hid (Vl w9 a (A) (1048576)) := Ha.out.below hbel (Nat.le_refl _)
  replace Hb : Hid (Vl w9 b (B) (1048576)) := Hb.out.below hbel (Nat.le_refl _)
  replace Hc : Hid (Vl w9 c (C) (1048576)) := Hc.out.below hbel (Nat.le_refl _)
  replace Os1 : Hid (Ow w9 0 s1 (dg Bs (A + C)) ∧ (dg Bs (A + C)).length ≤ 1048576 + 1048576 + 1) := ⟨Os1.out.1.below hbel (Nat.le_refl _), Os1.out.2⟩
  replace Os2 : Hid (Ow w9 0 s2 (dg Bs (B + C)) ∧ (dg Bs (B + C)).length ≤ 1048576 + 1048576 + 1) := ⟨Os2.out.1.below hbel (Nat.le_refl _), Os2.out.2⟩
  replace HB : Hid (Below w.heap.size w w9) := HB.out.trans (hbel.mono HB.out.size)
  have Op1 : Hid (Ow w9 0 p1 (dg Bs (A * C)) ∧ (dg Bs (A * C)).length ≤ 1048576 + 1048576) := ⟨hnew.1.base (Nat.zero_le _), hnew.2.1⟩
  clear hnew hbel
  have Cc := vmul b c _ _ _ _ w9 Hb.out Hc.out (by decide) (by decide)
  go_wp2_with fail
  refine Cc.mono ?_
  clear Cc
  rintro e w10 ⟨p2, rfl, hnew⟩
  have hbel := hnew.2.2
  replace Ha : Hid (Vl w10 a (A) (1048576)) := Ha.out.below hbel (Nat.le_refl _)
  replace Hb : Hid (Vl w10 b (B) (1048576)) := Hb.out.below hbel (Nat.le_refl _)
  replace Hc : Hid (Vl w10 c (C) (1048576)) := Hc.out.below hbel (Nat.le_refl _)
  replace Os1 : Hid (Ow w10 0 s1 (dg Bs (A + C)) ∧ (dg Bs (A + C)).length ≤ 1048576 + 1048576 + 1) := ⟨Os1.out.1.below hbel (Nat.le_refl _), Os1.out.2⟩
  replace Os2 : Hid (Ow w10 0 s2 (dg Bs (B + C)) ∧ (dg Bs (B + C)).length ≤ 1048576 + 1048576 + 1) := ⟨Os2.out.1.below hbel (Nat.le_refl _), Os2.out.2⟩
  replace Op1 : Hid (Ow w10 0 p1 (dg Bs (A * C)) ∧ (dg Bs (A * C)).length ≤ 1048576 + 1048576) := ⟨Op1.out.1.below hbel (Nat.le_refl _), Op1.out.2⟩
  replace HB : Hid (Below w.heap.size w w10) := HB.out.trans (hbel.mono HB.out.size)
  have Op2 : Hid (Ow w10 0 p2 (dg Bs (B * C)) ∧ (dg Bs (B * C)).length ≤ 1048576 + 1048576) := ⟨hnew.1.base (Nat.zero_le _), hnew.2.1⟩
  clear hnew hbel
  have Cc := vcmp p1 p2 _ _ _ _ w10 (Op1.out.1.vl Op1.out.2) (Op2.out.1.vl Op2.out.2) (by decide) (by decide)
  rw [show cmp3 ((A * C : Nat) : Int) ((B * C : Nat) : Int) = 0 from cmp3_eq (by rw [H0.out.2.2 trivial, Nat.mul_zero, Nat.mul_zero])] at Cc
  go_wp2_with fail
  refine Cc.mono ?_
  clear Cc
  rintro e w11 ⟨rfl, qq, hq⟩
  replace Ha : Hid (Vl w11 a (A) (1048576)) := by rw [hq]; exact Ha.out.drewN qq
  replace Hb : Hid (Vl w11 b (B) (1048576)) := by rw [hq]; exact Hb.out.drewN qq
  replace Hc : Hid (Vl w11 c (C) (1048576)) := by rw [hq]; exact Hc.out.drewN qq
  replace Os1 : Hid (Ow w11 0 s1 (dg Bs (A + C)) ∧ (dg Bs (A + C)).length ≤ 1048576 + 1048576 + 1) := by rw [hq]; exact ⟨Os1.out.1.drewN qq, Os1.out.2⟩
  replace Os2 : Hid (Ow w11 0 s2 (dg Bs (B + C)) ∧ (dg Bs (B + C)).length ≤ 1048576 + 1048576 + 1) := by rw [hq]; exact ⟨Os2.out.1.drewN qq, Os2.out.2⟩
  replace Op1 : Hid (Ow w11 0 p1 (dg Bs (A * C)) ∧ (dg Bs (A * C)).length ≤ 1048576 + 1048576) := by rw [hq]; exact ⟨Op1.out.1.drewN qq, Op1.out.2⟩
  replace Op2 : Hid (Ow w11 0 p2 (dg Bs (B * C)) ∧ (dg Bs (B * C)).length ≤ 1048576 + 1048576) := by rw [hq]; exact ⟨Op2.out.1.drewN qq, Op2.out.2⟩
  replace HB : Hid (Below w.heap.size w w11) := by rw [hq]; exact below_drewN HB.out qq
  clear hq
  have Cc := vbits c _ _ w11 Hc.out (by decide)
  rw [show ((bl C : Nat) : Int) = 0 from by rw [H0.out.2.2 trivial]; rfl] at Cc
  go_wp2_with fail
  refine Cc.mono ?_
  clear Cc
  rintro e w11 ⟨rfl, rfl⟩
  have Cc := vbits c _ _ w11 Hc.out (by decide)
  rw [show ((bl C : Nat) : Int) = 0 from by rw [H0.out.2.2 trivial]; rfl] at Cc
  go_wp2_with fail
  refine Cc.mono ?_
  clear Cc
  rintro e w11 ⟨rfl, rfl⟩
  have Cc := vsub b a _ _ _ _ w11 Hb.out Ha.out (by decide) (by decide)
  rw [decide_eq_false (show ¬ A ≤ B by have := H0.out.1 trivial; omega)] at Cc
  go_wp2_with fail
  refine Cc.mono ?_
  clear Cc
  rintro e w12 ⟨d, rfl, hnew⟩
  have hbel := hnew.2.2
  replace Ha : Hid (Vl w12 a (A) (1048576)) := Ha.out.below hbel (Nat.le_refl _)
  replace Hb : Hid (Vl w12 b (B) (1048576)) := Hb.out.below hbel (Nat.le_refl _)
  replace Hc : Hid (Vl w12 c (C) (1048576)) := Hc.out.below hbel (Nat.le_refl _)
  replace Os1 : Hid (Ow w12 0 s1 (dg Bs (A + C)) ∧ (dg Bs (A + C)).length ≤ 1048576 + 1048576 + 1) := ⟨Os1.out.1.below hbel (Nat.le_refl _), Os1.out.2⟩
  replace Os2 : Hid (Ow w12 0 s2 (dg Bs (B + C)) ∧ (dg Bs (B + C)).length ≤ 1048576 + 1048576 + 1) := ⟨Os2.out.1.below hbel (Nat.le_refl _), Os2.out.2⟩
  replace Op1 : Hid (Ow w12 0 p1 (dg Bs (A * C)) ∧ (dg Bs (A * C)).length ≤ 1048576 + 1048576) := ⟨Op1.out.1.below hbel (Nat.le_refl _), Op1.out.2⟩
  replace Op2 : Hid (Ow w12 0 p2 (dg Bs (B * C)) ∧ (dg Bs (B * C)).length ≤ 1048576 + 1048576) := ⟨Op2.out.1.below hbel (Nat.le_refl _), Op2.out.2⟩
  replace HB : Hid (Below w.heap.size w w12) := HB.out.trans (hbel.mono HB.out.size)
  have Od : Hid (Ow w12 0 d (dg Bs (B - A)) ∧ (dg Bs (B - A)).length ≤ 1048576) := ⟨hnew.1.base (Nat.zero_le _), hnew.2.1⟩
  clear hnew hbel
  go_wp2_with fail
  have hbel := alloc_below w12 (.cells #[.int .u32 1] 36)
  have hlit := vlit w12 [1] (by decide)
  rw [show (([1] : List Nat).map U).toArray = #[.int .u32 1] from rfl] at hlit
  generalize hw2 : w12.alloc (.cells #[.int .u32 1] 36) = w13 at hbel hlit ⊢
  replace Ha : Hid (Vl w13 a (A) (1048576)) := Ha.out.below hbel (Nat.le_refl _)
  replace Hb : Hid (Vl w13 b (B) (1048576)) := Hb.out.below hbel (Nat.le_refl _)
  replace Hc : Hid (Vl w13 c (C) (1048576)) := Hc.out.below hbel (Nat.le_refl _)
  replace Os1 : Hid (Ow w13 0 s1 (dg Bs (A + C)) ∧ (dg Bs (A + C)).length ≤ 1048576 + 1048576 + 1) := ⟨Os1.out.1.below hbel (Nat.le_refl _), Os1.out.2⟩
  replace Os2 : Hid (Ow w13 0 s2 (dg Bs (B + C)) ∧ (dg Bs (B + C)).length ≤ 1048576 + 1048576 + 1) := ⟨Os2.out.1.below hbel (Nat.le_refl _), Os2.out.2⟩
  replace Op1 : Hid (Ow w13 0 p1 (dg Bs (A * C)) ∧ (dg Bs (A * C)).length ≤ 1048576 + 1048576) := ⟨Op1.out.1.below hbel (Nat.le_refl _), Op1.out.2⟩
  replace Op2 : Hid (Ow w13 0 p2 (dg Bs (B * C)) ∧ (dg Bs (B * C)).length ≤ 1048576 + 1048576) := ⟨Op2.out.1.below hbel (Nat.le_refl _), Op2.out.2⟩
  replace Od : Hid (Ow w13 0 d (dg Bs (B - A)) ∧ (dg Bs (B - A)).length ≤ 1048576) := ⟨Od.out.1.below hbel (Nat.le_refl _), Od.out.2⟩
  replace HB : Hid (Below w.heap.size w w13) := HB.out.trans (hbel.mono HB.out.size)
  clear hbel hw2
  have hl1 : nv Bs [1] = 1 := by simp [nv]
  rw [hl1] at hlit
  clear hl1
  have Cc := vadd a _ _ _ _ _ w13 Ha.out hlit (by decide) (by decide)
  clear hlit
  refine Cc.mono ?_
  clear Cc
  rintro e w14 ⟨nx, rfl, hnew⟩
  have hbel := hnew.2.2
  replace Ha : Hid (Vl w14 a (A) (1048576)) := Ha.out.below hbel (Nat.le_refl _)
  replace Hb : Hid (Vl w14 b (B) (1048576)) := Hb.out.below hbel (Nat.le_refl _)
  replace Hc : Hid (Vl w14 c (C) (1048576)) := Hc.out.below hbel (Nat.le_refl _)
  replace Os1 : Hid (Ow w14 0 s1 (dg Bs (A + C)) ∧ (dg Bs (A + C)).length ≤ 1048576 + 1048576 + 1) := ⟨Os1.out.1.below hbel (Nat.le_refl _), Os1.out.2⟩
  replace Os2 : Hid (Ow w14 0 s2 (dg Bs (B + C)) ∧ (dg Bs (B + C)).length ≤ 1048576 + 1048576 + 1) := ⟨Os2.out.1.below hbel (Nat.le_refl _), Os2.out.2⟩
  replace Op1 : Hid (Ow w14 0 p1 (dg Bs (A * C)) ∧ (dg Bs (A * C)).length ≤ 1048576 + 1048576) := ⟨Op1.out.1.below hbel (Nat.le_refl _), Op1.out.2⟩
  replace Op2 : Hid (Ow w14 0 p2 (dg Bs (B * C)) ∧ (dg Bs (B * C)).length ≤ 1048576 + 1048576) := ⟨Op2.out.1.below hbel (Nat.le_refl _), Op2.out.2⟩
  replace Od : Hid (Ow w14 0 d (dg Bs (B - A)) ∧ (dg Bs (B - A)).length ≤ 1048576) := ⟨Od.out.1.below hbel (Nat.le_refl _), Od.out.2⟩
  replace HB : Hid (Below w.heap.size w w14) := HB.out.trans (hbel.mono HB.out.size)
  have Onx : Hid (Ow w14 0 nx (dg Bs (A + 1)) ∧ (dg Bs (A + 1)).length ≤ 1048576 + 1 + 1) := ⟨hnew.1.base (Nat.zero_le _), hnew.2.1⟩
  clear hnew hbel
  have Cc := vcmp nx a _ _ _ _ w14 (Onx.out.1.vl Onx.out.2) Ha.out (by decide) (by decide)
  rw [show cmp3 ((A + 1 : Nat) : Int) ((A : Nat) : Int) = 1 from cmp3_gt (by omega)] at Cc
  go_wp2_with fail
  refine Cc.mono ?_
  clear Cc
  rintro e w15 ⟨rfl, qq, hq⟩
  replace Ha : Hid (Vl w15 a (A) (1048576)) := by rw [hq]; exact Ha.out.drewN qq
  replace Hb : Hid (Vl w15 b (B) (1048576)) := by rw [hq]; exact Hb.out.drewN qq
  replace Hc : Hid (Vl w15 c (C) (1048576)) := by rw [hq]; exact Hc.out.drewN qq
  replace Os1 : Hid (Ow w15 0 s1 (dg Bs (A + C)) ∧ (dg Bs (A + C)).length ≤ 1048576 + 1048576 + 1) := by rw [hq]; exact ⟨Os1.out.1.drewN qq, Os1.out.2⟩
  replace Os2 : Hid (Ow w15 0 s2 (dg Bs (B + C)) ∧ (dg Bs (B + C)).length ≤ 1048576 + 1048576 + 1) := by rw [hq]; exact ⟨Os2.out.1.drewN qq, Os2.out.2⟩
  replace Op1 : Hid (Ow w15 0 p1 (dg Bs (A * C)) ∧ (dg Bs (A * C)).length ≤ 1048576 + 1048576) := by rw [hq]; exact ⟨Op1.out.1.drewN qq, Op1.out.2⟩
  replace Op2 : Hid (Ow w15 0 p2 (dg Bs (B * C)) ∧ (dg Bs (B * C)).length ≤ 1048576 + 1048576) := by rw [hq]; exact ⟨Op2.out.1.drewN qq, Op2.out.2⟩
  replace Od : Hid (Ow w15 0 d (dg Bs (B - A)) ∧ (dg Bs (B - A)).length ≤ 1048576) := by rw [hq]; exact ⟨Od.out.1.drewN qq, Od.out.2⟩
  replace Onx : Hid (Ow w15 0 nx (dg Bs (A + 1)) ∧ (dg Bs (A + 1)).length ≤ 1048576 + 1 + 1) := by rw [hq]; exact ⟨Onx.out.1.drewN qq, Onx.out.2⟩
  replace HB : Hid (Below w.heap.size w w15) := by rw [hq]; exact below_drewN HB.out qq
  clear hq
  go_wp2
  go_ret
  exact ⟨rfl, HB.out⟩

set_option maxHeartbeats 4000000 in
theorem ord_221 (a b c : Value) (A B C : Nat) (w : World) (ha : Vl w a A 1048576) (hb : Vl w b B 1048576) (hc : Vl w c C 1048576) (hx : B < A) (hy : C < B) (hz : 0 < C) :
    Calls Try.prog 5 #[a, b, c] w fun e w' => e = .returned (.bool true) ∧ Below w.heap.size w w' := by
  have H0 : Hid ((True → B < A) ∧ (True → C < B) ∧ (True → 0 < C)) := ⟨fun _ => hx, fun _ => hy, fun _ => hz⟩
  clear hx hy hz
  have Ha : Hid (Vl w a A 1048576) := ha
  have Hb : Hid (Vl w b B 1048576) := hb
  have Hc : Hid (Vl w c C 1048576) := hc
  have HB : Hid (Below w.heap.size w w) := Below.refl _ _
  clear ha hb hc
  go_enter Try.func5, Try.ntmps5
  go_wp2_with fail
  refine (alive_any w).mono ?_
  rintro e w1 ⟨rfl, hbel⟩
  replace Ha : Hid (Vl w1 a (A) (1048576)) := Ha.out.below hbel (Nat.le_refl _)
  replace Hb : Hid (Vl w1 b (B) (1048576)) := Hb.out.below hbel (Nat.le_refl _)
  replace Hc : Hid (Vl w1 c (C) (1048576)) := Hc.out.below hbel (Nat.le_refl _)
  replace HB : Hid (Below w.heap.size w w1) := HB.out.trans (hbel.mono HB.out.size)
  clear hbel
  have Cc := vcmp a b _ _ _ _ w1 Ha.out Hb.out (by decide) (by decide)
  rw [show cmp3 ((A : Nat) : Int) ((B : Nat) : Int) = 1 from cmp3_gt (by have h1 := H0.out.1 trivial; have h2 := H0.out.2.1 trivial; have h3 := H0.out.2.2 trivial; omega)] at Cc
  go_wp2_with fail
  refine Cc.mono ?_
  clear Cc
  rintro e w2 ⟨rfl, qq, hq⟩
  replace Ha : Hid (Vl w2 a (A) (1048576)) := by rw [hq]; exact Ha.out.drewN qq
  replace Hb : Hid (Vl w2 b (B) (1048576)) := by rw [hq]; exact Hb.out.drewN qq
  replace Hc : Hid (Vl w2 c (C) (1048576)) := by rw [hq]; exact Hc.out.drewN qq
  replace HB : Hid (Below w.heap.size w w2) := by rw [hq]; exact below_drewN HB.out qq
  clear hq
  have Cc := vcmp b c _ _ _ _ w2 Hb.out Hc.out (by decide) (by decide)
  rw [show cmp3 ((B : Nat) : Int) ((C : Nat) : Int) = 1 from cmp3_gt (by have h1 := H0.out.1 trivial; have h2 := H0.out.2.1 trivial; have h3 := H0.out.2.2 trivial; omega)] at Cc
  go_wp2_with fail
  refine Cc.mono ?_
  clear Cc
  rintro e w3 ⟨rfl, qq, hq⟩
  replace Ha : Hid (Vl w3 a (A) (1048576)) := by rw [hq]; exact Ha.out.drewN qq
  replace Hb : Hid (Vl w3 b (B) (1048576)) := by rw [hq]; exact Hb.out.drewN qq
  replace Hc : Hid (Vl w3 c (C) (1048576)) := by rw [hq]; exact Hc.out.drewN qq
  replace HB : Hid (Below w.heap.size w w3) := by rw [hq]; exact below_drewN HB.out qq
  clear hq
  have Cc := vcmp a a _ _ _ _ w3 Ha.out Ha.out (by decide) (by decide)
  rw [show cmp3 ((A : Nat) : Int) ((A : Nat) : Int) = 0 from cmp3_eq rfl] at Cc
  go_wp2_with fail
  refine Cc.mono ?_
  clear Cc
  rintro e w4 ⟨rfl, qq, hq⟩
  replace Ha : Hid (Vl w4 a (A) (1048576)) := by rw [hq]; exact Ha.out.drewN qq
  replace Hb : Hid (Vl w4 b (B) (1048576)) := by rw [hq]; exact Hb.out.drewN qq
  replace Hc : Hid (Vl w4 c (C) (1048576)) := by rw [hq]; exact Hc.out.drewN qq
  replace HB : Hid (Below w.heap.size w w4) := by rw [hq]; exact below_drewN HB.out qq
  clear hq
  have Cc := vcmp b a _ _ _ _ w4 Hb.out Ha.out (by decide) (by decide)
  rw [show cmp3 ((B : Nat) : Int) ((A : Nat) : Int) = -1 from cmp3_lt (by have h1 := H0.out.1 trivial; have h2 := H0.out.2.1 trivial; have h3 := H0.out.2.2 trivial; omega)] at Cc
  go_wp2_with fail
  refine Cc.mono ?_
  clear Cc
  rintro e w5 ⟨rfl, qq, hq⟩
  replace Ha : Hid (Vl w5 a (A) (1048576)) := by rw [hq]; exact Ha.out.drewN qq
  replace Hb : Hid (Vl w5 b (B) (1048576)) := by rw [hq]; exact Hb.out.drewN qq
  replace Hc : Hid (Vl w5 c (C) (1048576)) := by rw [hq]; exact Hc.out.drewN qq
  replace HB : Hid (Below w.heap.size w w5) := by rw [hq]; exact below_drewN HB.out qq
  clear hq
  have Cc := vadd a c _ _ _ _ w5 Ha.out Hc.out (by decide) (by decide)
  go_wp2_with fail
  refine Cc.mono ?_
  clear Cc
  rintro e w6 ⟨s1, rfl, hnew⟩
  have hbel := hnew.2.2
  replace Ha : Hid (Vl w6 a (A) (1048576)) := Ha.out.below hbel (Nat.le_refl _)
  replace Hb : Hid (Vl w6 b (B) (1048576)) := Hb.out.below hbel (Nat.le_refl _)
  replace Hc : Hid (Vl w6 c (C) (1048576)) := Hc.out.below hbel (Nat.le_refl _)
  replace HB : Hid (Below w.heap.size w w6) := HB.out.trans (hbel.mono HB.out.size)
  have Os1 : Hid (Ow w6 0 s1 (dg Bs (A + C)) ∧ (dg Bs (A + C)).length ≤ 1048576 + 1048576 + 1) := ⟨hnew.1.base (Nat.zero_le _), hnew.2.1⟩
  clear hnew hbel
  have Cc := vadd b c _ _ _ _ w6 Hb.out Hc.out (by decide) (by decide)
  go_wp2_with fail
  refine Cc.mono ?_
  clear Cc
  rintro e w7 ⟨s2, rfl, hnew⟩
  have hbel := hnew.2.2
  replace Ha : Hid (Vl w7 a (A) (1048576)) := Ha.out.below hbel (Nat.le_refl _)
  replace Hb : Hid (Vl w7 b (B) (1048576)) := Hb.out.below hbel (Nat.le_refl _)
  replace Hc : Hid (Vl w7 c (C) (1048576)) := Hc.out.below hbel (Nat.le_refl _)
  replace Os1 : Hid (Ow w7 0 s1 (dg Bs (A + C)) ∧ (dg Bs (A + C)).length ≤ 1048576 + 1048576 + 1) := ⟨Os1.out.1.below hbel (Nat.le_refl _), Os1.out.2⟩
  replace HB : Hid (Below w.heap.size w w7) := HB.out.trans (hbel.mono HB.out.size)
  have Os2 : Hid (Ow w7 0 s2 (dg Bs (B + C)) ∧ (dg Bs (B + C)).length ≤ 1048576 + 1048576 + 1) := ⟨hnew.1.base (Nat.zero_le _), hnew.2.1⟩
  clear hnew hbel
  have Cc := vcmp s1 s2 _ _ _ _ w7 (Os1.out.1.vl Os1.out.2) (Os2.out.1.vl Os2.out.2) (by decide) (by decide)
  rw [show cmp3 ((A + C : Nat) : Int) ((B + C : Nat) : Int) = 1 from cmp3_gt (by have h1 := H0.out.1 trivial; have h2 := H0.out.2.1 trivial; have h3 := H0.out.2.2 trivial; omega)] at Cc
  go_wp2_with fail
  refine Cc.mono ?_
  clear Cc
  rintro e w8 ⟨rfl, qq, hq⟩
  replace Ha : Hid (Vl w8 a (A) (1048576)) := by rw [hq]; exact Ha.out.drewN qq
  replace Hb : Hid (Vl w8 b (B) (1048576)) := by rw [hq]; exact Hb.out.drewN qq
  replace Hc : Hid (Vl w8 c (C) (1048576)) := by rw [hq]; exact Hc.out.drewN qq
  replace Os1 : Hid (Ow w8 0 s1 (dg Bs (A + C)) ∧ (dg Bs (A + C)).length ≤ 1048576 + 1048576 + 1) := by rw [hq]; exact ⟨Os1.out.1.drewN qq, Os1.out.2⟩
  replace Os2 : Hid (Ow w8 0 s2 (dg Bs (B + C)) ∧ (dg Bs (B + C)).length ≤ 1048576 + 1048576 + 1) := by rw [hq]; exact ⟨Os2.out.1.drewN qq, Os2.out.2⟩
  replace HB : Hid (Below w.heap.size w w8) := by rw [hq]; exact below_drewN HB.out qq
  clear hq
  have Cc := vmul a c _ _ _ _ w8 Ha.out Hc.out (by decide) (by decide)
  go_wp2_with fail
  refine Cc.mono ?_
  clear Cc
  rintro e w9 ⟨p1, rfl, hnew⟩
  have hbel := hnew.2.2
  replace Ha : Hid (Vl w9 a (A) (1048576)) := Ha.out.below hbel (Nat.le_refl _)
  replace Hb : Hid (Vl w9 b (B) (1048576)) := Hb.out.below hbel (Nat.le_refl _)
  replace Hc : Hid (Vl w9 c (C) (1048576)) := Hc.out.below hbel (Nat.le_refl _)
  replace Os1 : Hid (Ow w9 0 s1 (dg Bs (A + C)) ∧ (dg Bs (A + C)).length ≤ 1048576 + 1048576 + 1) := ⟨Os1.out.1.below hbel (Nat.le_refl _), Os1.out.2⟩
  replace Os2 : Hid (Ow w9 0 s2 (dg Bs (B + C)) ∧ (dg Bs (B + C)).length ≤ 1048576 + 1048576 + 1) := ⟨Os2.out.1.below hbel (Nat.le_refl _), Os2.out.2⟩
  replace HB : Hid (Below w.heap.size w w9) := HB.out.trans (hbel.mono HB.out.size)
  have Op1 : Hid (Ow w9 0 p1 (dg Bs (A * C)) ∧ (dg Bs (A * C)).length ≤ 1048576 + 1048576) := ⟨hnew.1.base (Nat.zero_le _), hnew.2.1⟩
  clear hnew hbel
  have Cc := vmul b c _ _ _ _ w9 Hb.out Hc.out (by decide) (by decide)
  go_wp2_with fail
  refine Cc.mono ?_
  clear Cc
  rintro e w10 ⟨p2, rfl, hnew⟩
  have hbel := hnew.2.2
  replace Ha : Hid (Vl w10 a (A) (1048576)) := Ha.out.below hbel (Nat.le_refl _)
  replace Hb : Hid (Vl w10 b (B) (1048576)) := Hb.out.below hbel (Nat.le_refl _)
  replace Hc : Hid (Vl w10 c (C) (1048576)) := Hc.out.below hbel (Nat.le_refl _)
  replace Os1 : Hid (Ow w10 0 s1 (dg Bs (A + C)) ∧ (dg Bs (A + C)).length ≤ 1048576 + 1048576 + 1) := ⟨Os1.out.1.below hbel (Nat.le_refl _), Os1.out.2⟩
  replace Os2 : Hid (Ow w10 0 s2 (dg Bs (B + C)) ∧ (dg Bs (B + C)).length ≤ 1048576 + 1048576 + 1) := ⟨Os2.out.1.below hbel (Nat.le_refl _), Os2.out.2⟩
  replace Op1 : Hid (Ow w10 0 p1 (dg Bs (A * C)) ∧ (dg Bs (A * C)).length ≤ 1048576 + 1048576) := ⟨Op1.out.1.below hbel (Nat.le_refl _), Op1.out.2⟩
  replace HB : Hid (Below w.heap.size w w10) := HB.out.trans (hbel.mono HB.out.size)
  have Op2 : Hid (Ow w10 0 p2 (dg Bs (B * C)) ∧ (dg Bs (B * C)).length ≤ 1048576 + 1048576) := ⟨hnew.1.base (Nat.zero_le _), hnew.2.1⟩
  clear hnew hbel
  have Cc := vcmp p1 p2 _ _ _ _ w10 (Op1.out.1.vl Op1.out.2) (Op2.out.1.vl Op2.out.2) (by decide) (by decide)
  rw [show cmp3 ((A * C : Nat) : Int) ((B * C : Nat) : Int) = 1 from cmp3_gt (by have h1 := H0.out.1 trivial; have h2 := H0.out.2.1 trivial; have h3 := H0.out.2.2 trivial; have h4 := Nat.mul_lt_mul_of_pos_right h1 h3; omega)] at Cc
  go_wp2_with fail
  refine Cc.mono ?_
  clear Cc
  rintro e w11 ⟨rfl, qq, hq⟩
  replace Ha : Hid (Vl w11 a (A) (1048576)) := by rw [hq]; exact Ha.out.drewN qq
  replace Hb : Hid (Vl w11 b (B) (1048576)) := by rw [hq]; exact Hb.out.drewN qq
  replace Hc : Hid (Vl w11 c (C) (1048576)) := by rw [hq]; exact Hc.out.drewN qq
  replace Os1 : Hid (Ow w11 0 s1 (dg Bs (A + C)) ∧ (dg Bs (A + C)).length ≤ 1048576 + 1048576 + 1) := by rw [hq]; exact ⟨Os1.out.1.drewN qq, Os1.out.2⟩
  replace Os2 : Hid (Ow w11 0 s2 (dg Bs (B + C)) ∧ (dg Bs (B + C)).length ≤ 1048576 + 1048576 + 1) := by rw [hq]; exact ⟨Os2.out.1.drewN qq, Os2.out.2⟩
  replace Op1 : Hid (Ow w11 0 p1 (dg Bs (A * C)) ∧ (dg Bs (A * C)).length ≤ 1048576 + 1048576) := by rw [hq]; exact ⟨Op1.out.1.drewN qq, Op1.out.2⟩
  replace Op2 : Hid (Ow w11 0 p2 (dg Bs (B * C)) ∧ (dg Bs (B * C)).length ≤ 1048576 + 1048576) := by rw [hq]; exact ⟨Op2.out.1.drewN qq, Op2.out.2⟩
  replace HB : Hid (Below w.heap.size w w11) := by rw [hq]; exact below_drewN HB.out qq
  clear hq
  obtain ⟨bc, Hbc⟩ : ∃ bc : Nat, Hid (bl C = bc) := ⟨_, rfl⟩
  have hbc : ((bc : Int) == 0) = false := by have h := bl_pos C (by have := H0.out.2.2 trivial; omega); rw [Hbc.out] at h; simp; omega
  have hbc2 : decide ((bc : Int) > 0) = true := by have h := bl_pos C (by have := H0.out.2.2 trivial; omega); rw [Hbc.out] at h; exact decide_eq_true (by omega)
  have hbc3 : decide ((0 : Int) < (bc : Int)) = true := by have h := bl_pos C (by have := H0.out.2.2 trivial; omega); rw [Hbc.out] at h; exact decide_eq_true (by omega)
  have hbc4 : decide (0 < bc) = true := by have h := bl_pos C (by have := H0.out.2.2 trivial; omega); rw [Hbc.out] at h; exact decide_eq_true (by omega)
  have Cc := vbits c _ _ w11 Hc.out (by decide)
  rw [Hbc.out] at Cc
  go_wp2_with fail
  refine Cc.mono ?_
  clear Cc
  rintro e w11 ⟨rfl, rfl⟩
  have Cc := vbits c _ _ w11 Hc.out (by decide)
  rw [Hbc.out] at Cc
  go_wp2_with fail
  refine Cc.mono ?_
  clear Cc
  rintro e w11 ⟨rfl, rfl⟩
  have Cc := vsub b a _ _ _ _ w11 Hb.out Ha.out (by decide) (by decide)
  rw [decide_eq_false (show ¬ A ≤ B by have := H0.out.1 trivial; omega)] at Cc
  go_wp2_with fail
  refine Cc.mono ?_
  clear Cc
  rintro e w12 ⟨d, rfl, hnew⟩
  have hbel := hnew.2.2
  replace Ha : Hid (Vl w12 a (A) (1048576)) := Ha.out.below hbel (Nat.le_refl _)
  replace Hb : Hid (Vl w12 b (B) (1048576)) := Hb.out.below hbel (Nat.le_refl _)
  replace Hc : Hid (Vl w12 c (C) (1048576)) := Hc.out.below hbel (Nat.le_refl _)
  replace Os1 : Hid (Ow w12 0 s1 (dg Bs (A + C)) ∧ (dg Bs (A + C)).length ≤ 1048576 + 1048576 + 1) := ⟨Os1.out.1.below hbel (Nat.le_refl _), Os1.out.2⟩
  replace Os2 : Hid (Ow w12 0 s2 (dg Bs (B + C)) ∧ (dg Bs (B + C)).length ≤ 1048576 + 1048576 + 1) := ⟨Os2.out.1.below hbel (Nat.le_refl _), Os2.out.2⟩
  replace Op1 : Hid (Ow w12 0 p1 (dg Bs (A * C)) ∧ (dg Bs (A * C)).length ≤ 1048576 + 1048576) := ⟨Op1.out.1.below hbel (Nat.le_refl _), Op1.out.2⟩
  replace Op2 : Hid (Ow w12 0 p2 (dg Bs (B * C)) ∧ (dg Bs (B * C)).length ≤ 1048576 + 1048576) := ⟨Op2.out.1.below hbel (Nat.le_refl _), Op2.out.2⟩
  replace HB : Hid (Below w.heap.size w w12) := HB.out.trans (hbel.mono HB.out.size)
  have Od : Hid (Ow w12 0 d (dg Bs (B - A)) ∧ (dg Bs (B - A)).length ≤ 1048576) := ⟨hnew.1.base (Nat.zero_le _), hnew.2.1⟩
  clear hnew hbel
  go_wp2_with fail
  have hbel := alloc_below w12 (.cells #[.int .u32 1] 36)
  have hlit := vlit w12 [1] (by decide)
  rw [show (([1] : List Nat).map U).toArray = #[.int .u32 1] from rfl] at hlit
  generalize hw2 : w12.alloc (.cells #[.int .u32 1] 36) = w13 at hbel hlit ⊢
  replace Ha : Hid (Vl w13 a (A) (1048576)) := Ha.out.below hbel (Nat.le_refl _)
  replace Hb : Hid (Vl w13 b (B) (1048576)) := Hb.out.below hbel (Nat.le_refl _)
  replace Hc : Hid (Vl w13 c (C) (1048576)) := Hc.out.below hbel (Nat.le_refl _)
  replace Os1 : Hid (Ow w13 0 s1 (dg Bs (A + C)) ∧ (dg Bs (A + C)).length ≤ 1048576 + 1048576 + 1) := ⟨Os1.out.1.below hbel (Nat.le_refl _), Os1.out.2⟩
  replace Os2 : Hid (Ow w13 0 s2 (dg Bs (B + C)) ∧ (dg Bs (B + C)).length ≤ 1048576 + 1048576 + 1) := ⟨Os2.out.1.below hbel (Nat.le_refl _), Os2.out.2⟩
  replace Op1 : Hid (Ow w13 0 p1 (dg Bs (A * C)) ∧ (dg Bs (A * C)).length ≤ 1048576 + 1048576) := ⟨Op1.out.1.below hbel (Nat.le_refl _), Op1.out.2⟩
  replace Op2 : Hid (Ow w13 0 p2 (dg Bs (B * C)) ∧ (dg Bs (B * C)).length ≤ 1048576 + 1048576) := ⟨Op2.out.1.below hbel (Nat.le_refl _), Op2.out.2⟩
  replace Od : Hid (Ow w13 0 d (dg Bs (B - A)) ∧ (dg Bs (B - A)).length ≤ 1048576) := ⟨Od.out.1.below hbel (Nat.le_refl _), Od.out.2⟩
  replace HB : Hid (Below w.heap.size w w13) := HB.out.trans (hbel.mono HB.out.size)
  clear hbel hw2
  have hl1 : nv Bs [1] = 1 := by simp [nv]
  rw [hl1] at hlit
  clear hl1
  have Cc := vadd a _ _ _ _ _ w13 Ha.out hlit (by decide) (by decide)
  clear hlit
  refine Cc.mono ?_
  clear Cc
  rintro e w14 ⟨nx, rfl, hnew⟩
  have hbel := hnew.2.2
  replace Ha : Hid (Vl w14 a (A) (1048576)) := Ha.out.below hbel (Nat.le_refl _)
  replace Hb : Hid (Vl w14 b (B) (1048576)) := Hb.out.below hbel (Nat.le_refl _)
  replace Hc : Hid (Vl w14 c (C) (1048576)) := Hc.out.below hbel (Nat.le_refl _)
  replace Os1 : Hid (Ow w14 0 s1 (dg Bs (A + C)) ∧ (dg Bs (A + C)).length ≤ 1048576 + 1048576 + 1) := ⟨Os1.out.1.below hbel (Nat.le_refl _), Os1.out.2⟩
  replace Os2 : Hid (Ow w14 0 s2 (dg Bs (B + C)) ∧ (dg Bs (B + C)).length ≤ 1048576 + 1048576 + 1) := ⟨Os2.out.1.below hbel (Nat.le_refl _), Os2.out.2⟩
  replace Op1 : Hid (Ow w14 0 p1 (dg Bs (A * C)) ∧ (dg Bs (A * C)).length ≤ 1048576 + 1048576) := ⟨Op1.out.1.below hbel (Nat.le_refl _), Op1.out.2⟩
  replace Op2 : Hid (Ow w14 0 p2 (dg Bs (B * C)) ∧ (dg Bs (B * C)).length ≤ 1048576 + 1048576) := ⟨Op2.out.1.below hbel (Nat.le_refl _), Op2.out.2⟩
  replace Od : Hid (Ow w14 0 d (dg Bs (B - A)) ∧ (dg Bs (B - A)).length ≤ 1048576) := ⟨Od.out.1.below hbel (Nat.le_refl _), Od.out.2⟩
  replace HB : Hid (Below w.heap.size w w14) := HB.out.trans (hbel.mono HB.out.size)
  have Onx : Hid (Ow w14 0 nx (dg Bs (A + 1)) ∧ (dg Bs (A + 1)).length ≤ 1048576 + 1 + 1) := ⟨hnew.1.base (Nat.zero_le _), hnew.2.1⟩
  clear hnew hbel
  have Cc := vcmp nx a _ _ _ _ w14 (Onx.out.1.vl Onx.out.2) Ha.out (by decide) (by decide)
  rw [show cmp3 ((A + 1 : Nat) : Int) ((A : Nat) : Int) = 1 from cmp3_gt (by omega)] at Cc
  go_wp2_with fail
  refine Cc.mono ?_
  clear Cc
  rintro e w15 ⟨rfl, qq, hq⟩
  replace Ha : Hid (Vl w15 a (A) (1048576)) := by rw [hq]; exact Ha.out.drewN qq
  replace Hb : Hid (Vl w15 b (B) (1048576)) := by rw [hq]; exact Hb.out.drewN qq
  replace Hc : Hid (Vl w15 c (C) (1048576)) := by rw [hq]; exact Hc.out.drewN qq
  replace Os1 : Hid (Ow w15 0 s1 (dg Bs (A + C)) ∧ (dg Bs (A + C)).length ≤ 1048576 + 1048576 + 1) := by rw [hq]; exact ⟨Os1.out.1.drewN qq, Os1.out.2⟩
  replace Os2 : Hid (Ow w15 0 s2 (dg Bs (B + C)) ∧ (dg Bs (B + C)).length ≤ 1048576 + 1048576 + 1) := by rw [hq]; exact ⟨Os2.out.1.drewN qq, Os2.out.2⟩
  replace Op1 : Hid (Ow w15 0 p1 (dg Bs (A * C)) ∧ (dg Bs (A * C)).length ≤ 1048576 + 1048576) := by rw [hq]; exact ⟨Op1.out.1.drewN qq, Op1.out.2⟩
  replace Op2 : Hid (Ow w15 0 p2 (dg Bs (B * C)) ∧ (dg Bs (B * C)).length ≤ 1048576 + 1048576) := by rw [hq]; exact ⟨Op2.out.1.drewN qq, Op2.out.2⟩
  replace Od : Hid (Ow w15 0 d (dg Bs (B - A)) ∧ (dg Bs (B - A)).length ≤ 1048576) := by rw [hq]; exact ⟨Od.out.1.drewN qq, Od.out.2⟩
  replace Onx : Hid (Ow w15 0 nx (dg Bs (A + 1)) ∧ (dg Bs (A + 1)).length ≤ 1048576 + 1 + 1) := by rw [hq]; exact ⟨Onx.out.1.drewN qq, Onx.out.2⟩
  replace HB : Hid (Below w.heap.size w w15) := by rw [hq]; exact below_drewN HB.out qq
  clear hq
  go_wp2
  go_ret
  exact ⟨rfl, HB.out⟩

end Go.Proofs.Ytkkcmfkegbdgjaa
