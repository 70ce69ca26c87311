import Derived.Test.YtkkcmfkegbdgjaaDvLaw
namespace Go.Proofs.Ytkkcmfkegbdgjaa
open Go.RowKit

set_option maxHeartbeats 4000000 in
theorem ring_ge (a b c : Value) (A B C : Nat) (w : World) (ha : Vl w a A 1048576) (hb : Vl w b B 1048576) (hc : Vl w c C 1048576) (h0 : B ≤ A) :
    Calls Try.prog 6 #[a, b, c] w fun e w' => e = .returned (.bool true) ∧ Below w.heap.size w w' := by
  have H0 : Hid (B ≤ A) := h0
  clear h0
  have Ha : Hid (Vl w a A 1048576) := ha
  have Hb : Hid (Vl w b B 1048576) := hb
  have Hc : Hid (Vl w c C 1048576) := hc
  have HB : Hid (Below w.heap.size w w) := Below.refl _ _
  clear ha hb hc
  go_enter Try.func6, Try.ntmps6
  go_wp2_with fail
  refine (alive_any w).mono ?_
  rintro e w1 ⟨rfl, hbel⟩
  replace Ha : Hid (Vl w1 a (A) (1048576)) := Ha.out.below hbel (Nat.le_refl _)
  replace Hb : Hid (Vl w1 b (B) (1048576)) := Hb.out.below hbel (Nat.le_refl _)
  replace Hc : Hid (Vl w1 c (C) (1048576)) := Hc.out.below hbel (Nat.le_refl _)
  replace HB : Hid (Below w.heap.size w w1) := HB.out.trans (hbel.mono HB.out.size)
  clear hbel
  have Cc := vadd a b _ _ _ _ w1 Ha.out Hb.out (by decide) (by decide)
  go_wp2_with fail
  refine Cc.mono ?_
  clear Cc
  rintro e w2 ⟨s, rfl, hnew⟩
  have hbel := hnew.2.2
  replace Ha : Hid (Vl w2 a (A) (1048576)) := Ha.out.below hbel (Nat.le_refl _)
  replace Hb : Hid (Vl w2 b (B) (1048576)) := Hb.out.below hbel (Nat.le_refl _)
  replace Hc : Hid (Vl w2 c (C) (1048576)) := Hc.out.below hbel (Nat.le_refl _)
  replace HB : Hid (Below w.heap.size w w2) := HB.out.trans (hbel.mono HB.out.size)
  have Os : Hid (Ow w2 0 s (dg Bs (A + B)) ∧ (dg Bs (A + B)).length ≤ 1048576 + 1048576 + 1) := ⟨hnew.1.base (Nat.zero_le _), hnew.2.1⟩
  clear hnew hbel
  have Cc := vmul a b _ _ _ _ w2 Ha.out Hb.out (by decide) (by decide)
  go_wp2_with fail
  refine Cc.mono ?_
  clear Cc
  rintro e w3 ⟨p, rfl, hnew⟩
  have hbel := hnew.2.2
  replace Ha : Hid (Vl w3 a (A) (1048576)) := Ha.out.below hbel (Nat.le_refl _)
  replace Hb : Hid (Vl w3 b (B) (1048576)) := Hb.out.below hbel (Nat.le_refl _)
  replace Hc : Hid (Vl w3 c (C) (1048576)) := Hc.out.below hbel (Nat.le_refl _)
  replace Os : Hid (Ow w3 0 s (dg Bs (A + B)) ∧ (dg Bs (A + B)).length ≤ 1048576 + 1048576 + 1) := ⟨Os.out.1.below hbel (Nat.le_refl _), Os.out.2⟩
  replace HB : Hid (Below w.heap.size w w3) := HB.out.trans (hbel.mono HB.out.size)
  have Op : Hid (Ow w3 0 p (dg Bs (A * B)) ∧ (dg Bs (A * B)).length ≤ 1048576 + 1048576) := ⟨hnew.1.base (Nat.zero_le _), hnew.2.1⟩
  clear hnew hbel
  have Cc := vadd s c _ _ _ _ w3 (Os.out.1.vl Os.out.2) Hc.out (by decide) (by decide)
  go_wp2_with fail
  refine Cc.mono ?_
  clear Cc
  rintro e w4 ⟨t, rfl, hnew⟩
  have hbel := hnew.2.2
  replace Ha : Hid (Vl w4 a (A) (1048576)) := Ha.out.below hbel (Nat.le_refl _)
  replace Hb : Hid (Vl w4 b (B) (1048576)) := Hb.out.below hbel (Nat.le_refl _)
  replace Hc : Hid (Vl w4 c (C) (1048576)) := Hc.out.below hbel (Nat.le_refl _)
  replace Os : Hid (Ow w4 0 s (dg Bs (A + B)) ∧ (dg Bs (A + B)).length ≤ 1048576 + 1048576 + 1) := ⟨Os.out.1.below hbel (Nat.le_refl _), Os.out.2⟩
  replace Op : Hid (Ow w4 0 p (dg Bs (A * B)) ∧ (dg Bs (A * B)).length ≤ 1048576 + 1048576) := ⟨Op.out.1.below hbel (Nat.le_refl _), Op.out.2⟩
  replace HB : Hid (Below w.heap.size w w4) := HB.out.trans (hbel.mono HB.out.size)
  have Ot : Hid (Ow w4 0 t (dg Bs (A + B + C)) ∧ (dg Bs (A + B + C)).length ≤ 1048576 + 1048576 + 1 + 1048576 + 1) := ⟨hnew.1.base (Nat.zero_le _), hnew.2.1⟩
  clear hnew hbel
  have Cc := vmul p c _ _ _ _ w4 (Op.out.1.vl Op.out.2) Hc.out (by decide) (by decide)
  go_wp2_with fail
  refine Cc.mono ?_
  clear Cc
  rintro e w5 ⟨q, rfl, hnew⟩
  have hbel := hnew.2.2
  replace Ha : Hid (Vl w5 a (A) (1048576)) := Ha.out.below hbel (Nat.le_refl _)
  replace Hb : Hid (Vl w5 b (B) (1048576)) := Hb.out.below hbel (Nat.le_refl _)
  replace Hc : Hid (Vl w5 c (C) (1048576)) := Hc.out.below hbel (Nat.le_refl _)
  replace Os : Hid (Ow w5 0 s (dg Bs (A + B)) ∧ (dg Bs (A + B)).length ≤ 1048576 + 1048576 + 1) := ⟨Os.out.1.below hbel (Nat.le_refl _), Os.out.2⟩
  replace Op : Hid (Ow w5 0 p (dg Bs (A * B)) ∧ (dg Bs (A * B)).length ≤ 1048576 + 1048576) := ⟨Op.out.1.below hbel (Nat.le_refl _), Op.out.2⟩
  replace Ot : Hid (Ow w5 0 t (dg Bs (A + B + C)) ∧ (dg Bs (A + B + C)).length ≤ 1048576 + 1048576 + 1 + 1048576 + 1) := ⟨Ot.out.1.below hbel (Nat.le_refl _), Ot.out.2⟩
  replace HB : Hid (Below w.heap.size w w5) := HB.out.trans (hbel.mono HB.out.size)
  have Oq : Hid (Ow w5 0 q (dg Bs (A * B * C)) ∧ (dg Bs (A * B * C)).length ≤ 1048576 + 1048576 + 1048576) := ⟨hnew.1.base (Nat.zero_le _), hnew.2.1⟩
  clear hnew hbel
  have Cc := vadd b a _ _ _ _ w5 Hb.out Ha.out (by decide) (by decide)
  rw [Nat.add_comm B A] at Cc
  go_wp2_with fail
  refine Cc.mono ?_
  clear Cc
  rintro e w6 ⟨s2, rfl, hnew⟩
  have hbel := hnew.2.2
  replace Ha : Hid (Vl w6 a (A) (1048576)) := Ha.out.below hbel (Nat.le_refl _)
  replace Hb : Hid (Vl w6 b (B) (1048576)) := Hb.out.below hbel (Nat.le_refl _)
  replace Hc : Hid (Vl w6 c (C) (1048576)) := Hc.out.below hbel (Nat.le_refl _)
  replace Os : Hid (Ow w6 0 s (dg Bs (A + B)) ∧ (dg Bs (A + B)).length ≤ 1048576 + 1048576 + 1) := ⟨Os.out.1.below hbel (Nat.le_refl _), Os.out.2⟩
  replace Op : Hid (Ow w6 0 p (dg Bs (A * B)) ∧ (dg Bs (A * B)).length ≤ 1048576 + 1048576) := ⟨Op.out.1.below hbel (Nat.le_refl _), Op.out.2⟩
  replace Ot : Hid (Ow w6 0 t (dg Bs (A + B + C)) ∧ (dg Bs (A + B + C)).length ≤ 1048576 + 1048576 + 1 + 1048576 + 1) := ⟨Ot.out.1.below hbel (Nat.le_refl _), Ot.out.2⟩
  replace Oq : Hid (Ow w6 0 q (dg Bs (A * B * C)) ∧ (dg Bs (A * B * C)).length ≤ 1048576 + 1048576 + 1048576) := ⟨Oq.out.1.below hbel (Nat.le_refl _), Oq.out.2⟩
  replace HB : Hid (Below w.heap.size w w6) := HB.out.trans (hbel.mono HB.out.size)
  have Os2 : Hid (Ow w6 0 s2 (dg Bs (A + B)) ∧ (dg Bs (A + B)).length ≤ 1048576 + 1048576 + 1) := ⟨hnew.1.base (Nat.zero_le _), hnew.2.1⟩
  clear hnew hbel
  have Cc := vsame s s2 (A + B) w6 0 0 Os.out.1 (by have h := Os2.out.1; exact h) (Nat.le_trans Os.out.2 (by decide))
  go_wp2_with fail
  refine Cc.mono ?_
  clear Cc
  rintro e w7 ⟨rfl, qq, hq⟩
  replace Ha : Hid (Vl w7 a (A) (1048576)) := by rw [hq]; exact Ha.out.drewN qq
  replace Hb : Hid (Vl w7 b (B) (1048576)) := by rw [hq]; exact Hb.out.drewN qq
  replace Hc : Hid (Vl w7 c (C) (1048576)) := by rw [hq]; exact Hc.out.drewN qq
  replace Os : Hid (Ow w7 0 s (dg Bs (A + B)) ∧ (dg Bs (A + B)).length ≤ 1048576 + 1048576 + 1) := by rw [hq]; exact ⟨Os.out.1.drewN qq, Os.out.2⟩
  replace Op : Hid (Ow w7 0 p (dg Bs (A * B)) ∧ (dg Bs (A * B)).length ≤ 1048576 + 1048576) := by rw [hq]; exact ⟨Op.out.1.drewN qq, Op.out.2⟩
  replace Ot : Hid (Ow w7 0 t (dg Bs (A + B + C)) ∧ (dg Bs (A + B + C)).length ≤ 1048576 + 1048576 + 1 + 1048576 + 1) := by rw [hq]; exact ⟨Ot.out.1.drewN qq, Ot.out.2⟩
  replace Oq : Hid (Ow w7 0 q (dg Bs (A * B * C)) ∧ (dg Bs (A * B * C)).length ≤ 1048576 + 1048576 + 1048576) := by rw [hq]; exact ⟨Oq.out.1.drewN qq, Oq.out.2⟩
  replace Os2 : Hid (Ow w7 0 s2 (dg Bs (A + B)) ∧ (dg Bs (A + B)).length ≤ 1048576 + 1048576 + 1) := by rw [hq]; exact ⟨Os2.out.1.drewN qq, Os2.out.2⟩
  replace HB : Hid (Below w.heap.size w w7) := by rw [hq]; exact below_drewN HB.out qq
  clear hq
  have Cc := vmul b a _ _ _ _ w7 Hb.out Ha.out (by decide) (by decide)
  rw [Nat.mul_comm B A] at Cc
  go_wp2_with fail
  refine Cc.mono ?_
  clear Cc
  rintro e w8 ⟨p2, rfl, hnew⟩
  have hbel := hnew.2.2
  replace Ha : Hid (Vl w8 a (A) (1048576)) := Ha.out.below hbel (Nat.le_refl _)
  replace Hb : Hid (Vl w8 b (B) (1048576)) := Hb.out.below hbel (Nat.le_refl _)
  replace Hc : Hid (Vl w8 c (C) (1048576)) := Hc.out.below hbel (Nat.le_refl _)
  replace Os : Hid (Ow w8 0 s (dg Bs (A + B)) ∧ (dg Bs (A + B)).length ≤ 1048576 + 1048576 + 1) := ⟨Os.out.1.below hbel (Nat.le_refl _), Os.out.2⟩
  replace Op : Hid (Ow w8 0 p (dg Bs (A * B)) ∧ (dg Bs (A * B)).length ≤ 1048576 + 1048576) := ⟨Op.out.1.below hbel (Nat.le_refl _), Op.out.2⟩
  replace Ot : Hid (Ow w8 0 t (dg Bs (A + B + C)) ∧ (dg Bs (A + B + C)).length ≤ 1048576 + 1048576 + 1 + 1048576 + 1) := ⟨Ot.out.1.below hbel (Nat.le_refl _), Ot.out.2⟩
  replace Oq : Hid (Ow w8 0 q (dg Bs (A * B * C)) ∧ (dg Bs (A * B * C)).length ≤ 1048576 + 1048576 + 1048576) := ⟨Oq.out.1.below hbel (Nat.le_refl _), Oq.out.2⟩
  replace Os2 : Hid (Ow w8 0 s2 (dg Bs (A + B)) ∧ (dg Bs (A + B)).length ≤ 1048576 + 1048576 + 1) := ⟨Os2.out.1.below hbel (Nat.le_refl _), Os2.out.2⟩
  replace HB : Hid (Below w.heap.size w w8) := HB.out.trans (hbel.mono HB.out.size)
  have Op2 : Hid (Ow w8 0 p2 (dg Bs (A * B)) ∧ (dg Bs (A * B)).length ≤ 1048576 + 1048576) := ⟨hnew.1.base (Nat.zero_le _), hnew.2.1⟩
  clear hnew hbel
  have Cc := vsame p p2 (A * B) w8 0 0 Op.out.1 (by have h := Op2.out.1; exact h) (Nat.le_trans Op.out.2 (by decide))
  go_wp2_with fail
  refine Cc.mono ?_
  clear Cc
  rintro e w9 ⟨rfl, qq, hq⟩
  replace Ha : Hid (Vl w9 a (A) (1048576)) := by rw [hq]; exact Ha.out.drewN qq
  replace Hb : Hid (Vl w9 b (B) (1048576)) := by rw [hq]; exact Hb.out.drewN qq
  replace Hc : Hid (Vl w9 c (C) (1048576)) := by rw [hq]; exact Hc.out.drewN qq
  replace Os : Hid (Ow w9 0 s (dg Bs (A + B)) ∧ (dg Bs (A + B)).length ≤ 1048576 + 1048576 + 1) := by rw [hq]; exact ⟨Os.out.1.drewN qq, Os.out.2⟩
  replace Op : Hid (Ow w9 0 p (dg Bs (A * B)) ∧ (dg Bs (A * B)).length ≤ 1048576 + 1048576) := by rw [hq]; exact ⟨Op.out.1.drewN qq, Op.out.2⟩
  replace Ot : Hid (Ow w9 0 t (dg Bs (A + B + C)) ∧ (dg Bs (A + B + C)).length ≤ 1048576 + 1048576 + 1 + 1048576 + 1) := by rw [hq]; exact ⟨Ot.out.1.drewN qq, Ot.out.2⟩
  replace Oq : Hid (Ow w9 0 q (dg Bs (A * B * C)) ∧ (dg Bs (A * B * C)).length ≤ 1048576 + 1048576 + 1048576) := by rw [hq]; exact ⟨Oq.out.1.drewN qq, Oq.out.2⟩
  replace Os2 : Hid (Ow w9 0 s2 (dg Bs (A + B)) ∧ (dg Bs (A + B)).length ≤ 1048576 + 1048576 + 1) := by rw [hq]; exact ⟨Os2.out.1.drewN qq, Os2.out.2⟩
  replace Op2 : Hid (Ow w9 0 p2 (dg Bs (A * B)) ∧ (dg Bs (A * B)).length ≤ 1048576 + 1048576) := by rw [hq]; exact ⟨Op2.out.1.drewN qq, Op2.out.2⟩
  replace HB : Hid (Below w.heap.size w w9) := by rw [hq]; exact below_drewN HB.out qq
  clear hq
  have Cc := vadd b c _ _ _ _ w9 Hb.out Hc.out (by decide) (by decide)
  go_wp2_with fail
  refine Cc.mono ?_
  clear Cc
  rintro e w10 ⟨t1, rfl, hnew⟩
  have hbel := hnew.2.2
  replace Ha : Hid (Vl w10 a (A) (1048576)) := Ha.out.below hbel (Nat.le_refl _)
  replace Hb : Hid (Vl w10 b (B) (1048576)) := Hb.out.below hbel (Nat.le_refl _)
  replace Hc : Hid (Vl w10 c (C) (1048576)) := Hc.out.below hbel (Nat.le_refl _)
  replace Os : Hid (Ow w10 0 s (dg Bs (A + B)) ∧ (dg Bs (A + B)).length ≤ 1048576 + 1048576 + 1) := ⟨Os.out.1.below hbel (Nat.le_refl _), Os.out.2⟩
  replace Op : Hid (Ow w10 0 p (dg Bs (A * B)) ∧ (dg Bs (A * B)).length ≤ 1048576 + 1048576) := ⟨Op.out.1.below hbel (Nat.le_refl _), Op.out.2⟩
  replace Ot : Hid (Ow w10 0 t (dg Bs (A + B + C)) ∧ (dg Bs (A + B + C)).length ≤ 1048576 + 1048576 + 1 + 1048576 + 1) := ⟨Ot.out.1.below hbel (Nat.le_refl _), Ot.out.2⟩
  replace Oq : Hid (Ow w10 0 q (dg Bs (A * B * C)) ∧ (dg Bs (A * B * C)).length ≤ 1048576 + 1048576 + 1048576) := ⟨Oq.out.1.below hbel (Nat.le_refl _), Oq.out.2⟩
  replace Os2 : Hid (Ow w10 0 s2 (dg Bs (A + B)) ∧ (dg Bs (A + B)).length ≤ 1048576 + 1048576 + 1) := ⟨Os2.out.1.below hbel (Nat.le_refl _), Os2.out.2⟩
  replace Op2 : Hid (Ow w10 0 p2 (dg Bs (A * B)) ∧ (dg Bs (A * B)).length ≤ 1048576 + 1048576) := ⟨Op2.out.1.below hbel (Nat.le_refl _), Op2.out.2⟩
  replace HB : Hid (Below w.heap.size w w10) := HB.out.trans (hbel.mono HB.out.size)
  have Ot1 : Hid (Ow w10 0 t1 (dg Bs (B + C)) ∧ (dg Bs (B + C)).length ≤ 1048576 + 1048576 + 1) := ⟨hnew.1.base (Nat.zero_le _), hnew.2.1⟩
  clear hnew hbel
  have Cc := vadd a t1 _ _ _ _ w10 Ha.out (Ot1.out.1.vl Ot1.out.2) (by decide) (by decide)
  rw [← Nat.add_assoc A B C] at Cc
  go_wp2_with fail
  refine Cc.mono ?_
  clear Cc
  rintro e w11 ⟨t2, rfl, hnew⟩
  have hbel := hnew.2.2
  replace Ha : Hid (Vl w11 a (A) (1048576)) := Ha.out.below hbel (Nat.le_refl _)
  replace Hb : Hid (Vl w11 b (B) (1048576)) := Hb.out.below hbel (Nat.le_refl _)
  replace Hc : Hid (Vl w11 c (C) (1048576)) := Hc.out.below hbel (Nat.le_refl _)
  replace Os : Hid (Ow w11 0 s (dg Bs (A + B)) ∧ (dg Bs (A + B)).length ≤ 1048576 + 1048576 + 1) := ⟨Os.out.1.below hbel (Nat.le_refl _), Os.out.2⟩
  replace Op : Hid (Ow w11 0 p (dg Bs (A * B)) ∧ (dg Bs (A * B)).length ≤ 1048576 + 1048576) := ⟨Op.out.1.below hbel (Nat.le_refl _), Op.out.2⟩
  replace Ot : Hid (Ow w11 0 t (dg Bs (A + B + C)) ∧ (dg Bs (A + B + C)).length ≤ 1048576 + 1048576 + 1 + 1048576 + 1) := ⟨Ot.out.1.below hbel (Nat.le_refl _), Ot.out.2⟩
  replace Oq : Hid (Ow w11 0 q (dg Bs (A * B * C)) ∧ (dg Bs (A * B * C)).length ≤ 1048576 + 1048576 + 1048576) := ⟨Oq.out.1.below hbel (Nat.le_refl _), Oq.out.2⟩
  replace Os2 : Hid (Ow w11 0 s2 (dg Bs (A + B)) ∧ (dg Bs (A + B)).length ≤ 1048576 + 1048576 + 1) := ⟨Os2.out.1.below hbel (Nat.le_refl _), Os2.out.2⟩
  replace Op2 : Hid (Ow w11 0 p2 (dg Bs (A * B)) ∧ (dg Bs (A * B)).length ≤ 1048576 + 1048576) := ⟨Op2.out.1.below hbel (Nat.le_refl _), Op2.out.2⟩
  replace Ot1 : Hid (Ow w11 0 t1 (dg Bs (B + C)) ∧ (dg Bs (B + C)).length ≤ 1048576 + 1048576 + 1) := ⟨Ot1.out.1.below hbel (Nat.le_refl _), Ot1.out.2⟩
  replace HB : Hid (Below w.heap.size w w11) := HB.out.trans (hbel.mono HB.out.size)
  have Ot2 : Hid (Ow w11 0 t2 (dg Bs (A + B + C)) ∧ (dg Bs (A + B + C)).length ≤ 1048576 + (1048576 + 1048576 + 1) + 1) := ⟨hnew.1.base (Nat.zero_le _), hnew.2.1⟩
  clear hnew hbel
  have Cc := vsame t t2 (A + B + C) w11 0 0 Ot.out.1 (by have h := Ot2.out.1; exact h) (Nat.le_trans Ot.out.2 (by decide))
  go_wp2_with fail
  refine Cc.mono ?_
  clear Cc
  rintro e w12 ⟨rfl, qq, hq⟩
  replace Ha : Hid (Vl w12 a (A) (1048576)) := by rw [hq]; exact Ha.out.drewN qq
  replace Hb : Hid (Vl w12 b (B) (1048576)) := by rw [hq]; exact Hb.out.drewN qq
  replace Hc : Hid (Vl w12 c (C) (1048576)) := by rw [hq]; exact Hc.out.drewN qq
  replace Os : Hid (Ow w12 0 s (dg Bs (A + B)) ∧ (dg Bs (A + B)).length ≤ 1048576 + 1048576 + 1) := by rw [hq]; exact ⟨Os.out.1.drewN qq, Os.out.2⟩
  replace Op : Hid (Ow w12 0 p (dg Bs (A * B)) ∧ (dg Bs (A * B)).length ≤ 1048576 + 1048576) := by rw [hq]; exact ⟨Op.out.1.drewN qq, Op.out.2⟩
  replace Ot : Hid (Ow w12 0 t (dg Bs (A + B + C)) ∧ (dg Bs (A + B + C)).length ≤ 1048576 + 1048576 + 1 + 1048576 + 1) := by rw [hq]; exact ⟨Ot.out.1.drewN qq, Ot.out.2⟩
  replace Oq : Hid (Ow w12 0 q (dg Bs (A * B * C)) ∧ (dg Bs (A * B * C)).length ≤ 1048576 + 1048576 + 1048576) := by rw [hq]; exact ⟨Oq.out.1.drewN qq, Oq.out.2⟩
  replace Os2 : Hid (Ow w12 0 s2 (dg Bs (A + B)) ∧ (dg Bs (A + B)).length ≤ 1048576 + 1048576 + 1) := by rw [hq]; exact ⟨Os2.out.1.drewN qq, Os2.out.2⟩
  replace Op2 : Hid (Ow w12 0 p2 (dg Bs (A * B)) ∧ (dg Bs (A * B)).length ≤ 1048576 + 1048576) := by rw [hq]; exact ⟨Op2.out.1.drewN qq, Op2.out.2⟩
  replace Ot1 : Hid (Ow w12 0 t1 (dg Bs (B + C)) ∧ (dg Bs (B + C)).length ≤ 1048576 + 1048576 + 1) := by rw [hq]; exact ⟨Ot1.out.1.drewN qq, Ot1.out.2⟩
  replace Ot2 : Hid (Ow w12 0 t2 (dg Bs (A + B + C)) ∧ (dg Bs (A + B + C)).length ≤ 1048576 + (1048576 + 1048576 + 1) + 1) := by rw [hq]; exact ⟨Ot2.out.1.drewN qq, Ot2.out.2⟩
  replace HB : Hid (Below w.heap.size w w12) := by rw [hq]; exact below_drewN HB.out qq
  clear hq
  have Cc := vmul b c _ _ _ _ w12 Hb.out Hc.out (by decide) (by decide)
  go_wp2_with fail
  refine Cc.mono ?_
  clear Cc
  rintro e w13 ⟨q1, rfl, hnew⟩
  have hbel := hnew.2.2
  replace Ha : Hid (Vl w13 a (A) (1048576)) := Ha.out.below hbel (Nat.le_refl _)
  replace Hb : Hid (Vl w13 b (B) (1048576)) := Hb.out.below hbel (Nat.le_refl _)
  replace Hc : Hid (Vl w13 c (C) (1048576)) := Hc.out.below hbel (Nat.le_refl _)
  replace Os : Hid (Ow w13 0 s (dg Bs (A + B)) ∧ (dg Bs (A + B)).length ≤ 1048576 + 1048576 + 1) := ⟨Os.out.1.below hbel (Nat.le_refl _), Os.out.2⟩
  replace Op : Hid (Ow w13 0 p (dg Bs (A * B)) ∧ (dg Bs (A * B)).length ≤ 1048576 + 1048576) := ⟨Op.out.1.below hbel (Nat.le_refl _), Op.out.2⟩
  replace Ot : Hid (Ow w13 0 t (dg Bs (A + B + C)) ∧ (dg Bs (A + B + C)).length ≤ 1048576 + 1048576 + 1 + 1048576 + 1) := ⟨Ot.out.1.below hbel (Nat.le_refl _), Ot.out.2⟩
  replace Oq : Hid (Ow w13 0 q (dg Bs (A * B * C)) ∧ (dg Bs (A * B * C)).length ≤ 1048576 + 1048576 + 1048576) := ⟨Oq.out.1.below hbel (Nat.le_refl _), Oq.out.2⟩
  replace Os2 : Hid (Ow w13 0 s2 (dg Bs (A + B)) ∧ (dg Bs (A + B)).length ≤ 1048576 + 1048576 + 1) := ⟨Os2.out.1.below hbel (Nat.le_refl _), Os2.out.2⟩
  replace Op2 : Hid (Ow w13 0 p2 (dg Bs (A * B)) ∧ (dg Bs (A * B)).length ≤ 1048576 + 1048576) := ⟨Op2.out.1.below hbel (Nat.le_refl _), Op2.out.2⟩
  replace Ot1 : Hid (Ow w13 0 t1 (dg Bs (B + C)) ∧ (dg Bs (B + C)).length ≤ 1048576 + 1048576 + 1) := ⟨Ot1.out.1.below hbel (Nat.le_refl _), Ot1.out.2⟩
  replace Ot2 : Hid (Ow w13 0 t2 (dg Bs (A + B + C)) ∧ (dg Bs (A + B + C)).length ≤ 1048576 + (1048576 + 1048576 + 1) + 1) := ⟨Ot2.out.1.below hbel (Nat.le_refl _), Ot2.out.2⟩
  replace HB : Hid (Below w.heap.size w w13) := HB.out.trans (hbel.mono HB.out.size)
  have Oq1 : Hid (Ow w13 0 q1 (dg Bs (B * C)) ∧ (dg Bs (B * C)).length ≤ 1048576 + 1048576) := ⟨hnew.1.base (Nat.zero_le _), hnew.2.1⟩
  clear hnew hbel
  have Cc := vmul a q1 _ _ _ _ w13 Ha.out (Oq1.out.1.vl Oq1.out.2) (by decide) (by decide)
  rw [← Nat.mul_assoc A B C] at Cc
  go_wp2_with fail
  refine Cc.mono ?_
  clear Cc
  rintro e w14 ⟨q2, rfl, hnew⟩
  have hbel := hnew.2.2
  replace Ha : Hid (Vl w14 a (A) (1048576)) := Ha.out.below hbel (Nat.le_refl _)
  replace Hb : Hid (Vl w14 b (B) (1048576)) := Hb.out.below hbel (Nat.le_refl _)
  replace Hc : Hid (Vl w14 c (C) (1048576)) := Hc.out.below hbel (Nat.le_refl _)
  replace Os : Hid (Ow w14 0 s (dg Bs (A + B)) ∧ (dg Bs (A + B)).length ≤ 1048576 + 1048576 + 1) := ⟨Os.out.1.below hbel (Nat.le_refl _), Os.out.2⟩
  replace Op : Hid (Ow w14 0 p (dg Bs (A * B)) ∧ (dg Bs (A * B)).length ≤ 1048576 + 1048576) := ⟨Op.out.1.below hbel (Nat.le_refl _), Op.out.2⟩
  replace Ot : Hid (Ow w14 0 t (dg Bs (A + B + C)) ∧ (dg Bs (A + B + C)).length ≤ 1048576 + 1048576 + 1 + 1048576 + 1) := ⟨Ot.out.1.below hbel (Nat.le_refl _), Ot.out.2⟩
  replace Oq : Hid (Ow w14 0 q (dg Bs (A * B * C)) ∧ (dg Bs (A * B * C)).length ≤ 1048576 + 1048576 + 1048576) := ⟨Oq.out.1.below hbel (Nat.le_refl _), Oq.out.2⟩
  replace Os2 : Hid (Ow w14 0 s2 (dg Bs (A + B)) ∧ (dg Bs (A + B)).length ≤ 1048576 + 1048576 + 1) := ⟨Os2.out.1.below hbel (Nat.le_refl _), Os2.out.2⟩
  replace Op2 : Hid (Ow w14 0 p2 (dg Bs (A * B)) ∧ (dg Bs (A * B)).length ≤ 1048576 + 1048576) := ⟨Op2.out.1.below hbel (Nat.le_refl _), Op2.out.2⟩
  replace Ot1 : Hid (Ow w14 0 t1 (dg Bs (B + C)) ∧ (dg Bs (B + C)).length ≤ 1048576 + 1048576 + 1) := ⟨Ot1.out.1.below hbel (Nat.le_refl _), Ot1.out.2⟩
  replace Ot2 : Hid (Ow w14 0 t2 (dg Bs (A + B + C)) ∧ (dg Bs (A + B + C)).length ≤ 1048576 + (1048576 + 1048576 + 1) + 1) := ⟨Ot2.out.1.below hbel (Nat.le_refl _), Ot2.out.2⟩
  replace Oq1 : Hid (Ow w14 0 q1 (dg Bs (B * C)) ∧ (dg Bs (B * C)).length ≤ 1048576 + 1048576) := ⟨Oq1.out.1.below hbel (Nat.le_refl _), Oq1.out.2⟩
  replace HB : Hid (Below w.heap.size w w14) := HB.out.trans (hbel.mono HB.out.size)
  have Oq2 : Hid (Ow w14 0 q2 (dg Bs (A * B * C)) ∧ (dg Bs (A * B * C)).length ≤ 1048576 + (1048576 + 1048576)) := ⟨hnew.1.base (Nat.zero_le _), hnew.2.1⟩
  clear hnew hbel
  have Cc := vsame q q2 (A * B * C) w14 0 0 Oq.out.1 (by have h := Oq2.out.1; exact h) (Nat.le_trans Oq.out.2 (by decide))
  go_wp2_with fail
  refine Cc.mono ?_
  clear Cc
  rintro e w15 ⟨rfl, qq, hq⟩
  replace Ha : Hid (Vl w15 a (A) (1048576)) := by rw [hq]; exact Ha.out.drewN qq
  replace Hb : Hid (Vl w15 b (B) (1048576)) := by rw [hq]; exact Hb.out.drewN qq
  replace Hc : Hid (Vl w15 c (C) (1048576)) := by rw [hq]; exact Hc.out.drewN qq
  replace Os : Hid (Ow w15 0 s (dg Bs (A + B)) ∧ (dg Bs (A + B)).length ≤ 1048576 + 1048576 + 1) := by rw [hq]; exact ⟨Os.out.1.drewN qq, Os.out.2⟩
  replace Op : Hid (Ow w15 0 p (dg Bs (A * B)) ∧ (dg Bs (A * B)).length ≤ 1048576 + 1048576) := by rw [hq]; exact ⟨Op.out.1.drewN qq, Op.out.2⟩
  replace Ot : Hid (Ow w15 0 t (dg Bs (A + B + C)) ∧ (dg Bs (A + B + C)).length ≤ 1048576 + 1048576 + 1 + 1048576 + 1) := by rw [hq]; exact ⟨Ot.out.1.drewN qq, Ot.out.2⟩
  replace Oq : Hid (Ow w15 0 q (dg Bs (A * B * C)) ∧ (dg Bs (A * B * C)).length ≤ 1048576 + 1048576 + 1048576) := by rw [hq]; exact ⟨Oq.out.1.drewN qq, Oq.out.2⟩
  replace Os2 : Hid (Ow w15 0 s2 (dg Bs (A + B)) ∧ (dg Bs (A + B)).length ≤ 1048576 + 1048576 + 1) := by rw [hq]; exact ⟨Os2.out.1.drewN qq, Os2.out.2⟩
  replace Op2 : Hid (Ow w15 0 p2 (dg Bs (A * B)) ∧ (dg Bs (A * B)).length ≤ 1048576 + 1048576) := by rw [hq]; exact ⟨Op2.out.1.drewN qq, Op2.out.2⟩
  replace Ot1 : Hid (Ow w15 0 t1 (dg Bs (B + C)) ∧ (dg Bs (B + C)).length ≤ 1048576 + 1048576 + 1) := by rw [hq]; exact ⟨Ot1.out.1.drewN qq, Ot1.out.2⟩
  replace Ot2 : Hid (Ow w15 0 t2 (dg Bs (A + B + C)) ∧ (dg Bs (A + B + C)).length ≤ 1048576 + (1048576 + 1048576 + 1) + 1) := by rw [hq]; exact ⟨Ot2.out.1.drewN qq, Ot2.out.2⟩
  replace Oq1 : Hid (Ow w15 0 q1 (dg Bs (B * C)) ∧ (dg Bs (B * C)).length ≤ 1048576 + 1048576) := by rw [hq]; exact ⟨Oq1.out.1.drewN qq, Oq1.out.2⟩
  replace Oq2 : Hid (Ow w15 0 q2 (dg Bs (A * B * C)) ∧ (dg Bs (A * B * C)).length ≤ 1048576 + (1048576 + 1048576)) := by rw [hq]; exact ⟨Oq2.out.1.drewN qq, Oq2.out.2⟩
  replace HB : Hid (Below w.heap.size w w15) := by rw [hq]; exact below_drewN HB.out qq
  clear hq
  have Cc := vadd b c _ _ _ _ w15 Hb.out Hc.out (by decide) (by decide)
  go_wp2_with fail
  refine Cc.mono ?_
  clear Cc
  rintro e w16 ⟨l1, rfl, hnew⟩
  have hbel := hnew.2.2
  replace Ha : Hid (Vl w16 a (A) (1048576)) := Ha.out.below hbel (Nat.le_refl _)
  replace Hb : Hid (Vl w16 b (B) (1048576)) := Hb.out.below hbel (Nat.le_refl _)
  replace Hc : Hid (Vl w16 c (C) (1048576)) := Hc.out.below hbel (Nat.le_refl _)
  replace Os : Hid (Ow w16 0 s (dg Bs (A + B)) ∧ (dg Bs (A + B)).length ≤ 1048576 + 1048576 + 1) := ⟨Os.out.1.below hbel (Nat.le_refl _), Os.out.2⟩
  replace Op : Hid (Ow w16 0 p (dg Bs (A * B)) ∧ (dg Bs (A * B)).length ≤ 1048576 + 1048576) := ⟨Op.out.1.below hbel (Nat.le_refl _), Op.out.2⟩
  replace Ot : Hid (Ow w16 0 t (dg Bs (A + B + C)) ∧ (dg Bs (A + B + C)).length ≤ 1048576 + 1048576 + 1 + 1048576 + 1) := ⟨Ot.out.1.below hbel (Nat.le_refl _), Ot.out.2⟩
  replace Oq : Hid (Ow w16 0 q (dg Bs (A * B * C)) ∧ (dg Bs (A * B * C)).length ≤ 1048576 + 1048576 + 1048576) := ⟨Oq.out.1.below hbel (Nat.le_refl _), Oq.out.2⟩
  replace Os2 : Hid (Ow w16 0 s2 (dg Bs (A + B)) ∧ (dg Bs (A + B)).length ≤ 1048576 + 1048576 + 1) := ⟨Os2.out.1.below hbel (Nat.le_refl _), Os2.out.2⟩
  replace Op2 : Hid (Ow w16 0 p2 (dg Bs (A * B)) ∧ (dg Bs (A * B)).length ≤ 1048576 + 1048576) := ⟨Op2.out.1.below hbel (Nat.le_refl _), Op2.out.2⟩
  replace Ot1 : Hid (Ow w16 0 t1 (dg Bs (B + C)) ∧ (dg Bs (B + C)).length ≤ 1048576 + 1048576 + 1) := ⟨Ot1.out.1.below hbel (Nat.le_refl _), Ot1.out.2⟩
  replace Ot2 : Hid (Ow w16 0 t2 (dg Bs (A + B + C)) ∧ (dg Bs (A + B + C)).length ≤ 1048576 + (1048576 + 1048576 + 1) + 1) := ⟨Ot2.out.1.below hbel (Nat.le_refl _), Ot2.out.2⟩
  replace Oq1 : Hid (Ow w16 0 q1 (dg Bs (B * C)) ∧ (dg Bs (B * C)).length ≤ 1048576 + 1048576) := ⟨Oq1.out.1.below hbel (Nat.le_refl _), Oq1.out.2⟩
  replace Oq2 : Hid (Ow w16 0 q2 (dg Bs (A * B * C)) ∧ (dg Bs (A * B * C)).length ≤ 1048576 + (1048576 + 1048576)) := ⟨Oq2.out.1.below hbel (Nat.le_refl _), Oq2.out.2⟩
  replace HB : Hid (Below w.heap.size w w16) := HB.out.trans (hbel.mono HB.out.size)
  have Ol1 : Hid (Ow w16 0 l1 (dg Bs (B + C)) ∧ (dg Bs (B + C)).length ≤ 1048576 + 1048576 + 1) := ⟨hnew.1.base (Nat.zero_le _), hnew.2.1⟩
  clear hnew hbel
  have Cc := vmul a l1 _ _ _ _ w16 Ha.out (Ol1.out.1.vl Ol1.out.2) (by decide) (by decide)
  rw [Nat.mul_add A B C] at Cc
  go_wp2_with fail
  refine Cc.mono ?_
  clear Cc
  rintro e w17 ⟨left, rfl, hnew⟩
  have hbel := hnew.2.2
  replace Ha : Hid (Vl w17 a (A) (1048576)) := Ha.out.below hbel (Nat.le_refl _)
  replace Hb : Hid (Vl w17 b (B) (1048576)) := Hb.out.below hbel (Nat.le_refl _)
  replace Hc : Hid (Vl w17 c (C) (1048576)) := Hc.out.below hbel (Nat.le_refl _)
  replace Os : Hid (Ow w17 0 s (dg Bs (A + B)) ∧ (dg Bs (A + B)).length ≤ 1048576 + 1048576 + 1) := ⟨Os.out.1.below hbel (Nat.le_refl _), Os.out.2⟩
  replace Op : Hid (Ow w17 0 p (dg Bs (A * B)) ∧ (dg Bs (A * B)).length ≤ 1048576 + 1048576) := ⟨Op.out.1.below hbel (Nat.le_refl _), Op.out.2⟩
  replace Ot : Hid (Ow w17 0 t (dg Bs (A + B + C)) ∧ (dg Bs (A + B + C)).length ≤ 1048576 + 1048576 + 1 + 1048576 + 1) := ⟨Ot.out.1.below hbel (Nat.le_refl _), Ot.out.2⟩
  replace Oq : Hid (Ow w17 0 q (dg Bs (A * B * C)) ∧ (dg Bs (A * B * C)).length ≤ 1048576 + 1048576 + 1048576) := ⟨Oq.out.1.below hbel (Nat.le_refl _), Oq.out.2⟩
  replace Os2 : Hid (Ow w17 0 s2 (dg Bs (A + B)) ∧ (dg Bs (A + B)).length ≤ 1048576 + 1048576 + 1) := ⟨Os2.out.1.below hbel (Nat.le_refl _), Os2.out.2⟩
  replace Op2 : Hid (Ow w17 0 p2 (dg Bs (A * B)) ∧ (dg Bs (A * B)).length ≤ 1048576 + 1048576) := ⟨Op2.out.1.below hbel (Nat.le_refl _), Op2.out.2⟩
  replace Ot1 : Hid (Ow w17 0 t1 (dg Bs (B + C)) ∧ (dg Bs (B + C)).length ≤ 1048576 + 1048576 + 1) := ⟨Ot1.out.1.below hbel (Nat.le_refl _), Ot1.out.2⟩
  replace Ot2 : Hid (Ow w17 0 t2 (dg Bs (A + B + C)) ∧ (dg Bs (A + B + C)).length ≤ 1048576 + (1048576 + 1048576 + 1) + 1) := ⟨Ot2.out.1.below hbel (Nat.le_refl _), Ot2.out.2⟩
  replace Oq1 : Hid (Ow w17 0 q1 (dg Bs (B * C)) ∧ (dg Bs (B * C)).length ≤ 1048576 + 1048576) := ⟨Oq1.out.1.below hbel (Nat.le_refl _), Oq1.out.2⟩
  replace Oq2 : Hid (Ow w17 0 q2 (dg Bs (A * B * C)) ∧ (dg Bs (A * B * C)).length ≤ 1048576 + (1048576 + 1048576)) := ⟨Oq2.out.1.below hbel (Nat.le_refl _), Oq2.out.2⟩
  replace Ol1 : Hid (Ow w17 0 l1 (dg Bs (B + C)) ∧ (dg Bs (B + C)).length ≤ 1048576 + 1048576 + 1) := ⟨Ol1.out.1.below hbel (Nat.le_refl _), Ol1.out.2⟩
  replace HB : Hid (Below w.heap.size w w17) := HB.out.trans (hbel.mono HB.out.size)
  have Oleft : Hid (Ow w17 0 left (dg Bs (A * B + A * C)) ∧ (dg Bs (A * B + A * C)).length ≤ 1048576 + (1048576 + 1048576 + 1)) := ⟨hnew.1.base (Nat.zero_le _), hnew.2.1⟩
  clear hnew hbel
  have Cc := vmul a c _ _ _ _ w17 Ha.out Hc.out (by decide) (by decide)
  go_wp2_with fail
  refine Cc.mono ?_
  clear Cc
  rintro e w18 ⟨r1, rfl, hnew⟩
  have hbel := hnew.2.2
  replace Ha : Hid (Vl w18 a (A) (1048576)) := Ha.out.below hbel (Nat.le_refl _)
  replace Hb : Hid (Vl w18 b (B) (1048576)) := Hb.out.below hbel (Nat.le_refl _)
  replace Hc : Hid (Vl w18 c (C) (1048576)) := Hc.out.below hbel (Nat.le_refl _)
  replace Os : Hid (Ow w18 0 s (dg Bs (A + B)) ∧ (dg Bs (A + B)).length ≤ 1048576 + 1048576 + 1) := ⟨Os.out.1.below hbel (Nat.le_refl _), Os.out.2⟩
  replace Op : Hid (Ow w18 0 p (dg Bs (A * B)) ∧ (dg Bs (A * B)).length ≤ 1048576 + 1048576) := ⟨Op.out.1.below hbel (Nat.le_refl _), Op.out.2⟩
  replace Ot : Hid (Ow w18 0 t (dg Bs (A + B + C)) ∧ (dg Bs (A + B + C)).length ≤ 1048576 + 1048576 + 1 + 1048576 + 1) := ⟨Ot.out.1.below hbel (Nat.le_refl _), Ot.out.2⟩
  replace Oq : Hid (Ow w18 0 q (dg Bs (A * B * C)) ∧ (dg Bs (A * B * C)).length ≤ 1048576 + 1048576 + 1048576) := ⟨Oq.out.1.below hbel (Nat.le_refl _), Oq.out.2⟩
  replace Os2 : Hid (Ow w18 0 s2 (dg Bs (A + B)) ∧ (dg Bs (A + B)).length ≤ 1048576 + 1048576 + 1) := ⟨Os2.out.1.below hbel (Nat.le_refl _), Os2.out.2⟩
  replace Op2 : Hid (Ow w18 0 p2 (dg Bs (A * B)) ∧ (dg Bs (A * B)).length ≤ 1048576 + 1048576) := ⟨Op2.out.1.below hbel (Nat.le_refl _), Op2.out.2⟩
  replace Ot1 : Hid (Ow w18 0 t1 (dg Bs (B + C)) ∧ (dg Bs (B + C)).length ≤ 1048576 + 1048576 + 1) := ⟨Ot1.out.1.below hbel (Nat.le_refl _), Ot1.out.2⟩
  replace Ot2 : Hid (Ow w18 0 t2 (dg Bs (A + B + C)) ∧ (dg Bs (A + B + C)).length ≤ 1048576 + (1048576 + 1048576 + 1) + 1) := ⟨Ot2.out.1.below hbel (Nat.le_refl _), Ot2.out.2⟩
  replace Oq1 : Hid (Ow w18 0 q1 (dg Bs (B * C)) ∧ (dg Bs (B * C)).length ≤ 1048576 + 1048576) := ⟨Oq1.out.1.below hbel (Nat.le_refl _), Oq1.out.2⟩
  replace Oq2 : Hid (Ow w18 0 q2 (dg Bs (A * B * C)) ∧ (dg Bs (A * B * C)).length ≤ 1048576 + (1048576 + 1048576)) := ⟨Oq2.out.1.below hbel (Nat.le_refl _), Oq2.out.2⟩
  replace Ol1 : Hid (Ow w18 0 l1 (dg Bs (B + C)) ∧ (dg Bs (B + C)).length ≤ 1048576 + 1048576 + 1) := ⟨Ol1.out.1.below hbel (Nat.le_refl _), Ol1.out.2⟩
  replace Oleft : Hid (Ow w18 0 left (dg Bs (A * B + A * C)) ∧ (dg Bs (A * B + A * C)).length ≤ 1048576 + (1048576 + 1048576 + 1)) := ⟨Oleft.out.1.below hbel (Nat.le_refl _), Oleft.out.2⟩
  replace HB : Hid (Below w.heap.size w w18) := HB.out.trans (hbel.mono HB.out.size)
  have Or1 : Hid (Ow w18 0 r1 (dg Bs (A * C)) ∧ (dg Bs (A * C)).length ≤ 1048576 + 1048576) := ⟨hnew.1.base (Nat.zero_le _), hnew.2.1⟩
  clear hnew hbel
  have Cc := vadd p r1 _ _ _ _ w18 (Op.out.1.vl Op.out.2) (Or1.out.1.vl Or1.out.2) (by decide) (by decide)
  go_wp2_with fail
  refine Cc.mono ?_
  clear Cc
  rintro e w19 ⟨right, rfl, hnew⟩
  have hbel := hnew.2.2
  replace Ha : Hid (Vl w19 a (A) (1048576)) := Ha.out.below hbel (Nat.le_refl _)
  replace Hb : Hid (Vl w19 b (B) (1048576)) := Hb.out.below hbel (Nat.le_refl _)
  replace Hc : Hid (Vl w19 c (C) (1048576)) := Hc.out.below hbel (Nat.le_refl _)
  replace Os : Hid (Ow w19 0 s (dg Bs (A + B)) ∧ (dg Bs (A + B)).length ≤ 1048576 + 1048576 + 1) := ⟨Os.out.1.below hbel (Nat.le_refl _), Os.out.2⟩
  replace Op : Hid (Ow w19 0 p (dg Bs (A * B)) ∧ (dg Bs (A * B)).length ≤ 1048576 + 1048576) := ⟨Op.out.1.below hbel (Nat.le_refl _), Op.out.2⟩
  replace Ot : Hid (Ow w19 0 t (dg Bs (A + B + C)) ∧ (dg Bs (A + B + C)).length ≤ 1048576 + 1048576 + 1 + 1048576 + 1) := ⟨Ot.out.1.below hbel (Nat.le_refl _), Ot.out.2⟩
  replace Oq : Hid (Ow w19 0 q (dg Bs (A * B * C)) ∧ (dg Bs (A * B * C)).length ≤ 1048576 + 1048576 + 1048576) := ⟨Oq.out.1.below hbel (Nat.le_refl _), Oq.out.2⟩
  replace Os2 : Hid (Ow w19 0 s2 (dg Bs (A + B)) ∧ (dg Bs (A + B)).length ≤ 1048576 + 1048576 + 1) := ⟨Os2.out.1.below hbel (Nat.le_refl _), Os2.out.2⟩
  replace Op2 : Hid (Ow w19 0 p2 (dg Bs (A * B)) ∧ (dg Bs (A * B)).length ≤ 1048576 + 1048576) := ⟨Op2.out.1.below hbel (Nat.le_refl _), Op2.out.2⟩
  replace Ot1 : Hid (Ow w19 0 t1 (dg Bs (B + C)) ∧ (dg Bs (B + C)).length ≤ 1048576 + 1048576 + 1) := ⟨Ot1.out.1.below hbel (Nat.le_refl _), Ot1.out.2⟩
  replace Ot2 : Hid (Ow w19 0 t2 (dg Bs (A + B + C)) ∧ (dg Bs (A + B + C)).length ≤ 1048576 + (1048576 + 1048576 + 1) + 1) := ⟨Ot2.out.1.below hbel (Nat.le_refl _), Ot2.out.2⟩
  replace Oq1 : Hid (Ow w19 0 q1 (dg Bs (B * C)) ∧ (dg Bs (B * C)).length ≤ 1048576 + 1048576) := ⟨Oq1.out.1.below hbel (Nat.le_refl _), Oq1.out.2⟩
  replace Oq2 : Hid (Ow w19 0 q2 (dg Bs (A * B * C)) ∧ (dg Bs (A * B * C)).length ≤ 1048576 + (1048576 + 1048576)) := ⟨Oq2.out.1.below hbel (Nat.le_refl _), Oq2.out.2⟩
  replace Ol1 : Hid (Ow w19 0 l1 (dg Bs (B + C)) ∧ (dg Bs (B + C)).length ≤ 1048576 + 1048576 + 1) := ⟨Ol1.out.1.below hbel (Nat.le_refl _), Ol1.out.2⟩
  replace Oleft : Hid (Ow w19 0 left (dg Bs (A * B + A * C)) ∧ (dg Bs (A * B + A * C)).length ≤ 1048576 + (1048576 + 1048576 + 1)) := ⟨Oleft.out.1.below hbel (Nat.le_refl _), Oleft.out.2⟩
  replace Or1 : Hid (Ow w19 0 r1 (dg Bs (A * C)) ∧ (dg Bs (A * C)).length ≤ 1048576 + 1048576) := ⟨Or1.out.1.below hbel (Nat.le_refl _), Or1.out.2⟩
  replace HB : Hid (Below w.heap.size w w19) := HB.out.trans (hbel.mono HB.out.size)
  have Oright : Hid (Ow w19 0 right (dg Bs (A * B + A * C)) ∧ (dg Bs (A * B + A * C)).length ≤ 1048576 + 1048576 + (1048576 + 1048576) + 1) := ⟨hnew.1.base (Nat.zero_le _), hnew.2.1⟩
  clear hnew hbel
  have Cc := vadd a (.slice none 0 0) _ _ _ _ w19 Ha.out (vnil w19) (by decide) (by decide)
  rw [Nat.add_zero A] at Cc
  go_wp2_with fail
  refine Cc.mono ?_
  clear Cc
  rintro e w20 ⟨none, rfl, hnew⟩
  have hbel := hnew.2.2
  replace Ha : Hid (Vl w20 a (A) (1048576)) := Ha.out.below hbel (Nat.le_refl _)
  replace Hb : Hid (Vl w20 b (B) (1048576)) := Hb.out.below hbel (Nat.le_refl _)
  replace Hc : Hid (Vl w20 c (C) (1048576)) := Hc.out.below hbel (Nat.le_refl _)
  replace Os : Hid (Ow w20 0 s (dg Bs (A + B)) ∧ (dg Bs (A + B)).length ≤ 1048576 + 1048576 + 1) := ⟨Os.out.1.below hbel (Nat.le_refl _), Os.out.2⟩
  replace Op : Hid (Ow w20 0 p (dg Bs (A * B)) ∧ (dg Bs (A * B)).length ≤ 1048576 + 1048576) := ⟨Op.out.1.below hbel (Nat.le_refl _), Op.out.2⟩
  replace Ot : Hid (Ow w20 0 t (dg Bs (A + B + C)) ∧ (dg Bs (A + B + C)).length ≤ 1048576 + 1048576 + 1 + 1048576 + 1) := ⟨Ot.out.1.below hbel (Nat.le_refl _), Ot.out.2⟩
  replace Oq : Hid (Ow w20 0 q (dg Bs (A * B * C)) ∧ (dg Bs (A * B * C)).length ≤ 1048576 + 1048576 + 1048576) := ⟨Oq.out.1.below hbel (Nat.le_refl _), Oq.out.2⟩
  replace Os2 : Hid (Ow w20 0 s2 (dg Bs (A + B)) ∧ (dg Bs (A + B)).length ≤ 1048576 + 1048576 + 1) := ⟨Os2.out.1.below hbel (Nat.le_refl _), Os2.out.2⟩
  replace Op2 : Hid (Ow w20 0 p2 (dg Bs (A * B)) ∧ (dg Bs (A * B)).length ≤ 1048576 + 1048576) := ⟨Op2.out.1.below hbel (Nat.le_refl _), Op2.out.2⟩
  replace Ot1 : Hid (Ow w20 0 t1 (dg Bs (B + C)) ∧ (dg Bs (B + C)).length ≤ 1048576 + 1048576 + 1) := ⟨Ot1.out.1.below hbel (Nat.le_refl _), Ot1.out.2⟩
  replace Ot2 : Hid (Ow w20 0 t2 (dg Bs (A + B + C)) ∧ (dg Bs (A + B + C)).length ≤ 1048576 + (1048576 + 1048576 + 1) + 1) := ⟨Ot2.out.1.below hbel (Nat.le_refl _), Ot2.out.2⟩
  replace Oq1 : Hid (Ow w20 0 q1 (dg Bs (B * C)) ∧ (dg Bs (B * C)).length ≤ 1048576 + 1048576) := ⟨Oq1.out.1.below hbel (Nat.le_refl _), Oq1.out.2⟩
  replace Oq2 : Hid (Ow w20 0 q2 (dg Bs (A * B * C)) ∧ (dg Bs (A * B * C)).length ≤ 1048576 + (1048576 + 1048576)) := ⟨Oq2.out.1.below hbel (Nat.le_refl _), Oq2.out.2⟩
  replace Ol1 : Hid (Ow w20 0 l1 (dg Bs (B + C)) ∧ (dg Bs (B + C)).length ≤ 1048576 + 1048576 + 1) := ⟨Ol1.out.1.below hbel (Nat.le_refl _), Ol1.out.2⟩
  replace Oleft : Hid (Ow w20 0 left (dg Bs (A * B + A * C)) ∧ (dg Bs (A * B + A * C)).length ≤ 1048576 + (1048576 + 1048576 + 1)) := ⟨Oleft.out.1.below hbel (Nat.le_refl _), Oleft.out.2⟩
  replace Or1 : Hid (Ow w20 0 r1 (dg Bs (A * C)) ∧ (dg Bs (A * C)).length ≤ 1048576 + 1048576) := ⟨Or1.out.1.below hbel (Nat.le_refl _), Or1.out.2⟩
  replace Oright : Hid (Ow w20 0 right (dg Bs (A * B + A * C)) ∧ (dg Bs (A * B + A * C)).length ≤ 1048576 + 1048576 + (1048576 + 1048576) + 1) := ⟨Oright.out.1.below hbel (Nat.le_refl _), Oright.out.2⟩
  replace HB : Hid (Below w.heap.size w w20) := HB.out.trans (hbel.mono HB.out.size)
  have Onone : Hid (Ow w20 0 none (dg Bs (A)) ∧ (dg Bs (A)).length ≤ 1048576 + 0 + 1) := ⟨hnew.1.base (Nat.zero_le _), hnew.2.1⟩
  clear hnew hbel
  go_wp2_with fail
  have hbel := alloc_below w20 (.cells #[.int .u32 1] 36)
  have hlit := vlit w20 [1] (by decide)
  rw [show (([1] : List Nat).map U).toArray = #[.int .u32 1] from rfl] at hlit
  generalize hw2 : w20.alloc (.cells #[.int .u32 1] 36) = w21 at hbel hlit ⊢
  replace Ha : Hid (Vl w21 a (A) (1048576)) := Ha.out.below hbel (Nat.le_refl _)
  replace Hb : Hid (Vl w21 b (B) (1048576)) := Hb.out.below hbel (Nat.le_refl _)
  replace Hc : Hid (Vl w21 c (C) (1048576)) := Hc.out.below hbel (Nat.le_refl _)
  replace Os : Hid (Ow w21 0 s (dg Bs (A + B)) ∧ (dg Bs (A + B)).length ≤ 1048576 + 1048576 + 1) := ⟨Os.out.1.below hbel (Nat.le_refl _), Os.out.2⟩
  replace Op : Hid (Ow w21 0 p (dg Bs (A * B)) ∧ (dg Bs (A * B)).length ≤ 1048576 + 1048576) := ⟨Op.out.1.below hbel (Nat.le_refl _), Op.out.2⟩
  replace Ot : Hid (Ow w21 0 t (dg Bs (A + B + C)) ∧ (dg Bs (A + B + C)).length ≤ 1048576 + 1048576 + 1 + 1048576 + 1) := ⟨Ot.out.1.below hbel (Nat.le_refl _), Ot.out.2⟩
  replace Oq : Hid (Ow w21 0 q (dg Bs (A * B * C)) ∧ (dg Bs (A * B * C)).length ≤ 1048576 + 1048576 + 1048576) := ⟨Oq.out.1.below hbel (Nat.le_refl _), Oq.out.2⟩
  replace Os2 : Hid (Ow w21 0 s2 (dg Bs (A + B)) ∧ (dg Bs (A + B)).length ≤ 1048576 + 1048576 + 1) := ⟨Os2.out.1.below hbel (Nat.le_refl _), Os2.out.2⟩
  replace Op2 : Hid (Ow w21 0 p2 (dg Bs (A * B)) ∧ (dg Bs (A * B)).length ≤ 1048576 + 1048576) := ⟨Op2.out.1.below hbel (Nat.le_refl _), Op2.out.2⟩
  replace Ot1 : Hid (Ow w21 0 t1 (dg Bs (B + C)) ∧ (dg Bs (B + C)).length ≤ 1048576 + 1048576 + 1) := ⟨Ot1.out.1.below hbel (Nat.le_refl _), Ot1.out.2⟩
  replace Ot2 : Hid (Ow w21 0 t2 (dg Bs (A + B + C)) ∧ (dg Bs (A + B + C)).length ≤ 1048576 + (1048576 + 1048576 + 1) + 1) := ⟨Ot2.out.1.below hbel (Nat.le_refl _), Ot2.out.2⟩
  replace Oq1 : Hid (Ow w21 0 q1 (dg Bs (B * C)) ∧ (dg Bs (B * C)).length ≤ 1048576 + 1048576) := ⟨Oq1.out.1.below hbel (Nat.le_refl _), Oq1.out.2⟩
  replace Oq2 : Hid (Ow w21 0 q2 (dg Bs (A * B * C)) ∧ (dg Bs (A * B * C)).length ≤ 1048576 + (1048576 + 1048576)) := ⟨Oq2.out.1.below hbel (Nat.le_refl _), Oq2.out.2⟩
  replace Ol1 : Hid (Ow w21 0 l1 (dg Bs (B + C)) ∧ (dg Bs (B + C)).length ≤ 1048576 + 1048576 + 1) := ⟨Ol1.out.1.below hbel (Nat.le_refl _), Ol1.out.2⟩
  replace Oleft : Hid (Ow w21 0 left (dg Bs (A * B + A * C)) ∧ (dg Bs (A * B + A * C)).length ≤ 1048576 + (1048576 + 1048576 + 1)) := ⟨Oleft.out.1.below hbel (Nat.le_refl _), Oleft.out.2⟩
  replace Or1 : Hid (Ow w21 0 r1 (dg Bs (A * C)) ∧ (dg Bs (A * C)).length ≤ 1048576 + 1048576) := ⟨Or1.out.1.below hbel (Nat.le_refl _), Or1.out.2⟩
  replace Oright : Hid (Ow w21 0 right (dg Bs (A * B + A * C)) ∧ (dg Bs (A * B + A * C)).length ≤ 1048576 + 1048576 + (1048576 + 1048576) + 1) := ⟨Oright.out.1.below hbel (Nat.le_refl _), Oright.out.2⟩
  replace Onone : Hid (Ow w21 0 none (dg Bs (A)) ∧ (dg Bs (A)).length ≤ 1048576 + 0 + 1) := ⟨Onone.out.1.below hbel (Nat.le_refl _), Onone.out.2⟩
  replace HB : Hid (Below w.heap.size w w21) := HB.out.trans (hbel.mono HB.out.size)
  clear hbel hw2
  have hl1 : nv Bs [1] = 1 := by simp [nv]
  rw [hl1] at hlit
  clear hl1
  have Cc := vmul a _ _ _ _ _ w21 Ha.out hlit (by decide) (by decide)
  rw [Nat.mul_one] at Cc
  clear hlit
  refine Cc.mono ?_
  clear Cc
  rintro e w22 ⟨once, rfl, hnew⟩
  have hbel := hnew.2.2
  replace Ha : Hid (Vl w22 a (A) (1048576)) := Ha.out.below hbel (Nat.le_refl _)
  replace Hb : Hid (Vl w22 b (B) (1048576)) := Hb.out.below hbel (Nat.le_refl _)
  replace Hc : Hid (Vl w22 c (C) (1048576)) := Hc.out.below hbel (Nat.le_refl _)
  replace Os : Hid (Ow w22 0 s (dg Bs (A + B)) ∧ (dg Bs (A + B)).length ≤ 1048576 + 1048576 + 1) := ⟨Os.out.1.below hbel (Nat.le_refl _), Os.out.2⟩
  replace Op : Hid (Ow w22 0 p (dg Bs (A * B)) ∧ (dg Bs (A * B)).length ≤ 1048576 + 1048576) := ⟨Op.out.1.below hbel (Nat.le_refl _), Op.out.2⟩
  replace Ot : Hid (Ow w22 0 t (dg Bs (A + B + C)) ∧ (dg Bs (A + B + C)).length ≤ 1048576 + 1048576 + 1 + 1048576 + 1) := ⟨Ot.out.1.below hbel (Nat.le_refl _), Ot.out.2⟩
  replace Oq : Hid (Ow w22 0 q (dg Bs (A * B * C)) ∧ (dg Bs (A * B * C)).length ≤ 1048576 + 1048576 + 1048576) := ⟨Oq.out.1.below hbel (Nat.le_refl _), Oq.out.2⟩
  replace Os2 : Hid (Ow w22 0 s2 (dg Bs (A + B)) ∧ (dg Bs (A + B)).length ≤ 1048576 + 1048576 + 1) := ⟨Os2.out.1.below hbel (Nat.le_refl _), Os2.out.2⟩
  replace Op2 : Hid (Ow w22 0 p2 (dg Bs (A * B)) ∧ (dg Bs (A * B)).length ≤ 1048576 + 1048576) := ⟨Op2.out.1.below hbel (Nat.le_refl _), Op2.out.2⟩
  replace Ot1 : Hid (Ow w22 0 t1 (dg Bs (B + C)) ∧ (dg Bs (B + C)).length ≤ 1048576 + 1048576 + 1) := ⟨Ot1.out.1.below hbel (Nat.le_refl _), Ot1.out.2⟩
  replace Ot2 : Hid (Ow w22 0 t2 (dg Bs (A + B + C)) ∧ (dg Bs (A + B + C)).length ≤ 1048576 + (1048576 + 1048576 + 1) + 1) := ⟨Ot2.out.1.below hbel (Nat.le_refl _), Ot2.out.2⟩
  replace Oq1 : Hid (Ow w22 0 q1 (dg Bs (B * C)) ∧ (dg Bs (B * C)).length ≤ 1048576 + 1048576) := ⟨Oq1.out.1.below hbel (Nat.le_refl _), Oq1.out.2⟩
  replace Oq2 : Hid (Ow w22 0 q2 (dg Bs (A * B * C)) ∧ (dg Bs (A * B * C)).length ≤ 1048576 + (1048576 + 1048576)) := ⟨Oq2.out.1.below hbel (Nat.le_refl _), Oq2.out.2⟩
  replace Ol1 : Hid (Ow w22 0 l1 (dg Bs (B + C)) ∧ (dg Bs (B + C)).length ≤ 1048576 + 1048576 + 1) := ⟨Ol1.out.1.below hbel (Nat.le_refl _), Ol1.out.2⟩
  replace Oleft : Hid (Ow w22 0 left (dg Bs (A * B + A * C)) ∧ (dg Bs (A * B + A * C)).length ≤ 1048576 + (1048576 + 1048576 + 1)) := ⟨Oleft.out.1.below hbel (Nat.le_refl _), Oleft.out.2⟩
  replace Or1 : Hid (Ow w22 0 r1 (dg Bs (A * C)) ∧ (dg Bs (A * C)).length ≤ 1048576 + 1048576) := ⟨Or1.out.1.below hbel (Nat.le_refl _), Or1.out.2⟩
  replace Oright : Hid (Ow w22 0 right (dg Bs (A * B + A * C)) ∧ (dg Bs (A * B + A * C)).length ≤ 1048576 + 1048576 + (1048576 + 1048576) + 1) := ⟨Oright.out.1.below hbel (Nat.le_refl _), Oright.out.2⟩
  replace Onone : Hid (Ow w22 0 none (dg Bs (A)) ∧ (dg Bs (A)).length ≤ 1048576 + 0 + 1) := ⟨Onone.out.1.below hbel (Nat.le_refl _), Onone.out.2⟩
  replace HB : Hid (Below w.heap.size w w22) := HB.out.trans (hbel.mono HB.out.size)
  have Oonce : Hid (Ow w22 0 once (dg Bs (A)) ∧ (dg Bs (A)).length ≤ 1048576 + 1) := ⟨hnew.1.base (Nat.zero_le _), hnew.2.1⟩
  clear hnew hbel
  go_wp2_with fail
  have hbel := alloc_below w22 (.cells #[.int .u32 0, .int .u32 0] 36)
  have hlit := vlit w22 [0, 0] (by decide)
  rw [show (([0, 0] : List Nat).map U).toArray = #[.int .u32 0, .int .u32 0] from rfl] at hlit
  generalize hw2 : w22.alloc (.cells #[.int .u32 0, .int .u32 0] 36) = w23 at hbel hlit ⊢
  replace Ha : Hid (Vl w23 a (A) (1048576)) := Ha.out.below hbel (Nat.le_refl _)
  replace Hb : Hid (Vl w23 b (B) (1048576)) := Hb.out.below hbel (Nat.le_refl _)
  replace Hc : Hid (Vl w23 c (C) (1048576)) := Hc.out.below hbel (Nat.le_refl _)
  replace Os : Hid (Ow w23 0 s (dg Bs (A + B)) ∧ (dg Bs (A + B)).length ≤ 1048576 + 1048576 + 1) := ⟨Os.out.1.below hbel (Nat.le_refl _), Os.out.2⟩
  replace Op : Hid (Ow w23 0 p (dg Bs (A * B)) ∧ (dg Bs (A * B)).length ≤ 1048576 + 1048576) := ⟨Op.out.1.below hbel (Nat.le_refl _), Op.out.2⟩
  replace Ot : Hid (Ow w23 0 t (dg Bs (A + B + C)) ∧ (dg Bs (A + B + C)).length ≤ 1048576 + 1048576 + 1 + 1048576 + 1) := ⟨Ot.out.1.below hbel (Nat.le_refl _), Ot.out.2⟩
  replace Oq : Hid (Ow w23 0 q (dg Bs (A * B * C)) ∧ (dg Bs (A * B * C)).length ≤ 1048576 + 1048576 + 1048576) := ⟨Oq.out.1.below hbel (Nat.le_refl _), Oq.out.2⟩
  replace Os2 : Hid (Ow w23 0 s2 (dg Bs (A + B)) ∧ (dg Bs (A + B)).length ≤ 1048576 + 1048576 + 1) := ⟨Os2.out.1.below hbel (Nat.le_refl _), Os2.out.2⟩
  replace Op2 : Hid (Ow w23 0 p2 (dg Bs (A * B)) ∧ (dg Bs (A * B)).length ≤ 1048576 + 1048576) := ⟨Op2.out.1.below hbel (Nat.le_refl _), Op2.out.2⟩
  replace Ot1 : Hid (Ow w23 0 t1 (dg Bs (B + C)) ∧ (dg Bs (B + C)).length ≤ 1048576 + 1048576 + 1) := ⟨Ot1.out.1.below hbel (Nat.le_refl _), Ot1.out.2⟩
  replace Ot2 : Hid (Ow w23 0 t2 (dg Bs (A + B + C)) ∧ (dg Bs (A + B + C)).length ≤ 1048576 + (1048576 + 1048576 + 1) + 1) := ⟨Ot2.out.1.below hbel (Nat.le_refl _), Ot2.out.2⟩
  replace Oq1 : Hid (Ow w23 0 q1 (dg Bs (B * C)) ∧ (dg Bs (B * C)).length ≤ 1048576 + 1048576) := ⟨Oq1.out.1.below hbel (Nat.le_refl _), Oq1.out.2⟩
  replace Oq2 : Hid (Ow w23 0 q2 (dg Bs (A * B * C)) ∧ (dg Bs (A * B * C)).length ≤ 1048576 + (1048576 + 1048576)) := ⟨Oq2.out.1.below hbel (Nat.le_refl _), Oq2.out.2⟩
  replace Ol1 : Hid (Ow w23 0 l1 (dg Bs (B + C)) ∧ (dg Bs (B + C)).length ≤ 1048576 + 1048576 + 1) := ⟨Ol1.out.1.below hbel (Nat.le_refl _), Ol1.out.2⟩
  replace Oleft : Hid (Ow w23 0 left (dg Bs (A * B + A * C)) ∧ (dg Bs (A * B + A * C)).length ≤ 1048576 + (1048576 + 1048576 + 1)) := ⟨Oleft.out.1.below hbel (Nat.le_refl _), Oleft.out.2⟩
  replace Or1 : Hid (Ow w23 0 r1 (dg Bs (A * C)) ∧ (dg Bs (A * C)).length ≤ 1048576 + 1048576) := ⟨Or1.out.1.below hbel (Nat.le_refl _), Or1.out.2⟩
  replace Oright : Hid (Ow w23 0 right (dg Bs (A * B + A * C)) ∧ (dg Bs (A * B + A * C)).length ≤ 1048576 + 1048576 + (1048576 + 1048576) + 1) := ⟨Oright.out.1.below hbel (Nat.le_refl _), Oright.out.2⟩
  replace Onone : Hid (Ow w23 0 none (dg Bs (A)) ∧ (dg Bs (A)).length ≤ 1048576 + 0 + 1) := ⟨Onone.out.1.below hbel (Nat.le_refl _), Onone.out.2⟩
  replace Oonce : Hid (Ow w23 0 once (dg Bs (A)) ∧ (dg Bs (A)).length ≤ 1048576 + 1) := ⟨Oonce.out.1.below hbel (Nat.le_refl _), Oonce.out.2⟩
  replace HB : Hid (Below w.heap.size w w23) := HB.out.trans (hbel.mono HB.out.size)
  clear hbel hw2
  have hl1 : nv Bs [0, 0] = 0 := by simp [nv]
  rw [hl1] at hlit
  clear hl1
  have Cc := vmul a _ _ _ _ _ w23 Ha.out hlit (by decide) (by decide)
  rw [Nat.mul_zero] at Cc
  clear hlit
  refine Cc.mono ?_
  clear Cc
  rintro e w24 ⟨never, rfl, hnew⟩
  have hbel := hnew.2.2
  replace Ha : Hid (Vl w24 a (A) (1048576)) := Ha.out.below hbel (Nat.le_refl _)
  replace Hb : Hid (Vl w24 b (B) (1048576)) := Hb.out.below hbel (Nat.le_refl _)
  replace Hc : Hid (Vl w24 c (C) (1048576)) := Hc.out.below hbel (Nat.le_refl _)
  replace Os : Hid (Ow w24 0 s (dg Bs (A + B)) ∧ (dg Bs (A + B)).length ≤ 1048576 + 1048576 + 1) := ⟨Os.out.1.below hbel (Nat.le_refl _), Os.out.2⟩
  replace Op : Hid (Ow w24 0 p (dg Bs (A * B)) ∧ (dg Bs (A * B)).length ≤ 1048576 + 1048576) := ⟨Op.out.1.below hbel (Nat.le_refl _), Op.out.2⟩
  replace Ot : Hid (Ow w24 0 t (dg Bs (A + B + C)) ∧ (dg Bs (A + B + C)).length ≤ 1048576 + 1048576 + 1 + 1048576 + 1) := ⟨Ot.out.1.below hbel (Nat.le_refl _), Ot.out.2⟩
  replace Oq : Hid (Ow w24 0 q (dg Bs (A * B * C)) ∧ (dg Bs (A * B * C)).length ≤ 1048576 + 1048576 + 1048576) := ⟨Oq.out.1.below hbel (Nat.le_refl _), Oq.out.2⟩
  replace Os2 : Hid (Ow w24 0 s2 (dg Bs (A + B)) ∧ (dg Bs (A + B)).length ≤ 1048576 + 1048576 + 1) := ⟨Os2.out.1.below hbel (Nat.le_refl _), Os2.out.2⟩
  replace Op2 : Hid (Ow w24 0 p2 (dg Bs (A * B)) ∧ (dg Bs (A * B)).length ≤ 1048576 + 1048576) := ⟨Op2.out.1.below hbel (Nat.le_refl _), Op2.out.2⟩
  replace Ot1 : Hid (Ow w24 0 t1 (dg Bs (B + C)) ∧ (dg Bs (B + C)).length ≤ 1048576 + 1048576 + 1) := ⟨Ot1.out.1.below hbel (Nat.le_refl _), Ot1.out.2⟩
  replace Ot2 : Hid (Ow w24 0 t2 (dg Bs (A + B + C)) ∧ (dg Bs (A + B + C)).length ≤ 1048576 + (1048576 + 1048576 + 1) + 1) := ⟨Ot2.out.1.below hbel (Nat.le_refl _), Ot2.out.2⟩
  replace Oq1 : Hid (Ow w24 0 q1 (dg Bs (B * C)) ∧ (dg Bs (B * C)).length ≤ 1048576 + 1048576) := ⟨Oq1.out.1.below hbel (Nat.le_refl _), Oq1.out.2⟩
  replace Oq2 : Hid (Ow w24 0 q2 (dg Bs (A * B * C)) ∧ (dg Bs (A * B * C)).length ≤ 1048576 + (1048576 + 1048576)) := ⟨Oq2.out.1.below hbel (Nat.le_refl _), Oq2.out.2⟩
  replace Ol1 : Hid (Ow w24 0 l1 (dg Bs (B + C)) ∧ (dg Bs (B + C)).length ≤ 1048576 + 1048576 + 1) := ⟨Ol1.out.1.below hbel (Nat.le_refl _), Ol1.out.2⟩
  replace Oleft : Hid (Ow w24 0 left (dg Bs (A * B + A * C)) ∧ (dg Bs (A * B + A * C)).length ≤ 1048576 + (1048576 + 1048576 + 1)) := ⟨Oleft.out.1.below hbel (Nat.le_refl _), Oleft.out.2⟩
  replace Or1 : Hid (Ow w24 0 r1 (dg Bs (A * C)) ∧ (dg Bs (A * C)).length ≤ 1048576 + 1048576) := ⟨Or1.out.1.below hbel (Nat.le_refl _), Or1.out.2⟩
  replace Oright : Hid (Ow w24 0 right (dg Bs (A * B + A * C)) ∧ (dg Bs (A * B + A * C)).length ≤ 1048576 + 1048576 + (1048576 + 1048576) + 1) := ⟨Oright.out.1.below hbel (Nat.le_refl _), Oright.out.2⟩
  replace Onone : Hid (Ow w24 0 none (dg Bs (A)) ∧ (dg Bs (A)).length ≤ 1048576 + 0 + 1) := ⟨Onone.out.1.below hbel (Nat.le_refl _), Onone.out.2⟩
  replace Oonce : Hid (Ow w24 0 once (dg Bs (A)) ∧ (dg Bs (A)).length ≤ 1048576 + 1) := ⟨Oonce.out.1.below hbel (Nat.le_refl _), Oonce.out.2⟩
  replace HB : Hid (Below w.heap.size w w24) := HB.out.trans (hbel.mono HB.out.size)
  have hnv := hnew.1
  rw [dg_zero] at hnv
  obtain ⟨na, nc, rfl⟩ := hnv.none
  clear hnew hbel hnv
  have Cc := vsub s b _ _ _ _ w24 (Os.out.1.vl Os.out.2) Hb.out (by decide) (by decide)
  rw [Nat.add_sub_cancel, decide_eq_true (show B ≤ A + B by omega)] at Cc
  go_wp2_with fail
  refine Cc.mono ?_
  clear Cc
  rintro e w25 ⟨d, rfl, hnew⟩
  have hbel := hnew.2.2
  replace Ha : Hid (Vl w25 a (A) (1048576)) := Ha.out.below hbel (Nat.le_refl _)
  replace Hb : Hid (Vl w25 b (B) (1048576)) := Hb.out.below hbel (Nat.le_refl _)
  replace Hc : Hid (Vl w25 c (C) (1048576)) := Hc.out.below hbel (Nat.le_refl _)
  replace Os : Hid (Ow w25 0 s (dg Bs (A + B)) ∧ (dg Bs (A + B)).length ≤ 1048576 + 1048576 + 1) := ⟨Os.out.1.below hbel (Nat.le_refl _), Os.out.2⟩
  replace Op : Hid (Ow w25 0 p (dg Bs (A * B)) ∧ (dg Bs (A * B)).length ≤ 1048576 + 1048576) := ⟨Op.out.1.below hbel (Nat.le_refl _), Op.out.2⟩
  replace Ot : Hid (Ow w25 0 t (dg Bs (A + B + C)) ∧ (dg Bs (A + B + C)).length ≤ 1048576 + 1048576 + 1 + 1048576 + 1) := ⟨Ot.out.1.below hbel (Nat.le_refl _), Ot.out.2⟩
  replace Oq : Hid (Ow w25 0 q (dg Bs (A * B * C)) ∧ (dg Bs (A * B * C)).length ≤ 1048576 + 1048576 + 1048576) := ⟨Oq.out.1.below hbel (Nat.le_refl _), Oq.out.2⟩
  replace Os2 : Hid (Ow w25 0 s2 (dg Bs (A + B)) ∧ (dg Bs (A + B)).length ≤ 1048576 + 1048576 + 1) := ⟨Os2.out.1.below hbel (Nat.le_refl _), Os2.out.2⟩
  replace Op2 : Hid (Ow w25 0 p2 (dg Bs (A * B)) ∧ (dg Bs (A * B)).length ≤ 1048576 + 1048576) := ⟨Op2.out.1.below hbel (Nat.le_refl _), Op2.out.2⟩
  replace Ot1 : Hid (Ow w25 0 t1 (dg Bs (B + C)) ∧ (dg Bs (B + C)).length ≤ 1048576 + 1048576 + 1) := ⟨Ot1.out.1.below hbel (Nat.le_refl _), Ot1.out.2⟩
  replace Ot2 : Hid (Ow w25 0 t2 (dg Bs (A + B + C)) ∧ (dg Bs (A + B + C)).length ≤ 1048576 + (1048576 + 1048576 + 1) + 1) := ⟨Ot2.out.1.below hbel (Nat.le_refl _), Ot2.out.2⟩
  replace Oq1 : Hid (Ow w25 0 q1 (dg Bs (B * C)) ∧ (dg Bs (B * C)).length ≤ 1048576 + 1048576) := ⟨Oq1.out.1.below hbel (Nat.le_refl _), Oq1.out.2⟩
  replace Oq2 : Hid (Ow w25 0 q2 (dg Bs (A * B * C)) ∧ (dg Bs (A * B * C)).length ≤ 1048576 + (1048576 + 1048576)) := ⟨Oq2.out.1.below hbel (Nat.le_refl _), Oq2.out.2⟩
  replace Ol1 : Hid (Ow w25 0 l1 (dg Bs (B + C)) ∧ (dg Bs (B + C)).length ≤ 1048576 + 1048576 + 1) := ⟨Ol1.out.1.below hbel (Nat.le_refl _), Ol1.out.2⟩
  replace Oleft : Hid (Ow w25 0 left (dg Bs (A * B + A * C)) ∧ (dg Bs (A * B + A * C)).length ≤ 1048576 + (1048576 + 1048576 + 1)) := ⟨Oleft.out.1.below hbel (Nat.le_refl _), Oleft.out.2⟩
  replace Or1 : Hid (Ow w25 0 r1 (dg Bs (A * C)) ∧ (dg Bs (A * C)).length ≤ 1048576 + 1048576) := ⟨Or1.out.1.below hbel (Nat.le_refl _), Or1.out.2⟩
  replace Oright : Hid (Ow w25 0 right (dg Bs (A * B + A * C)) ∧ (dg Bs (A * B + A * C)).length ≤ 1048576 + 1048576 + (1048576 + 1048576) + 1) := ⟨Oright.out.1.below hbel (Nat.le_refl _), Oright.out.2⟩
  replace Onone : Hid (Ow w25 0 none (dg Bs (A)) ∧ (dg Bs (A)).length ≤ 1048576 + 0 + 1) := ⟨Onone.out.1.below hbel (Nat.le_refl _), Onone.out.2⟩
  replace Oonce : Hid (Ow w25 0 once (dg Bs (A)) ∧ (dg Bs (A)).length ≤ 1048576 + 1) := ⟨Oonce.out.1.below hbel (Nat.le_refl _), Oonce.out.2⟩
  replace HB : Hid (Below w.heap.size w w25) := HB.out.trans (hbel.mono HB.out.size)
  have Od : Hid (Ow w25 0 d (dg Bs (A)) ∧ (dg Bs (A)).length ≤ 1048576 + 1048576 + 1) := ⟨hnew.1.base (Nat.zero_le _), hnew.2.1⟩
  clear hnew hbel
  have Cc := vsame left right (A * B + A * C) w25 0 0 Oleft.out.1 (by have h := Oright.out.1; exact h) (Nat.le_trans Oleft.out.2 (by decide))
  go_wp2_with fail
  refine Cc.mono ?_
  clear Cc
  rintro e w26 ⟨rfl, qq, hq⟩
  replace Ha : Hid (Vl w26 a (A) (1048576)) := by rw [hq]; exact Ha.out.drewN qq
  replace Hb : Hid (Vl w26 b (B) (1048576)) := by rw [hq]; exact Hb.out.drewN qq
  replace Hc : Hid (Vl w26 c (C) (1048576)) := by rw [hq]; exact Hc.out.drewN qq
  replace Os : Hid (Ow w26 0 s (dg Bs (A + B)) ∧ (dg Bs (A + B)).length ≤ 1048576 + 1048576 + 1) := by rw [hq]; exact ⟨Os.out.1.drewN qq, Os.out.2⟩
  replace Op : Hid (Ow w26 0 p (dg Bs (A * B)) ∧ (dg Bs (A * B)).length ≤ 1048576 + 1048576) := by rw [hq]; exact ⟨Op.out.1.drewN qq, Op.out.2⟩
  replace Ot : Hid (Ow w26 0 t (dg Bs (A + B + C)) ∧ (dg Bs (A + B + C)).length ≤ 1048576 + 1048576 + 1 + 1048576 + 1) := by rw [hq]; exact ⟨Ot.out.1.drewN qq, Ot.out.2⟩
  replace Oq : Hid (Ow w26 0 q (dg Bs (A * B * C)) ∧ (dg Bs (A * B * C)).length ≤ 1048576 + 1048576 + 1048576) := by rw [hq]; exact ⟨Oq.out.1.drewN qq, Oq.out.2⟩
  replace Os2 : Hid (Ow w26 0 s2 (dg Bs (A + B)) ∧ (dg Bs (A + B)).length ≤ 1048576 + 1048576 + 1) := by rw [hq]; exact ⟨Os2.out.1.drewN qq, Os2.out.2⟩
  replace Op2 : Hid (Ow w26 0 p2 (dg Bs (A * B)) ∧ (dg Bs (A * B)).length ≤ 1048576 + 1048576) := by rw [hq]; exact ⟨Op2.out.1.drewN qq, Op2.out.2⟩
  replace Ot1 : Hid (Ow w26 0 t1 (dg Bs (B + C)) ∧ (dg Bs (B + C)).length ≤ 1048576 + 1048576 + 1) := by rw [hq]; exact ⟨Ot1.out.1.drewN qq, Ot1.out.2⟩
  replace Ot2 : Hid (Ow w26 0 t2 (dg Bs (A + B + C)) ∧ (dg Bs (A + B + C)).length ≤ 1048576 + (1048576 + 1048576 + 1) + 1) := by rw [hq]; exact ⟨Ot2.out.1.drewN qq, Ot2.out.2⟩
  replace Oq1 : Hid (Ow w26 0 q1 (dg Bs (B * C)) ∧ (dg Bs (B * C)).length ≤ 1048576 + 1048576) := by rw [hq]; exact ⟨Oq1.out.1.drewN qq, Oq1.out.2⟩
  replace Oq2 : Hid (Ow w26 0 q2 (dg Bs (A * B * C)) ∧ (dg Bs (A * B * C)).length ≤ 1048576 + (1048576 + 1048576)) := by rw [hq]; exact ⟨Oq2.out.1.drewN qq, Oq2.out.2⟩
  replace Ol1 : Hid (Ow w26 0 l1 (dg Bs (B + C)) ∧ (dg Bs (B + C)).length ≤ 1048576 + 1048576 + 1) := by rw [hq]; exact ⟨Ol1.out.1.drewN qq, Ol1.out.2⟩
  replace Oleft : Hid (Ow w26 0 left (dg Bs (A * B + A * C)) ∧ (dg Bs (A * B + A * C)).length ≤ 1048576 + (1048576 + 1048576 + 1)) := by rw [hq]; exact ⟨Oleft.out.1.drewN qq, Oleft.out.2⟩
  replace Or1 : Hid (Ow w26 0 r1 (dg Bs (A * C)) ∧ (dg Bs (A * C)).length ≤ 1048576 + 1048576) := by rw [hq]; exact ⟨Or1.out.1.drewN qq, Or1.out.2⟩
  replace Oright : Hid (Ow w26 0 right (dg Bs (A * B + A * C)) ∧ (dg Bs (A * B + A * C)).length ≤ 1048576 + 1048576 + (1048576 + 1048576) + 1) := by rw [hq]; exact ⟨Oright.out.1.drewN qq, Oright.out.2⟩
  replace Onone : Hid (Ow w26 0 none (dg Bs (A)) ∧ (dg Bs (A)).length ≤ 1048576 + 0 + 1) := by rw [hq]; exact ⟨Onone.out.1.drewN qq, Onone.out.2⟩
  replace Oonce : Hid (Ow w26 0 once (dg Bs (A)) ∧ (dg Bs (A)).length ≤ 1048576 + 1) := by rw [hq]; exact ⟨Oonce.out.1.drewN qq, Oonce.out.2⟩
  replace Od : Hid (Ow w26 0 d (dg Bs (A)) ∧ (dg Bs (A)).length ≤ 1048576 + 1048576 + 1) := by rw [hq]; exact ⟨Od.out.1.drewN qq, Od.out.2⟩
  replace HB : Hid (Below w.heap.size w w26) := by rw [hq]; exact below_drewN HB.out qq
  clear hq
  have Cc := vcmp none a _ _ _ _ w26 (Onone.out.1.vl Onone.out.2) Ha.out (by decide) (by decide)
  rw [show cmp3 ((A : Nat) : Int) ((A : Nat) : Int) = 0 from cmp3_eq rfl] at Cc
  go_wp2_with fail
  refine Cc.mono ?_
  clear Cc
  rintro e w27 ⟨rfl, qq, hq⟩
  replace Ha : Hid (Vl w27 a (A) (1048576)) := by rw [hq]; exact Ha.out.drewN qq
  replace Hb : Hid (Vl w27 b (B) (1048576)) := by rw [hq]; exact Hb.out.drewN qq
  replace Hc : Hid (Vl w27 c (C) (1048576)) := by rw [hq]; exact Hc.out.drewN qq
  replace Os : Hid (Ow w27 0 s (dg Bs (A + B)) ∧ (dg Bs (A + B)).length ≤ 1048576 + 1048576 + 1) := by rw [hq]; exact ⟨Os.out.1.drewN qq, Os.out.2⟩
  replace Op : Hid (Ow w27 0 p (dg Bs (A * B)) ∧ (dg Bs (A * B)).length ≤ 1048576 + 1048576) := by rw [hq]; exact ⟨Op.out.1.drewN qq, Op.out.2⟩
  replace Ot : Hid (Ow w27 0 t (dg Bs (A + B + C)) ∧ (dg Bs (A + B + C)).length ≤ 1048576 + 1048576 + 1 + 1048576 + 1) := by rw [hq]; exact ⟨Ot.out.1.drewN qq, Ot.out.2⟩
  replace Oq : Hid (Ow w27 0 q (dg Bs (A * B * C)) ∧ (dg Bs (A * B * C)).length ≤ 1048576 + 1048576 + 1048576) := by rw [hq]; exact ⟨Oq.out.1.drewN qq, Oq.out.2⟩
  replace Os2 : Hid (Ow w27 0 s2 (dg Bs (A + B)) ∧ (dg Bs (A + B)).length ≤ 1048576 + 1048576 + 1) := by rw [hq]; exact ⟨Os2.out.1.drewN qq, Os2.out.2⟩
  replace Op2 : Hid (Ow w27 0 p2 (dg Bs (A * B)) ∧ (dg Bs (A * B)).length ≤ 1048576 + 1048576) := by rw [hq]; exact ⟨Op2.out.1.drewN qq, Op2.out.2⟩
  replace Ot1 : Hid (Ow w27 0 t1 (dg Bs (B + C)) ∧ (dg Bs (B + C)).length ≤ 1048576 + 1048576 + 1) := by rw [hq]; exact ⟨Ot1.out.1.drewN qq, Ot1.out.2⟩
  replace Ot2 : Hid (Ow w27 0 t2 (dg Bs (A + B + C)) ∧ (dg Bs (A + B + C)).length ≤ 1048576 + (1048576 + 1048576 + 1) + 1) := by rw [hq]; exact ⟨Ot2.out.1.drewN qq, Ot2.out.2⟩
  replace Oq1 : Hid (Ow w27 0 q1 (dg Bs (B * C)) ∧ (dg Bs (B * C)).length ≤ 1048576 + 1048576) := by rw [hq]; exact ⟨Oq1.out.1.drewN qq, Oq1.out.2⟩
  replace Oq2 : Hid (Ow w27 0 q2 (dg Bs (A * B * C)) ∧ (dg Bs (A * B * C)).length ≤ 1048576 + (1048576 + 1048576)) := by rw [hq]; exact ⟨Oq2.out.1.drewN qq, Oq2.out.2⟩
  replace Ol1 : Hid (Ow w27 0 l1 (dg Bs (B + C)) ∧ (dg Bs (B + C)).length ≤ 1048576 + 1048576 + 1) := by rw [hq]; exact ⟨Ol1.out.1.drewN qq, Ol1.out.2⟩
  replace Oleft : Hid (Ow w27 0 left (dg Bs (A * B + A * C)) ∧ (dg Bs (A * B + A * C)).length ≤ 1048576 + (1048576 + 1048576 + 1)) := by rw [hq]; exact ⟨Oleft.out.1.drewN qq, Oleft.out.2⟩
  replace Or1 : Hid (Ow w27 0 r1 (dg Bs (A * C)) ∧ (dg Bs (A * C)).length ≤ 1048576 + 1048576) := by rw [hq]; exact ⟨Or1.out.1.drewN qq, Or1.out.2⟩
  replace Oright : Hid (Ow w27 0 right (dg Bs (A * B + A * C)) ∧ (dg Bs (A * B + A * C)).length ≤ 1048576 + 1048576 + (1048576 + 1048576) + 1) := by rw [hq]; exact ⟨Oright.out.1.drewN qq, Oright.out.2⟩
  replace Onone : Hid (Ow w27 0 none (dg Bs (A)) ∧ (dg Bs (A)).length ≤ 1048576 + 0 + 1) := by rw [hq]; exact ⟨Onone.out.1.drewN qq, Onone.out.2⟩
  replace Oonce : Hid (Ow w27 0 once (dg Bs (A)) ∧ (dg Bs (A)).length ≤ 1048576 + 1) := by rw [hq]; exact ⟨Oonce.out.1.drewN qq, Oonce.out.2⟩
  replace Od : Hid (Ow w27 0 d (dg Bs (A)) ∧ (dg Bs (A)).length ≤ 1048576 + 1048576 + 1) := by rw [hq]; exact ⟨Od.out.1.drewN qq, Od.out.2⟩
  replace HB : Hid (Below w.heap.size w w27) := by rw [hq]; exact below_drewN HB.out qq
  clear hq
  have Cc := vsame once none (A) w27 0 0 Oonce.out.1 (by have h := Onone.out.1; exact h) (Nat.le_trans Oonce.out.2 (by decide))
  go_wp2_with fail
  refine Cc.mono ?_
  clear Cc
  rintro e w28 ⟨rfl, qq, hq⟩
  replace Ha : Hid (Vl w28 a (A) (1048576)) := by rw [hq]; exact Ha.out.drewN qq
  replace Hb : Hid (Vl w28 b (B) (1048576)) := by rw [hq]; exact Hb.out.drewN qq
  replace Hc : Hid (Vl w28 c (C) (1048576)) := by rw [hq]; exact Hc.out.drewN qq
  replace Os : Hid (Ow w28 0 s (dg Bs (A + B)) ∧ (dg Bs (A + B)).length ≤ 1048576 + 1048576 + 1) := by rw [hq]; exact ⟨Os.out.1.drewN qq, Os.out.2⟩
  replace Op : Hid (Ow w28 0 p (dg Bs (A * B)) ∧ (dg Bs (A * B)).length ≤ 1048576 + 1048576) := by rw [hq]; exact ⟨Op.out.1.drewN qq, Op.out.2⟩
  replace Ot : Hid (Ow w28 0 t (dg Bs (A + B + C)) ∧ (dg Bs (A + B + C)).length ≤ 1048576 + 1048576 + 1 + 1048576 + 1) := by rw [hq]; exact ⟨Ot.out.1.drewN qq, Ot.out.2⟩
  replace Oq : Hid (Ow w28 0 q (dg Bs (A * B * C)) ∧ (dg Bs (A * B * C)).length ≤ 1048576 + 1048576 + 1048576) := by rw [hq]; exact ⟨Oq.out.1.drewN qq, Oq.out.2⟩
  replace Os2 : Hid (Ow w28 0 s2 (dg Bs (A + B)) ∧ (dg Bs (A + B)).length ≤ 1048576 + 1048576 + 1) := by rw [hq]; exact ⟨Os2.out.1.drewN qq, Os2.out.2⟩
  replace Op2 : Hid (Ow w28 0 p2 (dg Bs (A * B)) ∧ (dg Bs (A * B)).length ≤ 1048576 + 1048576) := by rw [hq]; exact ⟨Op2.out.1.drewN qq, Op2.out.2⟩
  replace Ot1 : Hid (Ow w28 0 t1 (dg Bs (B + C)) ∧ (dg Bs (B + C)).length ≤ 1048576 + 1048576 + 1) := by rw [hq]; exact ⟨Ot1.out.1.drewN qq, Ot1.out.2⟩
  replace Ot2 : Hid (Ow w28 0 t2 (dg Bs (A + B + C)) ∧ (dg Bs (A + B + C)).length ≤ 1048576 + (1048576 + 1048576 + 1) + 1) := by rw [hq]; exact ⟨Ot2.out.1.drewN qq, Ot2.out.2⟩
  replace Oq1 : Hid (Ow w28 0 q1 (dg Bs (B * C)) ∧ (dg Bs (B * C)).length ≤ 1048576 + 1048576) := by rw [hq]; exact ⟨Oq1.out.1.drewN qq, Oq1.out.2⟩
  replace Oq2 : Hid (Ow w28 0 q2 (dg Bs (A * B * C)) ∧ (dg Bs (A * B * C)).length ≤ 1048576 + (1048576 + 1048576)) := by rw [hq]; exact ⟨Oq2.out.1.drewN qq, Oq2.out.2⟩
  replace Ol1 : Hid (Ow w28 0 l1 (dg Bs (B + C)) ∧ (dg Bs (B + C)).length ≤ 1048576 + 1048576 + 1) := by rw [hq]; exact ⟨Ol1.out.1.drewN qq, Ol1.out.2⟩
  replace Oleft : Hid (Ow w28 0 left (dg Bs (A * B + A * C)) ∧ (dg Bs (A * B + A * C)).length ≤ 1048576 + (1048576 + 1048576 + 1)) := by rw [hq]; exact ⟨Oleft.out.1.drewN qq, Oleft.out.2⟩
  replace Or1 : Hid (Ow w28 0 r1 (dg Bs (A * C)) ∧ (dg Bs (A * C)).length ≤ 1048576 + 1048576) := by rw [hq]; exact ⟨Or1.out.1.drewN qq, Or1.out.2⟩
  replace Oright : Hid (Ow w28 0 right (dg Bs (A * B + A * C)) ∧ (dg Bs (A * B + A * C)).length ≤ 1048576 + 1048576 + (1048576 + 1048576) + 1) := by rw [hq]; exact ⟨Oright.out.1.drewN qq, Oright.out.2⟩
  replace Onone : Hid (Ow w28 0 none (dg Bs (A)) ∧ (dg Bs (A)).length ≤ 1048576 + 0 + 1) := by rw [hq]; exact ⟨Onone.out.1.drewN qq, Onone.out.2⟩
  replace Oonce : Hid (Ow w28 0 once (dg Bs (A)) ∧ (dg Bs (A)).length ≤ 1048576 + 1) := by rw [hq]; exact ⟨Oonce.out.1.drewN qq, Oonce.out.2⟩
  replace Od : Hid (Ow w28 0 d (dg Bs (A)) ∧ (dg Bs (A)).length ≤ 1048576 + 1048576 + 1) := by rw [hq]; exact ⟨Od.out.1.drewN qq, Od.out.2⟩
  replace HB : Hid (Below w.heap.size w w28) := by rw [hq]; exact below_drewN HB.out qq
  clear hq
  have Cc := vsame d none (A) w28 0 0 Od.out.1 (by have h := Onone.out.1; exact h) (Nat.le_trans Od.out.2 (by decide))
  go_wp2_with fail
  refine Cc.mono ?_
  clear Cc
  rintro e w29 ⟨rfl, qq, hq⟩
  replace Ha : Hid (Vl w29 a (A) (1048576)) := by rw [hq]; exact Ha.out.drewN qq
  replace Hb : Hid (Vl w29 b (B) (1048576)) := by rw [hq]; exact Hb.out.drewN qq
  replace Hc : Hid (Vl w29 c (C) (1048576)) := by rw [hq]; exact Hc.out.drewN qq
  replace Os : Hid (Ow w29 0 s (dg Bs (A + B)) ∧ (dg Bs (A + B)).length ≤ 1048576 + 1048576 + 1) := by rw [hq]; exact ⟨Os.out.1.drewN qq, Os.out.2⟩
  replace Op : Hid (Ow w29 0 p (dg Bs (A * B)) ∧ (dg Bs (A * B)).length ≤ 1048576 + 1048576) := by rw [hq]; exact ⟨Op.out.1.drewN qq, Op.out.2⟩
  replace Ot : Hid (Ow w29 0 t (dg Bs (A + B + C)) ∧ (dg Bs (A + B + C)).length ≤ 1048576 + 1048576 + 1 + 1048576 + 1) := by rw [hq]; exact ⟨Ot.out.1.drewN qq, Ot.out.2⟩
  replace Oq : Hid (Ow w29 0 q (dg Bs (A * B * C)) ∧ (dg Bs (A * B * C)).length ≤ 1048576 + 1048576 + 1048576) := by rw [hq]; exact ⟨Oq.out.1.drewN qq, Oq.out.2⟩
  replace Os2 : Hid (Ow w29 0 s2 (dg Bs (A + B)) ∧ (dg Bs (A + B)).length ≤ 1048576 + 1048576 + 1) := by rw [hq]; exact ⟨Os2.out.1.drewN qq, Os2.out.2⟩
  replace Op2 : Hid (Ow w29 0 p2 (dg Bs (A * B)) ∧ (dg Bs (A * B)).length ≤ 1048576 + 1048576) := by rw [hq]; exact ⟨Op2.out.1.drewN qq, Op2.out.2⟩
  replace Ot1 : Hid (Ow w29 0 t1 (dg Bs (B + C)) ∧ (dg Bs (B + C)).length ≤ 1048576 + 1048576 + 1) := by rw [hq]; exact ⟨Ot1.out.1.drewN qq, Ot1.out.2⟩
  replace Ot2 : Hid (Ow w29 0 t2 (dg Bs (A + B + C)) ∧ (dg Bs (A + B + C)).length ≤ 1048576 + (1048576 + 1048576 + 1) + 1) := by rw [hq]; exact ⟨Ot2.out.1.drewN qq, Ot2.out.2⟩
  replace Oq1 : Hid (Ow w29 0 q1 (dg Bs (B * C)) ∧ (dg Bs (B * C)).length ≤ 1048576 + 1048576) := by rw [hq]; exact ⟨Oq1.out.1.drewN qq, Oq1.out.2⟩
  replace Oq2 : Hid (Ow w29 0 q2 (dg Bs (A * B * C)) ∧ (dg Bs (A * B * C)).length ≤ 1048576 + (1048576 + 1048576)) := by rw [hq]; exact ⟨Oq2.out.1.drewN qq, Oq2.out.2⟩
  replace Ol1 : Hid (Ow w29 0 l1 (dg Bs (B + C)) ∧ (dg Bs (B + C)).length ≤ 1048576 + 1048576 + 1) := by rw [hq]; exact ⟨Ol1.out.1.drewN qq, Ol1.out.2⟩
  replace Oleft : Hid (Ow w29 0 left (dg Bs (A * B + A * C)) ∧ (dg Bs (A * B + A * C)).length ≤ 1048576 + (1048576 + 1048576 + 1)) := by rw [hq]; exact ⟨Oleft.out.1.drewN qq, Oleft.out.2⟩
  replace Or1 : Hid (Ow w29 0 r1 (dg Bs (A * C)) ∧ (dg Bs (A * C)).length ≤ 1048576 + 1048576) := by rw [hq]; exact ⟨Or1.out.1.drewN qq, Or1.out.2⟩
  replace Oright : Hid (Ow w29 0 right (dg Bs (A * B + A * C)) ∧ (dg Bs (A * B + A * C)).length ≤ 1048576 + 1048576 + (1048576 + 1048576) + 1) := by rw [hq]; exact ⟨Oright.out.1.drewN qq, Oright.out.2⟩
  replace Onone : Hid (Ow w29 0 none (dg Bs (A)) ∧ (dg Bs (A)).length ≤ 1048576 + 0 + 1) := by rw [hq]; exact ⟨Onone.out.1.drewN qq, Onone.out.2⟩
  replace Oonce : Hid (Ow w29 0 once (dg Bs (A)) ∧ (dg Bs (A)).length ≤ 1048576 + 1) := by rw [hq]; exact ⟨Oonce.out.1.drewN qq, Oonce.out.2⟩
  replace Od : Hid (Ow w29 0 d (dg Bs (A)) ∧ (dg Bs (A)).length ≤ 1048576 + 1048576 + 1) := by rw [hq]; exact ⟨Od.out.1.drewN qq, Od.out.2⟩
  replace HB : Hid (Below w.heap.size w w29) := by rw [hq]; exact below_drewN HB.out qq
  clear hq
  have Cc := vsub a b _ _ _ _ w29 Ha.out Hb.out (by decide) (by decide)
  rw [decide_eq_true H0.out] at Cc
  go_wp2_with fail
  refine Cc.mono ?_
  clear Cc
  rintro e w30 ⟨e1, rfl, hnew⟩
  have hbel := hnew.2.2
  replace Ha : Hid (Vl w30 a (A) (1048576)) := Ha.out.below hbel (Nat.le_refl _)
  replace Hb : Hid (Vl w30 b (B) (1048576)) := Hb.out.below hbel (Nat.le_refl _)
  replace Hc : Hid (Vl w30 c (C) (1048576)) := Hc.out.below hbel (Nat.le_refl _)
  replace Os : Hid (Ow w30 0 s (dg Bs (A + B)) ∧ (dg Bs (A + B)).length ≤ 1048576 + 1048576 + 1) := ⟨Os.out.1.below hbel (Nat.le_refl _), Os.out.2⟩
  replace Op : Hid (Ow w30 0 p (dg Bs (A * B)) ∧ (dg Bs (A * B)).length ≤ 1048576 + 1048576) := ⟨Op.out.1.below hbel (Nat.le_refl _), Op.out.2⟩
  replace Ot : Hid (Ow w30 0 t (dg Bs (A + B + C)) ∧ (dg Bs (A + B + C)).length ≤ 1048576 + 1048576 + 1 + 1048576 + 1) := ⟨Ot.out.1.below hbel (Nat.le_refl _), Ot.out.2⟩
  replace Oq : Hid (Ow w30 0 q (dg Bs (A * B * C)) ∧ (dg Bs (A * B * C)).length ≤ 1048576 + 1048576 + 1048576) := ⟨Oq.out.1.below hbel (Nat.le_refl _), Oq.out.2⟩
  replace Os2 : Hid (Ow w30 0 s2 (dg Bs (A + B)) ∧ (dg Bs (A + B)).length ≤ 1048576 + 1048576 + 1) := ⟨Os2.out.1.below hbel (Nat.le_refl _), Os2.out.2⟩
  replace Op2 : Hid (Ow w30 0 p2 (dg Bs (A * B)) ∧ (dg Bs (A * B)).length ≤ 1048576 + 1048576) := ⟨Op2.out.1.below hbel (Nat.le_refl _), Op2.out.2⟩
  replace Ot1 : Hid (Ow w30 0 t1 (dg Bs (B + C)) ∧ (dg Bs (B + C)).length ≤ 1048576 + 1048576 + 1) := ⟨Ot1.out.1.below hbel (Nat.le_refl _), Ot1.out.2⟩
  replace Ot2 : Hid (Ow w30 0 t2 (dg Bs (A + B + C)) ∧ (dg Bs (A + B + C)).length ≤ 1048576 + (1048576 + 1048576 + 1) + 1) := ⟨Ot2.out.1.below hbel (Nat.le_refl _), Ot2.out.2⟩
  replace Oq1 : Hid (Ow w30 0 q1 (dg Bs (B * C)) ∧ (dg Bs (B * C)).length ≤ 1048576 + 1048576) := ⟨Oq1.out.1.below hbel (Nat.le_refl _), Oq1.out.2⟩
  replace Oq2 : Hid (Ow w30 0 q2 (dg Bs (A * B * C)) ∧ (dg Bs (A * B * C)).length ≤ 1048576 + (1048576 + 1048576)) := ⟨Oq2.out.1.below hbel (Nat.le_refl _), Oq2.out.2⟩
  replace Ol1 : Hid (Ow w30 0 l1 (dg Bs (B + C)) ∧ (dg Bs (B + C)).length ≤ 1048576 + 1048576 + 1) := ⟨Ol1.out.1.below hbel (Nat.le_refl _), Ol1.out.2⟩
  replace Oleft : Hid (Ow w30 0 left (dg Bs (A * B + A * C)) ∧ (dg Bs (A * B + A * C)).length ≤ 1048576 + (1048576 + 1048576 + 1)) := ⟨Oleft.out.1.below hbel (Nat.le_refl _), Oleft.out.2⟩
  replace Or1 : Hid (Ow w30 0 r1 (dg Bs (A * C)) ∧ (dg Bs (A * C)).length ≤ 1048576 + 1048576) := ⟨Or1.out.1.below hbel (Nat.le_refl _), Or1.out.2⟩
  replace Oright : Hid (Ow w30 0 right (dg Bs (A * B + A * C)) ∧ (dg Bs (A * B + A * C)).length ≤ 1048576 + 1048576 + (1048576 + 1048576) + 1) := ⟨Oright.out.1.below hbel (Nat.le_refl _), Oright.out.2⟩
  replace Onone : Hid (Ow w30 0 none (dg Bs (A)) ∧ (dg Bs (A)).length ≤ 1048576 + 0 + 1) := ⟨Onone.out.1.below hbel (Nat.le_refl _), Onone.out.2⟩
  replace Oonce : Hid (Ow w30 0 once (dg Bs (A)) ∧ (dg Bs (A)).length ≤ 1048576 + 1) := ⟨Oonce.out.1.below hbel (Nat.le_refl _), Oonce.out.2⟩
  replace Od : Hid (Ow w30 0 d (dg Bs (A)) ∧ (dg Bs (A)).length ≤ 1048576 + 1048576 + 1) := ⟨Od.out.1.below hbel (Nat.le_refl _), Od.out.2⟩
  replace HB : Hid (Below w.heap.size w w30) := HB.out.trans (hbel.mono HB.out.size)
  have Oe1 : Hid (Ow w30 0 e1 (dg Bs (A - B)) ∧ (dg Bs (A - B)).length ≤ 1048576) := ⟨hnew.1.base (Nat.zero_le _), hnew.2.1⟩
  clear hnew hbel
  obtain ⟨o, Ho, hoB⟩ : ∃ o : Int, Hid (cmp3 ((A : Nat) : Int) ((B : Nat) : Int) = o) ∧ decide (o ≥ 0) = true := by
    rcases Nat.lt_or_ge B A with h | h
    · exact ⟨1, cmp3_gt (by omega), by decide⟩
    · exact ⟨0, cmp3_eq (by have := H0.out; omega), by decide⟩
  have Cc := vcmp a b _ _ _ _ w30 Ha.out Hb.out (by decide) (by decide)
  rw [show cmp3 ((A : Nat) : Int) ((B : Nat) : Int) = o from Ho.out] at Cc
  go_wp2_with fail
  refine Cc.mono ?_
  clear Cc
  rintro e w31 ⟨rfl, qq, hq⟩
  replace Ha : Hid (Vl w31 a (A) (1048576)) := by rw [hq]; exact Ha.out.drewN qq
  replace Hb : Hid (Vl w31 b (B) (1048576)) := by rw [hq]; exact Hb.out.drewN qq
  replace Hc : Hid (Vl w31 c (C) (1048576)) := by rw [hq]; exact Hc.out.drewN qq
  replace Os : Hid (Ow w31 0 s (dg Bs (A + B)) ∧ (dg Bs (A + B)).length ≤ 1048576 + 1048576 + 1) := by rw [hq]; exact ⟨Os.out.1.drewN qq, Os.out.2⟩
  replace Op : Hid (Ow w31 0 p (dg Bs (A * B)) ∧ (dg Bs (A * B)).length ≤ 1048576 + 1048576) := by rw [hq]; exact ⟨Op.out.1.drewN qq, Op.out.2⟩
  replace Ot : Hid (Ow w31 0 t (dg Bs (A + B + C)) ∧ (dg Bs (A + B + C)).length ≤ 1048576 + 1048576 + 1 + 1048576 + 1) := by rw [hq]; exact ⟨Ot.out.1.drewN qq, Ot.out.2⟩
  replace Oq : Hid (Ow w31 0 q (dg Bs (A * B * C)) ∧ (dg Bs (A * B * C)).length ≤ 1048576 + 1048576 + 1048576) := by rw [hq]; exact ⟨Oq.out.1.drewN qq, Oq.out.2⟩
  replace Os2 : Hid (Ow w31 0 s2 (dg Bs (A + B)) ∧ (dg Bs (A + B)).length ≤ 1048576 + 1048576 + 1) := by rw [hq]; exact ⟨Os2.out.1.drewN qq, Os2.out.2⟩
  replace Op2 : Hid (Ow w31 0 p2 (dg Bs (A * B)) ∧ (dg Bs (A * B)).length ≤ 1048576 + 1048576) := by rw [hq]; exact ⟨Op2.out.1.drewN qq, Op2.out.2⟩
  replace Ot1 : Hid (Ow w31 0 t1 (dg Bs (B + C)) ∧ (dg Bs (B + C)).length ≤ 1048576 + 1048576 + 1) := by rw [hq]; exact ⟨Ot1.out.1.drewN qq, Ot1.out.2⟩
  replace Ot2 : Hid (Ow w31 0 t2 (dg Bs (A + B + C)) ∧ (dg Bs (A + B + C)).length ≤ 1048576 + (1048576 + 1048576 + 1) + 1) := by rw [hq]; exact ⟨Ot2.out.1.drewN qq, Ot2.out.2⟩
  replace Oq1 : Hid (Ow w31 0 q1 (dg Bs (B * C)) ∧ (dg Bs (B * C)).length ≤ 1048576 + 1048576) := by rw [hq]; exact ⟨Oq1.out.1.drewN qq, Oq1.out.2⟩
  replace Oq2 : Hid (Ow w31 0 q2 (dg Bs (A * B * C)) ∧ (dg Bs (A * B * C)).length ≤ 1048576 + (1048576 + 1048576)) := by rw [hq]; exact ⟨Oq2.out.1.drewN qq, Oq2.out.2⟩
  replace Ol1 : Hid (Ow w31 0 l1 (dg Bs (B + C)) ∧ (dg Bs (B + C)).length ≤ 1048576 + 1048576 + 1) := by rw [hq]; exact ⟨Ol1.out.1.drewN qq, Ol1.out.2⟩
  replace Oleft : Hid (Ow w31 0 left (dg Bs (A * B + A * C)) ∧ (dg Bs (A * B + A * C)).length ≤ 1048576 + (1048576 + 1048576 + 1)) := by rw [hq]; exact ⟨Oleft.out.1.drewN qq, Oleft.out.2⟩
  replace Or1 : Hid (Ow w31 0 r1 (dg Bs (A * C)) ∧ (dg Bs (A * C)).length ≤ 1048576 + 1048576) := by rw [hq]; exact ⟨Or1.out.1.drewN qq, Or1.out.2⟩
  replace Oright : Hid (Ow w31 0 right (dg Bs (A * B + A * C)) ∧ (dg Bs (A * B + A * C)).length ≤ 1048576 + 1048576 + (1048576 + 1048576) + 1) := by rw [hq]; exact ⟨Oright.out.1.drewN qq, Oright.out.2⟩
  replace Onone : Hid (Ow w31 0 none (dg Bs (A)) ∧ (dg Bs (A)).length ≤ 1048576 + 0 + 1) := by rw [hq]; exact ⟨Onone.out.1.drewN qq, Onone.out.2⟩
  replace Oonce : Hid (Ow w31 0 once (dg Bs (A)) ∧ (dg Bs (A)).length ≤ 1048576 + 1) := by rw [hq]; exact ⟨Oonce.out.1.drewN qq, Oonce.out.2⟩
  replace Od : Hid (Ow w31 0 d (dg Bs (A)) ∧ (dg Bs (A)).length ≤ 1048576 + 1048576 + 1) := by rw [hq]; exact ⟨Od.out.1.drewN qq, Od.out.2⟩
  replace Oe1 : Hid (Ow w31 0 e1 (dg Bs (A - B)) ∧ (dg Bs (A - B)).length ≤ 1048576) := by rw [hq]; exact ⟨Oe1.out.1.drewN qq, Oe1.out.2⟩
  replace HB : Hid (Below w.heap.size w w31) := by rw [hq]; exact below_drewN HB.out qq
  clear hq
  have Cc := vadd e1 b _ _ _ _ w31 (Oe1.out.1.vl Oe1.out.2) Hb.out (by decide) (by decide)
  rw [Nat.sub_add_cancel H0.out] at Cc
  go_wp2_with fail
  refine Cc.mono ?_
  clear Cc
  rintro e w32 ⟨e2, rfl, hnew⟩
  have hbel := hnew.2.2
  replace Ha : Hid (Vl w32 a (A) (1048576)) := Ha.out.below hbel (Nat.le_refl _)
  replace Hb : Hid (Vl w32 b (B) (1048576)) := Hb.out.below hbel (Nat.le_refl _)
  replace Hc : Hid (Vl w32 c (C) (1048576)) := Hc.out.below hbel (Nat.le_refl _)
  replace Os : Hid (Ow w32 0 s (dg Bs (A + B)) ∧ (dg Bs (A + B)).length ≤ 1048576 + 1048576 + 1) := ⟨Os.out.1.below hbel (Nat.le_refl _), Os.out.2⟩
  replace Op : Hid (Ow w32 0 p (dg Bs (A * B)) ∧ (dg Bs (A * B)).length ≤ 1048576 + 1048576) := ⟨Op.out.1.below hbel (Nat.le_refl _), Op.out.2⟩
  replace Ot : Hid (Ow w32 0 t (dg Bs (A + B + C)) ∧ (dg Bs (A + B + C)).length ≤ 1048576 + 1048576 + 1 + 1048576 + 1) := ⟨Ot.out.1.below hbel (Nat.le_refl _), Ot.out.2⟩
  replace Oq : Hid (Ow w32 0 q (dg Bs (A * B * C)) ∧ (dg Bs (A * B * C)).length ≤ 1048576 + 1048576 + 1048576) := ⟨Oq.out.1.below hbel (Nat.le_refl _), Oq.out.2⟩
  replace Os2 : Hid (Ow w32 0 s2 (dg Bs (A + B)) ∧ (dg Bs (A + B)).length ≤ 1048576 + 1048576 + 1) := ⟨Os2.out.1.below hbel (Nat.le_refl _), Os2.out.2⟩
  replace Op2 : Hid (Ow w32 0 p2 (dg Bs (A * B)) ∧ (dg Bs (A * B)).length ≤ 1048576 + 1048576) := ⟨Op2.out.1.below hbel (Nat.le_refl _), Op2.out.2⟩
  replace Ot1 : Hid (Ow w32 0 t1 (dg Bs (B + C)) ∧ (dg Bs (B + C)).length ≤ 1048576 + 1048576 + 1) := ⟨Ot1.out.1.below hbel (Nat.le_refl _), Ot1.out.2⟩
  replace Ot2 : Hid (Ow w32 0 t2 (dg Bs (A + B + C)) ∧ (dg Bs (A + B + C)).length ≤ 1048576 + (1048576 + 1048576 + 1) + 1) := ⟨Ot2.out.1.below hbel (Nat.le_refl _), Ot2.out.2⟩
  replace Oq1 : Hid (Ow w32 0 q1 (dg Bs (B * C)) ∧ (dg Bs (B * C)).length ≤ 1048576 + 1048576) := ⟨Oq1.out.1.below hbel (Nat.le_refl _), Oq1.out.2⟩
  replace Oq2 : Hid (Ow w32 0 q2 (dg Bs (A * B * C)) ∧ (dg Bs (A * B * C)).length ≤ 1048576 + (1048576 + 1048576)) := ⟨Oq2.out.1.below hbel (Nat.le_refl _), Oq2.out.2⟩
  replace Ol1 : Hid (Ow w32 0 l1 (dg Bs (B + C)) ∧ (dg Bs (B + C)).length ≤ 1048576 + 1048576 + 1) := ⟨Ol1.out.1.below hbel (Nat.le_refl _), Ol1.out.2⟩
  replace Oleft : Hid (Ow w32 0 left (dg Bs (A * B + A * C)) ∧ (dg Bs (A * B + A * C)).length ≤ 1048576 + (1048576 + 1048576 + 1)) := ⟨Oleft.out.1.below hbel (Nat.le_refl _), Oleft.out.2⟩
  replace Or1 : Hid (Ow w32 0 r1 (dg Bs (A * C)) ∧ (dg Bs (A * C)).length ≤ 1048576 + 1048576) := ⟨Or1.out.1.below hbel (Nat.le_refl _), Or1.out.2⟩
  replace Oright : Hid (Ow w32 0 right (dg Bs (A * B + A * C)) ∧ (dg Bs (A * B + A * C)).length ≤ 1048576 + 1048576 + (1048576 + 1048576) + 1) := ⟨Oright.out.1.below hbel (Nat.le_refl _), Oright.out.2⟩
  replace Onone : Hid (Ow w32 0 none (dg Bs (A)) ∧ (dg Bs (A)).length ≤ 1048576 + 0 + 1) := ⟨Onone.out.1.below hbel (Nat.le_refl _), Onone.out.2⟩
  replace Oonce : Hid (Ow w32 0 once (dg Bs (A)) ∧ (dg Bs (A)).length ≤ 1048576 + 1) := ⟨Oonce.out.1.below hbel (Nat.le_refl _), Oonce.out.2⟩
  replace Od : Hid (Ow w32 0 d (dg Bs (A)) ∧ (dg Bs (A)).length ≤ 1048576 + 1048576 + 1) := ⟨Od.out.1.below hbel (Nat.le_refl _), Od.out.2⟩
  replace Oe1 : Hid (Ow w32 0 e1 (dg Bs (A - B)) ∧ (dg Bs (A - B)).length ≤ 1048576) := ⟨Oe1.out.1.below hbel (Nat.le_refl _), Oe1.out.2⟩
  replace HB : Hid (Below w.heap.size w w32) := HB.out.trans (hbel.mono HB.out.size)
  have Oe2 : Hid (Ow w32 0 e2 (dg Bs (A)) ∧ (dg Bs (A)).length ≤ 1048576 + 1048576 + 1) := ⟨hnew.1.base (Nat.zero_le _), hnew.2.1⟩
  clear hnew hbel
  have Cc := vcmp e2 a _ _ _ _ w32 (Oe2.out.1.vl Oe2.out.2) Ha.out (by decide) (by decide)
  rw [show cmp3 ((A : Nat) : Int) ((A : Nat) : Int) = 0 from cmp3_eq rfl] at Cc
  go_wp2_with fail
  refine Cc.mono ?_
  clear Cc
  rintro e w33 ⟨rfl, qq, hq⟩
  replace Ha : Hid (Vl w33 a (A) (1048576)) := by rw [hq]; exact Ha.out.drewN qq
  replace Hb : Hid (Vl w33 b (B) (1048576)) := by rw [hq]; exact Hb.out.drewN qq
  replace Hc : Hid (Vl w33 c (C) (1048576)) := by rw [hq]; exact Hc.out.drewN qq
  replace Os : Hid (Ow w33 0 s (dg Bs (A + B)) ∧ (dg Bs (A + B)).length ≤ 1048576 + 1048576 + 1) := by rw [hq]; exact ⟨Os.out.1.drewN qq, Os.out.2⟩
  replace Op : Hid (Ow w33 0 p (dg Bs (A * B)) ∧ (dg Bs (A * B)).length ≤ 1048576 + 1048576) := by rw [hq]; exact ⟨Op.out.1.drewN qq, Op.out.2⟩
  replace Ot : Hid (Ow w33 0 t (dg Bs (A + B + C)) ∧ (dg Bs (A + B + C)).length ≤ 1048576 + 1048576 + 1 + 1048576 + 1) := by rw [hq]; exact ⟨Ot.out.1.drewN qq, Ot.out.2⟩
  replace Oq : Hid (Ow w33 0 q (dg Bs (A * B * C)) ∧ (dg Bs (A * B * C)).length ≤ 1048576 + 1048576 + 1048576) := by rw [hq]; exact ⟨Oq.out.1.drewN qq, Oq.out.2⟩
  replace Os2 : Hid (Ow w33 0 s2 (dg Bs (A + B)) ∧ (dg Bs (A + B)).length ≤ 1048576 + 1048576 + 1) := by rw [hq]; exact ⟨Os2.out.1.drewN qq, Os2.out.2⟩
  replace Op2 : Hid (Ow w33 0 p2 (dg Bs (A * B)) ∧ (dg Bs (A * B)).length ≤ 1048576 + 1048576) := by rw [hq]; exact ⟨Op2.out.1.drewN qq, Op2.out.2⟩
  replace Ot1 : Hid (Ow w33 0 t1 (dg Bs (B + C)) ∧ (dg Bs (B + C)).length ≤ 1048576 + 1048576 + 1) := by rw [hq]; exact ⟨Ot1.out.1.drewN qq, Ot1.out.2⟩
  replace Ot2 : Hid (Ow w33 0 t2 (dg Bs (A + B + C)) ∧ (dg Bs (A + B + C)).length ≤ 1048576 + (1048576 + 1048576 + 1) + 1) := by rw [hq]; exact ⟨Ot2.out.1.drewN qq, Ot2.out.2⟩
  replace Oq1 : Hid (Ow w33 0 q1 (dg Bs (B * C)) ∧ (dg Bs (B * C)).length ≤ 1048576 + 1048576) := by rw [hq]; exact ⟨Oq1.out.1.drewN qq, Oq1.out.2⟩
  replace Oq2 : Hid (Ow w33 0 q2 (dg Bs (A * B * C)) ∧ (dg Bs (A * B * C)).length ≤ 1048576 + (1048576 + 1048576)) := by rw [hq]; exact ⟨Oq2.out.1.drewN qq, Oq2.out.2⟩
  replace Ol1 : Hid (Ow w33 0 l1 (dg Bs (B + C)) ∧ (dg Bs (B + C)).length ≤ 1048576 + 1048576 + 1) := by rw [hq]; exact ⟨Ol1.out.1.drewN qq, Ol1.out.2⟩
  replace Oleft : Hid (Ow w33 0 left (dg Bs (A * B + A * C)) ∧ (dg Bs (A * B + A * C)).length ≤ 1048576 + (1048576 + 1048576 + 1)) := by rw [hq]; exact ⟨Oleft.out.1.drewN qq, Oleft.out.2⟩
  replace Or1 : Hid (Ow w33 0 r1 (dg Bs (A * C)) ∧ (dg Bs (A * C)).length ≤ 1048576 + 1048576) := by rw [hq]; exact ⟨Or1.out.1.drewN qq, Or1.out.2⟩
  replace Oright : Hid (Ow w33 0 right (dg Bs (A * B + A * C)) ∧ (dg Bs (A * B + A * C)).length ≤ 1048576 + 1048576 + (1048576 + 1048576) + 1) := by rw [hq]; exact ⟨Oright.out.1.drewN qq, Oright.out.2⟩
  replace Onone : Hid (Ow w33 0 none (dg Bs (A)) ∧ (dg Bs (A)).length ≤ 1048576 + 0 + 1) := by rw [hq]; exact ⟨Onone.out.1.drewN qq, Onone.out.2⟩
  replace Oonce : Hid (Ow w33 0 once (dg Bs (A)) ∧ (dg Bs (A)).length ≤ 1048576 + 1) := by rw [hq]; exact ⟨Oonce.out.1.drewN qq, Oonce.out.2⟩
  replace Od : Hid (Ow w33 0 d (dg Bs (A)) ∧ (dg Bs (A)).length ≤ 1048576 + 1048576 + 1) := by rw [hq]; exact ⟨Od.out.1.drewN qq, Od.out.2⟩
  replace Oe1 : Hid (Ow w33 0 e1 (dg Bs (A - B)) ∧ (dg Bs (A - B)).length ≤ 1048576) := by rw [hq]; exact ⟨Oe1.out.1.drewN qq, Oe1.out.2⟩
  replace Oe2 : Hid (Ow w33 0 e2 (dg Bs (A)) ∧ (dg Bs (A)).length ≤ 1048576 + 1048576 + 1) := by rw [hq]; exact ⟨Oe2.out.1.drewN qq, Oe2.out.2⟩
  replace HB : Hid (Below w.heap.size w w33) := by rw [hq]; exact below_drewN HB.out qq
  clear hq
  go_wp2
  go_ret
  exact ⟨rfl, HB.out⟩

set_option maxHeartbeats 4000000 in
theorem ring_lt (a b c : Value) (A B C : Nat) (w : World) (ha : Vl w a A 1048576) (hb : Vl w b B 1048576) (hc : Vl w c C 1048576) (h0 : A < B) :
    Calls Try.prog 6 #[a, b, c] w fun e w' => e = .returned (.bool true) ∧ Below w.heap.size w w' := by
  have H0 : Hid (A < B) := h0
  clear h0
  have Ha : Hid (Vl w a A 1048576) := ha
  have Hb : Hid (Vl w b B 1048576) := hb
  have Hc : Hid (Vl w c C 1048576) := hc
  have HB : Hid (Below w.heap.size w w) := Below.refl _ _
  clear ha hb hc
  go_enter Try.func6, Try.ntmps6
  go_wp2_with fail
  refine (alive_any w).mono ?_
  rintro e w1 ⟨rfl, hbel⟩
  replace Ha : Hid (Vl w1 a (A) (1048576)) := Ha.out.below hbel (Nat.le_refl _)
  replace Hb : Hid (Vl w1 b (B) (1048576)) := Hb.out.below hbel (Nat.le_refl _)
  replace Hc : Hid (Vl w1 c (C) (1048576)) := Hc.out.below hbel (Nat.le_refl _)
  replace HB : Hid (Below w.heap.size w w1) := HB.out.trans (hbel.mono HB.out.size)
  clear hbel
  have Cc := vadd a b _ _ _ _ w1 Ha.out Hb.out (by decide) (by decide)
  go_wp2_with fail
  refine Cc.mono ?_
  clear Cc
  rintro e w2 ⟨s, rfl, hnew⟩
  have hbel := hnew.2.2
  replace Ha : Hid (Vl w2 a (A) (1048576)) := Ha.out.below hbel (Nat.le_refl _)
  replace Hb : Hid (Vl w2 b (B) (1048576)) := Hb.out.below hbel (Nat.le_refl _)
  replace Hc : Hid (Vl w2 c (C) (1048576)) := Hc.out.below hbel (Nat.le_refl _)
  replace HB : Hid (Below w.heap.size w w2) := HB.out.trans (hbel.mono HB.out.size)
  have Os : Hid (Ow w2 0 s (dg Bs (A + B)) ∧ (dg Bs (A + B)).length ≤ 1048576 + 1048576 + 1) := ⟨hnew.1.base (Nat.zero_le _), hnew.2.1⟩
  clear hnew hbel
  have Cc := vmul a b _ _ _ _ w2 Ha.out Hb.out (by decide) (by decide)
  go_wp2_with fail
  refine Cc.mono ?_
  clear Cc
  rintro e w3 ⟨p, rfl, hnew⟩
  have hbel := hnew.2.2
  replace Ha : Hid (Vl w3 a (A) (1048576)) := Ha.out.below hbel (Nat.le_refl _)
  replace Hb : Hid (Vl w3 b (B) (1048576)) := Hb.out.below hbel (Nat.le_refl _)
  replace Hc : Hid (Vl w3 c (C) (1048576)) := Hc.out.below hbel (Nat.le_refl _)
  replace Os : Hid (Ow w3 0 s (dg Bs (A + B)) ∧ (dg Bs (A + B)).length ≤ 1048576 + 1048576 + 1) := ⟨Os.out.1.below hbel (Nat.le_refl _), Os.out.2⟩
  replace HB : Hid (Below w.heap.size w w3) := HB.out.trans (hbel.mono HB.out.size)
  have Op : Hid (Ow w3 0 p (dg Bs (A * B)) ∧ (dg Bs (A * B)).length ≤ 1048576 + 1048576) := ⟨hnew.1.base (Nat.zero_le _), hnew.2.1⟩
  clear hnew hbel
  have Cc := vadd s c _ _ _ _ w3 (Os.out.1.vl Os.out.2) Hc.out (by decide) (by decide)
  go_wp2_with fail
  refine Cc.mono ?_
  clear Cc
  rintro e w4 ⟨t, rfl, hnew⟩
  have hbel := hnew.2.2
  replace Ha : Hid (Vl w4 a (A) (1048576)) := Ha.out.below hbel (Nat.le_refl _)
  replace Hb : Hid (Vl w4 b (B) (1048576)) := Hb.out.below hbel (Nat.le_refl _)
  replace Hc : Hid (Vl w4 c (C) (1048576)) := Hc.out.below hbel (Nat.le_refl _)
  replace Os : Hid (Ow w4 0 s (dg Bs (A + B)) ∧ (dg Bs (A + B)).length ≤ 1048576 + 1048576 + 1) := ⟨Os.out.1.below hbel (Nat.le_refl _), Os.out.2⟩
  replace Op : Hid (Ow w4 0 p (dg Bs (A * B)) ∧ (dg Bs (A * B)).length ≤ 1048576 + 1048576) := ⟨Op.out.1.below hbel (Nat.le_refl _), Op.out.2⟩
  replace HB : Hid (Below w.heap.size w w4) := HB.out.trans (hbel.mono HB.out.size)
  have Ot : Hid (Ow w4 0 t (dg Bs (A + B + C)) ∧ (dg Bs (A + B + C)).length ≤ 1048576 + 1048576 + 1 + 1048576 + 1) := ⟨hnew.1.base (Nat.zero_le _), hnew.2.1⟩
  clear hnew hbel
  have Cc := vmul p c _ _ _ _ w4 (Op.out.1.vl Op.out.2) Hc.out (by decide) (by decide)
  go_wp2_with fail
  refine Cc.mono ?_
  clear Cc
  rintro e w5 ⟨q, rfl, hnew⟩
  have hbel := hnew.2.2
  replace Ha : Hid (Vl w5 a (A) (1048576)) := Ha.out.below hbel (Nat.le_refl _)
  replace Hb : Hid (Vl w5 b (B) (1048576)) := Hb.out.below hbel (Nat.le_refl _)
  replace Hc : Hid (Vl w5 c (C) (1048576)) := Hc.out.below hbel (Nat.le_refl _)
  replace Os : Hid (Ow w5 0 s (dg Bs (A + B)) ∧ (dg Bs (A + B)).length ≤ 1048576 + 1048576 + 1) := ⟨Os.out.1.below hbel (Nat.le_refl _), Os.out.2⟩
  replace Op : Hid (Ow w5 0 p (dg Bs (A * B)) ∧ (dg Bs (A * B)).length ≤ 1048576 + 1048576) := ⟨Op.out.1.below hbel (Nat.le_refl _), Op.out.2⟩
  replace Ot : Hid (Ow w5 0 t (dg Bs (A + B + C)) ∧ (dg Bs (A + B + C)).length ≤ 1048576 + 1048576 + 1 + 1048576 + 1) := ⟨Ot.out.1.below hbel (Nat.le_refl _), Ot.out.2⟩
  replace HB : Hid (Below w.heap.size w w5) := HB.out.trans (hbel.mono HB.out.size)
  have Oq : Hid (Ow w5 0 q (dg Bs (A * B * C)) ∧ (dg Bs (A * B * C)).length ≤ 1048576 + 1048576 + 1048576) := ⟨hnew.1.base (Nat.zero_le _), hnew.2.1⟩
  clear hnew hbel
  have Cc := vadd b a _ _ _ _ w5 Hb.out Ha.out (by decide) (by decide)
  rw [Nat.add_comm B A] at Cc
  go_wp2_with fail
  refine Cc.mono ?_
  clear Cc
  rintro e w6 ⟨s2, rfl, hnew⟩
  have hbel := hnew.2.2
  replace Ha : Hid (Vl w6 a (A) (1048576)) := Ha.out.below hbel (Nat.le_refl _)
  replace Hb : Hid (Vl w6 b (B) (1048576)) := Hb.out.below hbel (Nat.le_refl _)
  replace Hc : Hid (Vl w6 c (C) (1048576)) := Hc.out.below hbel (Nat.le_refl _)
  replace Os : Hid (Ow w6 0 s (dg Bs (A + B)) ∧ (dg Bs (A + B)).length ≤ 1048576 + 1048576 + 1) := ⟨Os.out.1.below hbel (Nat.le_refl _), Os.out.2⟩
  replace Op : Hid (Ow w6 0 p (dg Bs (A * B)) ∧ (dg Bs (A * B)).length ≤ 1048576 + 1048576) := ⟨Op.out.1.below hbel (Nat.le_refl _), Op.out.2⟩
  replace Ot : Hid (Ow w6 0 t (dg Bs (A + B + C)) ∧ (dg Bs (A + B + C)).length ≤ 1048576 + 1048576 + 1 + 1048576 + 1) := ⟨Ot.out.1.below hbel (Nat.le_refl _), Ot.out.2⟩
  replace Oq : Hid (Ow w6 0 q (dg Bs (A * B * C)) ∧ (dg Bs (A * B * C)).length ≤ 1048576 + 1048576 + 1048576) := ⟨Oq.out.1.below hbel (Nat.le_refl _), Oq.out.2⟩
  replace HB : Hid (Below w.heap.size w w6) := HB.out.trans (hbel.mono HB.out.size)
  have Os2 : Hid (Ow w6 0 s2 (dg Bs (A + B)) ∧ (dg Bs (A + B)).length ≤ 1048576 + 1048576 + 1) := ⟨hnew.1.base (Nat.zero_le _), hnew.2.1⟩
  clear hnew hbel
  have Cc := vsame s s2 (A + B) w6 0 0 Os.out.1 (by have h := Os2.out.1; exact h) (Nat.le_trans Os.out.2 (by decide))
  go_wp2_with fail
  refine Cc.mono ?_
  clear Cc
  rintro e w7 ⟨rfl, qq, hq⟩
  replace Ha : Hid (Vl w7 a (A) (1048576)) := by rw [hq]; exact Ha.out.drewN qq
  replace Hb : Hid (Vl w7 b (B) (1048576)) := by rw [hq]; exact Hb.out.drewN qq
  replace Hc : Hid (Vl w7 c (C) (1048576)) := by rw [hq]; exact Hc.out.drewN qq
  replace Os : Hid (Ow w7 0 s (dg Bs (A + B)) ∧ (dg Bs (A + B)).length ≤ 1048576 + 1048576 + 1) := by rw [hq]; exact ⟨Os.out.1.drewN qq, Os.out.2⟩
  replace Op : Hid (Ow w7 0 p (dg Bs (A * B)) ∧ (dg Bs (A * B)).length ≤ 1048576 + 1048576) := by rw [hq]; exact ⟨Op.out.1.drewN qq, Op.out.2⟩
  replace Ot : Hid (Ow w7 0 t (dg Bs (A + B + C)) ∧ (dg Bs (A + B + C)).length ≤ 1048576 + 1048576 + 1 + 1048576 + 1) := by rw [hq]; exact ⟨Ot.out.1.drewN qq, Ot.out.2⟩
  replace Oq : Hid (Ow w7 0 q (dg Bs (A * B * C)) ∧ (dg Bs (A * B * C)).length ≤ 1048576 + 1048576 + 1048576) := by rw [hq]; exact ⟨Oq.out.1.drewN qq, Oq.out.2⟩
  replace Os2 : Hid (Ow w7 0 s2 (dg Bs (A + B)) ∧ (dg Bs (A + B)).length ≤ 1048576 + 1048576 + 1) := by rw [hq]; exact ⟨Os2.out.1.drewN qq, Os2.out.2⟩
  replace HB : Hid (Below w.heap.size w w7) := by rw [hq]; exact below_drewN HB.out qq
  clear hq
  have Cc := vmul b a _ _ _ _ w7 Hb.out Ha.out (by decide) (by decide)
  rw [Nat.mul_comm B A] at Cc
  go_wp2_with fail
  refine Cc.mono ?_
  clear Cc
  rintro e w8 ⟨p2, rfl, hnew⟩
  have hbel := hnew.2.2
  replace Ha : Hid (Vl w8 a (A) (1048576)) := Ha.out.below hbel (Nat.le_refl _)
  replace Hb : Hid (Vl w8 b (B) (1048576)) := Hb.out.below hbel (Nat.le_refl _)
  replace Hc : Hid (Vl w8 c (C) (1048576)) := Hc.out.below hbel (Nat.le_refl _)
  replace Os : Hid (Ow w8 0 s (dg Bs (A + B)) ∧ (dg Bs (A + B)).length ≤ 1048576 + 1048576 + 1) := ⟨Os.out.1.below hbel (Nat.le_refl _), Os.out.2⟩
  replace Op : Hid (Ow w8 0 p (dg Bs (A * B)) ∧ (dg Bs (A * B)).length ≤ 1048576 + 1048576) := ⟨Op.out.1.below hbel (Nat.le_refl _), Op.out.2⟩
  replace Ot : Hid (Ow w8 0 t (dg Bs (A + B + C)) ∧ (dg Bs (A + B + C)).length ≤ 1048576 + 1048576 + 1 + 1048576 + 1) := ⟨Ot.out.1.below hbel (Nat.le_refl _), Ot.out.2⟩
  replace Oq : Hid (Ow w8 0 q (dg Bs (A * B * C)) ∧ (dg Bs (A * B * C)).length ≤ 1048576 + 1048576 + 1048576) := ⟨Oq.out.1.below hbel (Nat.le_refl _), Oq.out.2⟩
  replace Os2 : Hid (Ow w8 0 s2 (dg Bs (A + B)) ∧ (dg Bs (A + B)).length ≤ 1048576 + 1048576 + 1) := ⟨Os2.out.1.below hbel (Nat.le_refl _), Os2.out.2⟩
  replace HB : Hid (Below w.heap.size w w8) := HB.out.trans (hbel.mono HB.out.size)
  have Op2 : Hid (Ow w8 0 p2 (dg Bs (A * B)) ∧ (dg Bs (A * B)).length ≤ 1048576 + 1048576) := ⟨hnew.1.base (Nat.zero_le _), hnew.2.1⟩
  clear hnew hbel
  have Cc := vsame p p2 (A * B) w8 0 0 Op.out.1 (by have h := Op2.out.1; exact h) (Nat.le_trans Op.out.2 (by decide))
  go_wp2_with fail
  refine Cc.mono ?_
  clear Cc
  rintro e w9 ⟨rfl, qq, hq⟩
  replace Ha : Hid (Vl w9 a (A) (1048576)) := by rw [hq]; exact Ha.out.drewN qq
  replace Hb : Hid (Vl w9 b (B) (1048576)) := by rw [hq]; exact Hb.out.drewN qq
  replace Hc : Hid (Vl w9 c (C) (1048576)) := by rw [hq]; exact Hc.out.drewN qq
  replace Os : Hid (Ow w9 0 s (dg Bs (A + B)) ∧ (dg Bs (A + B)).length ≤ 1048576 + 1048576 + 1) := by rw [hq]; exact ⟨Os.out.1.drewN qq, Os.out.2⟩
  replace Op : Hid (Ow w9 0 p (dg Bs (A * B)) ∧ (dg Bs (A * B)).length ≤ 1048576 + 1048576) := by rw [hq]; exact ⟨Op.out.1.drewN qq, Op.out.2⟩
  replace Ot : Hid (Ow w9 0 t (dg Bs (A + B + C)) ∧ (dg Bs (A + B + C)).length ≤ 1048576 + 1048576 + 1 + 1048576 + 1) := by rw [hq]; exact ⟨Ot.out.1.drewN qq, Ot.out.2⟩
  replace Oq : Hid (Ow w9 0 q (dg Bs (A * B * C)) ∧ (dg Bs (A * B * C)).length ≤ 1048576 + 1048576 + 1048576) := by rw [hq]; exact ⟨Oq.out.1.drewN qq, Oq.out.2⟩
  replace Os2 : Hid (Ow w9 0 s2 (dg Bs (A + B)) ∧ (dg Bs (A + B)).length ≤ 1048576 + 1048576 + 1) := by rw [hq]; exact ⟨Os2.out.1.drewN qq, Os2.out.2⟩
  replace Op2 : Hid (Ow w9 0 p2 (dg Bs (A * B)) ∧ (dg Bs (A * B)).length ≤ 1048576 + 1048576) := by rw [hq]; exact ⟨Op2.out.1.drewN qq, Op2.out.2⟩
  replace HB : Hid (Below w.heap.size w w9) := by rw [hq]; exact below_drewN HB.out qq
  clear hq
  have Cc := vadd b c _ _ _ _ w9 Hb.out Hc.out (by decide) (by decide)
  go_wp2_with fail
  refine Cc.mono ?_
  clear Cc
  rintro e w10 ⟨t1, rfl, hnew⟩
  have hbel := hnew.2.2
  replace Ha : Hid (Vl w10 a (A) (1048576)) := Ha.out.below hbel (Nat.le_refl _)
  replace Hb : Hid (Vl w10 b (B) (1048576)) := Hb.out.below hbel (Nat.le_refl _)
  replace Hc : Hid (Vl w10 c (C) (1048576)) := Hc.out.below hbel (Nat.le_refl _)
  replace Os : Hid (Ow w10 0 s (dg Bs (A + B)) ∧ (dg Bs (A + B)).length ≤ 1048576 + 1048576 + 1) := ⟨Os.out.1.below hbel (Nat.le_refl _), Os.out.2⟩
  replace Op : Hid (Ow w10 0 p (dg Bs (A * B)) ∧ (dg Bs (A * B)).length ≤ 1048576 + 1048576) := ⟨Op.out.1.below hbel (Nat.le_refl _), Op.out.2⟩
  replace Ot : Hid (Ow w10 0 t (dg Bs (A + B + C)) ∧ (dg Bs (A + B + C)).length ≤ 1048576 + 1048576 + 1 + 1048576 + 1) := ⟨Ot.out.1.below hbel (Nat.le_refl _), Ot.out.2⟩
  replace Oq : Hid (Ow w10 0 q (dg Bs (A * B * C)) ∧ (dg Bs (A * B * C)).length ≤ 1048576 + 1048576 + 1048576) := ⟨Oq.out.1.below hbel (Nat.le_refl _), Oq.out.2⟩
  replace Os2 : Hid (Ow w10 0 s2 (dg Bs (A + B)) ∧ (dg Bs (A + B)).length ≤ 1048576 + 1048576 + 1) := ⟨Os2.out.1.below hbel (Nat.le_refl _), Os2.out.2⟩
  replace Op2 : Hid (Ow w10 0 p2 (dg Bs (A * B)) ∧ (dg Bs (A * B)).length ≤ 1048576 + 1048576) := ⟨Op2.out.1.below hbel (Nat.le_refl _), Op2.out.2⟩
  replace HB : Hid (Below w.heap.size w w10) := HB.out.trans (hbel.mono HB.out.size)
  have Ot1 : Hid (Ow w10 0 t1 (dg Bs (B + C)) ∧ (dg Bs (B + C)).length ≤ 1048576 + 1048576 + 1) := ⟨hnew.1.base (Nat.zero_le _), hnew.2.1⟩
  clear hnew hbel
  have Cc := vadd a t1 _ _ _ _ w10 Ha.out (Ot1.out.1.vl Ot1.out.2) (by decide) (by decide)
  rw [← Nat.add_assoc A B C] at Cc
  go_wp2_with fail
  refine Cc.mono ?_
  clear Cc
  rintro e w11 ⟨t2, rfl, hnew⟩
  have hbel := hnew.2.2
  replace Ha : Hid (Vl w11 a (A) (1048576)) := Ha.out.below hbel (Nat.le_refl _)
  replace Hb : Hid (Vl w11 b (B) (1048576)) := Hb.out.below hbel (Nat.le_refl _)
  replace Hc : Hid (Vl w11 c (C) (1048576)) := Hc.out.below hbel (Nat.le_refl _)
  replace Os : Hid (Ow w11 0 s (dg Bs (A + B)) ∧ (dg Bs (A + B)).length ≤ 1048576 + 1048576 + 1) := ⟨Os.out.1.below hbel (Nat.le_refl _), Os.out.2⟩
  replace Op : Hid (Ow w11 0 p (dg Bs (A * B)) ∧ (dg Bs (A * B)).length ≤ 1048576 + 1048576) := ⟨Op.out.1.below hbel (Nat.le_refl _), Op.out.2⟩
  replace Ot : Hid (Ow w11 0 t (dg Bs (A + B + C)) ∧ (dg Bs (A + B + C)).length ≤ 1048576 + 1048576 + 1 + 1048576 + 1) := ⟨Ot.out.1.below hbel (Nat.le_refl _), Ot.out.2⟩
  replace Oq : Hid (Ow w11 0 q (dg Bs (A * B * C)) ∧ (dg Bs (A * B * C)).length ≤ 1048576 + 1048576 + 1048576) := ⟨Oq.out.1.below hbel (Nat.le_refl _), Oq.out.2⟩
  replace Os2 : Hid (Ow w11 0 s2 (dg Bs (A + B)) ∧ (dg Bs (A + B)).length ≤ 1048576 + 1048576 + 1) := ⟨Os2.out.1.below hbel (Nat.le_refl _), Os2.out.2⟩
  replace Op2 : Hid (Ow w11 0 p2 (dg Bs (A * B)) ∧ (dg Bs (A * B)).length ≤ 1048576 + 1048576) := ⟨Op2.out.1.below hbel (Nat.le_refl _), Op2.out.2⟩
  replace Ot1 : Hid (Ow w11 0 t1 (dg Bs (B + C)) ∧ (dg Bs (B + C)).length ≤ 1048576 + 1048576 + 1) := ⟨Ot1.out.1.below hbel (Nat.le_refl _), Ot1.out.2⟩
  replace HB : Hid (Below w.heap.size w w11) := HB.out.trans (hbel.mono HB.out.size)
  have Ot2 : Hid (Ow w11 0 t2 (dg Bs (A + B + C)) ∧ (dg Bs (A + B + C)).length ≤ 1048576 + (1048576 + 1048576 + 1) + 1) := ⟨hnew.1.base (Nat.zero_le _), hnew.2.1⟩
  clear hnew hbel
  have Cc := vsame t t2 (A + B + C) w11 0 0 Ot.out.1 (by have h := Ot2.out.1; exact h) (Nat.le_trans Ot.out.2 (by decide))
  go_wp2_with fail
  refine Cc.mono ?_
  clear Cc
  rintro e w12 ⟨rfl, qq, hq⟩
  replace Ha : Hid (Vl w12 a (A) (1048576)) := by rw [hq]; exact Ha.out.drewN qq
  replace Hb : Hid (Vl w12 b (B) (1048576)) := by rw [hq]; exact Hb.out.drewN qq
  replace Hc : Hid (Vl w12 c (C) (1048576)) := by rw [hq]; exact Hc.out.drewN qq
  replace Os : Hid (Ow w12 0 s (dg Bs (A + B)) ∧ (dg Bs (A + B)).length ≤ 1048576 + 1048576 + 1) := by rw [hq]; exact ⟨Os.out.1.drewN qq, Os.out.2⟩
  replace Op : Hid (Ow w12 0 p (dg Bs (A * B)) ∧ (dg Bs (A * B)).length ≤ 1048576 + 1048576) := by rw [hq]; exact ⟨Op.out.1.drewN qq, Op.out.2⟩
  replace Ot : Hid (Ow w12 0 t (dg Bs (A + B + C)) ∧ (dg Bs (A + B + C)).length ≤ 1048576 + 1048576 + 1 + 1048576 + 1) := by rw [hq]; exact ⟨Ot.out.1.drewN qq, Ot.out.2⟩
  replace Oq : Hid (Ow w12 0 q (dg Bs (A * B * C)) ∧ (dg Bs (A * B * C)).length ≤ 1048576 + 1048576 + 1048576) := by rw [hq]; exact ⟨Oq.out.1.drewN qq, Oq.out.2⟩
  replace Os2 : Hid (Ow w12 0 s2 (dg Bs (A + B)) ∧ (dg Bs (A + B)).length ≤ 1048576 + 1048576 + 1) := by rw [hq]; exact ⟨Os2.out.1.drewN qq, Os2.out.2⟩
  replace Op2 : Hid (Ow w12 0 p2 (dg Bs (A * B)) ∧ (dg Bs (A * B)).length ≤ 1048576 + 1048576) := by rw [hq]; exact ⟨Op2.out.1.drewN qq, Op2.out.2⟩
  replace Ot1 : Hid (Ow w12 0 t1 (dg Bs (B + C)) ∧ (dg Bs (B + C)).length ≤ 1048576 + 1048576 + 1) := by rw [hq]; exact ⟨Ot1.out.1.drewN qq, Ot1.out.2⟩
  replace Ot2 : Hid (Ow w12 0 t2 (dg Bs (A + B + C)) ∧ (dg Bs (A + B + C)).length ≤ 1048576 + (1048576 + 1048576 + 1) + 1) := by rw [hq]; exact ⟨Ot2.out.1.drewN qq, Ot2.out.2⟩
  replace HB : Hid (Below w.heap.size w w12) := by rw [hq]; exact below_drewN HB.out qq
  clear hq
  have Cc := vmul b c _ _ _ _ w12 Hb.out Hc.out (by decide) (by decide)
  go_wp2_with fail
  refine Cc.mono ?_
  clear Cc
  rintro e w13 ⟨q1, rfl, hnew⟩
  have hbel := hnew.2.2
  replace Ha : Hid (Vl w13 a (A) (1048576)) := Ha.out.below hbel (Nat.le_refl _)
  replace Hb : Hid (Vl w13 b (B) (1048576)) := Hb.out.below hbel (Nat.le_refl _)
  replace Hc : Hid (Vl w13 c (C) (1048576)) := Hc.out.below hbel (Nat.le_refl _)
  replace Os : Hid (Ow w13 0 s (dg Bs (A + B)) ∧ (dg Bs (A + B)).length ≤ 1048576 + 1048576 + 1) := ⟨Os.out.1.below hbel (Nat.le_refl _), Os.out.2⟩
  replace Op : Hid (Ow w13 0 p (dg Bs (A * B)) ∧ (dg Bs (A * B)).length ≤ 1048576 + 1048576) := ⟨Op.out.1.below hbel (Nat.le_refl _), Op.out.2⟩
  replace Ot : Hid (Ow w13 0 t (dg Bs (A + B + C)) ∧ (dg Bs (A + B + C)).length ≤ 1048576 + 1048576 + 1 + 1048576 + 1) := ⟨Ot.out.1.below hbel (Nat.le_refl _), Ot.out.2⟩
  replace Oq : Hid (Ow w13 0 q (dg Bs (A * B * C)) ∧ (dg Bs (A * B * C)).length ≤ 1048576 + 1048576 + 1048576) := ⟨Oq.out.1.below hbel (Nat.le_refl _), Oq.out.2⟩
  replace Os2 : Hid (Ow w13 0 s2 (dg Bs (A + B)) ∧ (dg Bs (A + B)).length ≤ 1048576 + 1048576 + 1) := ⟨Os2.out.1.below hbel (Nat.le_refl _), Os2.out.2⟩
  replace Op2 : Hid (Ow w13 0 p2 (dg Bs (A * B)) ∧ (dg Bs (A * B)).length ≤ 1048576 + 1048576) := ⟨Op2.out.1.below hbel (Nat.le_refl _), Op2.out.2⟩
  replace Ot1 : Hid (Ow w13 0 t1 (dg Bs (B + C)) ∧ (dg Bs (B + C)).length ≤ 1048576 + 1048576 + 1) := ⟨Ot1.out.1.below hbel (Nat.le_refl _), Ot1.out.2⟩
  replace Ot2 : Hid (Ow w13 0 t2 (dg Bs (A + B + C)) ∧ (dg Bs (A + B + C)).length ≤ 1048576 + (1048576 + 1048576 + 1) + 1) := ⟨Ot2.out.1.below hbel (Nat.le_refl _), Ot2.out.2⟩
  replace HB : Hid (Below w.heap.size w w13) := HB.out.trans (hbel.mono HB.out.size)
  have Oq1 : Hid (Ow w13 0 q1 (dg Bs (B * C)) ∧ (dg Bs (B * C)).length ≤ 1048576 + 1048576) := ⟨hnew.1.base (Nat.zero_le _), hnew.2.1⟩
  clear hnew hbel
  have Cc := vmul a q1 _ _ _ _ w13 Ha.out (Oq1.out.1.vl Oq1.out.2) (by decide) (by decide)
  rw [← Nat.mul_assoc A B C] at Cc
  go_wp2_with fail
  refine Cc.mono ?_
  clear Cc
  rintro e w14 ⟨q2, rfl, hnew⟩
  have hbel := hnew.2.2
  replace Ha : Hid (Vl w14 a (A) (1048576)) := Ha.out.below hbel (Nat.le_refl _)
  replace Hb : Hid (Vl w14 b (B) (1048576)) := Hb.out.below hbel (Nat.le_refl _)
  replace Hc : Hid (Vl w14 c (C) (1048576)) := Hc.out.below hbel (Nat.le_refl _)
  replace Os : Hid (Ow w14 0 s (dg Bs (A + B)) ∧ (dg Bs (A + B)).length ≤ 1048576 + 1048576 + 1) := ⟨Os.out.1.below hbel (Nat.le_refl _), Os.out.2⟩
  replace Op : Hid (Ow w14 0 p (dg Bs (A * B)) ∧ (dg Bs (A * B)).length ≤ 1048576 + 1048576) := ⟨Op.out.1.below hbel (Nat.le_refl _), Op.out.2⟩
  replace Ot : Hid (Ow w14 0 t (dg Bs (A + B + C)) ∧ (dg Bs (A + B + C)).length ≤ 1048576 + 1048576 + 1 + 1048576 + 1) := ⟨Ot.out.1.below hbel (Nat.le_refl _), Ot.out.2⟩
  replace Oq : Hid (Ow w14 0 q (dg Bs (A * B * C)) ∧ (dg Bs (A * B * C)).length ≤ 1048576 + 1048576 + 1048576) := ⟨Oq.out.1.below hbel (Nat.le_refl _), Oq.out.2⟩
  replace Os2 : Hid (Ow w14 0 s2 (dg Bs (A + B)) ∧ (dg Bs (A + B)).length ≤ 1048576 + 1048576 + 1) := ⟨Os2.out.1.below hbel (Nat.le_refl _), Os2.out.2⟩
  replace Op2 : Hid (Ow w14 0 p2 (dg Bs (A * B)) ∧ (dg Bs (A * B)).length ≤ 1048576 + 1048576) := ⟨Op2.out.1.below hbel (Nat.le_refl _), Op2.out.2⟩
  replace Ot1 : Hid (Ow w14 0 t1 (dg Bs (B + C)) ∧ (dg Bs (B + C)).length ≤ 1048576 + 1048576 + 1) := ⟨Ot1.out.1.below hbel (Nat.le_refl _), Ot1.out.2⟩
  replace Ot2 : Hid (Ow w14 0 t2 (dg Bs (A + B + C)) ∧ (dg Bs (A + B + C)).length ≤ 1048576 + (1048576 + 1048576 + 1) + 1) := ⟨Ot2.out.1.below hbel (Nat.le_refl _), Ot2.out.2⟩
  replace Oq1 : Hid (Ow w14 0 q1 (dg Bs (B * C)) ∧ (dg Bs (B * C)).length ≤ 1048576 + 1048576) := ⟨Oq1.out.1.below hbel (Nat.le_refl _), Oq1.out.2⟩
  replace HB : Hid (Below w.heap.size w w14) := HB.out.trans (hbel.mono HB.out.size)
  have Oq2 : Hid (Ow w14 0 q2 (dg Bs (A * B * C)) ∧ (dg Bs (A * B * C)).length ≤ 1048576 + (1048576 + 1048576)) := ⟨hnew.1.base (Nat.zero_le _), hnew.2.1⟩
  clear hnew hbel
  have Cc := vsame q q2 (A * B * C) w14 0 0 Oq.out.1 (by have h := Oq2.out.1; exact h) (Nat.le_trans Oq.out.2 (by decide))
  go_wp2_with fail
  refine Cc.mono ?_
  clear Cc
  rintro e w15 ⟨rfl, qq, hq⟩
  replace Ha : Hid (Vl w15 a (A) (1048576)) := by rw [hq]; exact Ha.out.drewN qq
  replace Hb : Hid (Vl w15 b (B) (1048576)) := by rw [hq]; exact Hb.out.drewN qq
  replace Hc : Hid (Vl w15 c (C) (1048576)) := by rw [hq]; exact Hc.out.drewN qq
  replace Os : Hid (Ow w15 0 s (dg Bs (A + B)) ∧ (dg Bs (A + B)).length ≤ 1048576 + 1048576 + 1) := by rw [hq]; exact ⟨Os.out.1.drewN qq, Os.out.2⟩
  replace Op : Hid (Ow w15 0 p (dg Bs (A * B)) ∧ (dg Bs (A * B)).length ≤ 1048576 + 1048576) := by rw [hq]; exact ⟨Op.out.1.drewN qq, Op.out.2⟩
  replace Ot : Hid (Ow w15 0 t (dg Bs (A + B + C)) ∧ (dg Bs (A + B + C)).length ≤ 1048576 + 1048576 + 1 + 1048576 + 1) := by rw [hq]; exact ⟨Ot.out.1.drewN qq, Ot.out.2⟩
  replace Oq : Hid (Ow w15 0 q (dg Bs (A * B * C)) ∧ (dg Bs (A * B * C)).length ≤ 1048576 + 1048576 + 1048576) := by rw [hq]; exact ⟨Oq.out.1.drewN qq, Oq.out.2⟩
  replace Os2 : Hid (Ow w15 0 s2 (dg Bs (A + B)) ∧ (dg Bs (A + B)).length ≤ 1048576 + 1048576 + 1) := by rw [hq]; exact ⟨Os2.out.1.drewN qq, Os2.out.2⟩
  replace Op2 : Hid (Ow w15 0 p2 (dg Bs (A * B)) ∧ (dg Bs (A * B)).length ≤ 1048576 + 1048576) := by rw [hq]; exact ⟨Op2.out.1.drewN qq, Op2.out.2⟩
  replace Ot1 : Hid (Ow w15 0 t1 (dg Bs (B + C)) ∧ (dg Bs (B + C)).length ≤ 1048576 + 1048576 + 1) := by rw [hq]; exact ⟨Ot1.out.1.drewN qq, Ot1.out.2⟩
  replace Ot2 : Hid (Ow w15 0 t2 (dg Bs (A + B + C)) ∧ (dg Bs (A + B + C)).length ≤ 1048576 + (1048576 + 1048576 + 1) + 1) := by rw [hq]; exact ⟨Ot2.out.1.drewN qq, Ot2.out.2⟩
  replace Oq1 : Hid (Ow w15 0 q1 (dg Bs (B * C)) ∧ (dg Bs (B * C)).length ≤ 1048576 + 1048576) := by rw [hq]; exact ⟨Oq1.out.1.drewN qq, Oq1.out.2⟩
  replace Oq2 : Hid (Ow w15 0 q2 (dg Bs (A * B * C)) ∧ (dg Bs (A * B * C)).length ≤ 1048576 + (1048576 + 1048576)) := by rw [hq]; exact ⟨Oq2.out.1.drewN qq, Oq2.out.2⟩
  replace HB : Hid (Below w.heap.size w w15) := by rw [hq]; exact below_drewN HB.out qq
  clear hq
  have Cc := vadd b c _ _ _ _ w15 Hb.out Hc.out (by decide) (by decide)
  go_wp2_with fail
  refine Cc.mono ?_
  clear Cc
  rintro e w16 ⟨l1, rfl, hnew⟩
  have hbel := hnew.2.2
  replace Ha : Hid (Vl w16 a (A) (1048576)) := Ha.out.below hbel (Nat.le_refl _)
  replace Hb : Hid (Vl w16 b (B) (1048576)) := Hb.out.below hbel (Nat.le_refl _)
  replace Hc : Hid (Vl w16 c (C) (1048576)) := Hc.out.below hbel (Nat.le_refl _)
  replace Os : Hid (Ow w16 0 s (dg Bs (A + B)) ∧ (dg Bs (A + B)).length ≤ 1048576 + 1048576 + 1) := ⟨Os.out.1.below hbel (Nat.le_refl _), Os.out.2⟩
  replace Op : Hid (Ow w16 0 p (dg Bs (A * B)) ∧ (dg Bs (A * B)).length ≤ 1048576 + 1048576) := ⟨Op.out.1.below hbel (Nat.le_refl _), Op.out.2⟩
  replace Ot : Hid (Ow w16 0 t (dg Bs (A + B + C)) ∧ (dg Bs (A + B + C)).length ≤ 1048576 + 1048576 + 1 + 1048576 + 1) := ⟨Ot.out.1.below hbel (Nat.le_refl _), Ot.out.2⟩
  replace Oq : Hid (Ow w16 0 q (dg Bs (A * B * C)) ∧ (dg Bs (A * B * C)).length ≤ 1048576 + 1048576 + 1048576) := ⟨Oq.out.1.below hbel (Nat.le_refl _), Oq.out.2⟩
  replace Os2 : Hid (Ow w16 0 s2 (dg Bs (A + B)) ∧ (dg Bs (A + B)).length ≤ 1048576 + 1048576 + 1) := ⟨Os2.out.1.below hbel (Nat.le_refl _), Os2.out.2⟩
  replace Op2 : Hid (Ow w16 0 p2 (dg Bs (A * B)) ∧ (dg Bs (A * B)).length ≤ 1048576 + 1048576) := ⟨Op2.out.1.below hbel (Nat.le_refl _), Op2.out.2⟩
  replace Ot1 : Hid (Ow w16 0 t1 (dg Bs (B + C)) ∧ (dg Bs (B + C)).length ≤ 1048576 + 1048576 + 1) := ⟨Ot1.out.1.below hbel (Nat.le_refl _), Ot1.out.2⟩
  replace Ot2 : Hid (Ow w16 0 t2 (dg Bs (A + B + C)) ∧ (dg Bs (A + B + C)).length ≤ 1048576 + (1048576 + 1048576 + 1) + 1) := ⟨Ot2.out.1.below hbel (Nat.le_refl _), Ot2.out.2⟩
  replace Oq1 : Hid (Ow w16 0 q1 (dg Bs (B * C)) ∧ (dg Bs (B * C)).length ≤ 1048576 + 1048576) := ⟨Oq1.out.1.below hbel (Nat.le_refl _), Oq1.out.2⟩
  replace Oq2 : Hid (Ow w16 0 q2 (dg Bs (A * B * C)) ∧ (dg Bs (A * B * C)).length ≤ 1048576 + (1048576 + 1048576)) := ⟨Oq2.out.1.below hbel (Nat.le_refl _), Oq2.out.2⟩
  replace HB : Hid (Below w.heap.size w w16) := HB.out.trans (hbel.mono HB.out.size)
  have Ol1 : Hid (Ow w16 0 l1 (dg Bs (B + C)) ∧ (dg Bs (B + C)).length ≤ 1048576 + 1048576 + 1) := ⟨hnew.1.base (Nat.zero_le _), hnew.2.1⟩
  clear hnew hbel
  have Cc := vmul a l1 _ _ _ _ w16 Ha.out (Ol1.out.1.vl Ol1.out.2) (by decide) (by decide)
  rw [Nat.mul_add A B C] at Cc
  go_wp2_with fail
  refine Cc.mono ?_
  clear Cc
  rintro e w17 ⟨left, rfl, hnew⟩
  have hbel := hnew.2.2
  replace Ha : Hid (Vl w17 a (A) (1048576)) := Ha.out.below hbel (Nat.le_refl _)
  replace Hb : Hid (Vl w17 b (B) (1048576)) := Hb.out.below hbel (Nat.le_refl _)
  replace Hc : Hid (Vl w17 c (C) (1048576)) := Hc.out.below hbel (Nat.le_refl _)
  replace Os : Hid (Ow w17 0 s (dg Bs (A + B)) ∧ (dg Bs (A + B)).length ≤ 1048576 + 1048576 + 1) := ⟨Os.out.1.below hbel (Nat.le_refl _), Os.out.2⟩
  replace Op : Hid (Ow w17 0 p (dg Bs (A * B)) ∧ (dg Bs (A * B)).length ≤ 1048576 + 1048576) := ⟨Op.out.1.below hbel (Nat.le_refl _), Op.out.2⟩
  replace Ot : Hid (Ow w17 0 t (dg Bs (A + B + C)) ∧ (dg Bs (A + B + C)).length ≤ 1048576 + 1048576 + 1 + 1048576 + 1) := ⟨Ot.out.1.below hbel (Nat.le_refl _), Ot.out.2⟩
  replace Oq : Hid (Ow w17 0 q (dg Bs (A * B * C)) ∧ (dg Bs (A * B * C)).length ≤ 1048576 + 1048576 + 1048576) := ⟨Oq.out.1.below hbel (Nat.le_refl _), Oq.out.2⟩
  replace Os2 : Hid (Ow w17 0 s2 (dg Bs (A + B)) ∧ (dg Bs (A + B)).length ≤ 1048576 + 1048576 + 1) := ⟨Os2.out.1.below hbel (Nat.le_refl _), Os2.out.2⟩
  replace Op2 : Hid (Ow w17 0 p2 (dg Bs (A * B)) ∧ (dg Bs (A * B)).length ≤ 1048576 + 1048576) := ⟨Op2.out.1.below hbel (Nat.le_refl _), Op2.out.2⟩
  replace Ot1 : Hid (Ow w17 0 t1 (dg Bs (B + C)) ∧ (dg Bs (B + C)).length ≤ 1048576 + 1048576 + 1) := ⟨Ot1.out.1.below hbel (Nat.le_refl _), Ot1.out.2⟩
  replace Ot2 : Hid (Ow w17 0 t2 (dg Bs (A + B + C)) ∧ (dg Bs (A + B + C)).length ≤ 1048576 + (1048576 + 1048576 + 1) + 1) := ⟨Ot2.out.1.below hbel (Nat.le_refl _), Ot2.out.2⟩
  replace Oq1 : Hid (Ow w17 0 q1 (dg Bs (B * C)) ∧ (dg Bs (B * C)).length ≤ 1048576 + 1048576) := ⟨Oq1.out.1.below hbel (Nat.le_refl _), Oq1.out.2⟩
  replace Oq2 : Hid (Ow w17 0 q2 (dg Bs (A * B * C)) ∧ (dg Bs (A * B * C)).length ≤ 1048576 + (1048576 + 1048576)) := ⟨Oq2.out.1.below hbel (Nat.le_refl _), Oq2.out.2⟩
  replace Ol1 : Hid (Ow w17 0 l1 (dg Bs (B + C)) ∧ (dg Bs (B + C)).length ≤ 1048576 + 1048576 + 1) := ⟨Ol1.out.1.below hbel (Nat.le_refl _), Ol1.out.2⟩
  replace HB : Hid (Below w.heap.size w w17) := HB.out.trans (hbel.mono HB.out.size)
  have Oleft : Hid (Ow w17 0 left (dg Bs (A * B + A * C)) ∧ (dg Bs (A * B + A * C)).length ≤ 1048576 + (1048576 + 1048576 + 1)) := ⟨hnew.1.base (Nat.zero_le _), hnew.2.1⟩
  clear hnew hbel
  have Cc := vmul a c _ _ _ _ w17 Ha.out Hc.out (by decide) (by decide)
  go_wp2_with fail
  refine Cc.mono ?_
  clear Cc
  rintro e w18 ⟨r1, rfl, hnew⟩
  have hbel := hnew.2.2
  replace Ha : Hid (Vl w18 a (A) (1048576)) := Ha.out.below hbel (Nat.le_refl _)
  replace Hb : Hid (Vl w18 b (B) (1048576)) := Hb.out.below hbel (Nat.le_refl _)
  replace Hc : Hid (Vl w18 c (C) (1048576)) := Hc.out.below hbel (Nat.le_refl _)
  replace Os : Hid (Ow w18 0 s (dg Bs (A + B)) ∧ (dg Bs (A + B)).length ≤ 1048576 + 1048576 + 1) := ⟨Os.out.1.below hbel (Nat.le_refl _), Os.out.2⟩
  replace Op : Hid (Ow w18 0 p (dg Bs (A * B)) ∧ (dg Bs (A * B)).length ≤ 1048576 + 1048576) := ⟨Op.out.1.below hbel (Nat.le_refl _), Op.out.2⟩
  replace Ot : Hid (Ow w18 0 t (dg Bs (A + B + C)) ∧ (dg Bs (A + B + C)).length ≤ 1048576 + 1048576 + 1 + 1048576 + 1) := ⟨Ot.out.1.below hbel (Nat.le_refl _), Ot.out.2⟩
  replace Oq : Hid (Ow w18 0 q (dg Bs (A * B * C)) ∧ (dg Bs (A * B * C)).length ≤ 1048576 + 1048576 + 1048576) := ⟨Oq.out.1.below hbel (Nat.le_refl _), Oq.out.2⟩
  replace Os2 : Hid (Ow w18 0 s2 (dg Bs (A + B)) ∧ (dg Bs (A + B)).length ≤ 1048576 + 1048576 + 1) := ⟨Os2.out.1.below hbel (Nat.le_refl _), Os2.out.2⟩
  replace Op2 : Hid (Ow w18 0 p2 (dg Bs (A * B)) ∧ (dg Bs (A * B)).length ≤ 1048576 + 1048576) := ⟨Op2.out.1.below hbel (Nat.le_refl _), Op2.out.2⟩
  replace Ot1 : Hid (Ow w18 0 t1 (dg Bs (B + C)) ∧ (dg Bs (B + C)).length ≤ 1048576 + 1048576 + 1) := ⟨Ot1.out.1.below hbel (Nat.le_refl _), Ot1.out.2⟩
  replace Ot2 : Hid (Ow w18 0 t2 (dg Bs (A + B + C)) ∧ (dg Bs (A + B + C)).length ≤ 1048576 + (1048576 + 1048576 + 1) + 1) := ⟨Ot2.out.1.below hbel (Nat.le_refl _), Ot2.out.2⟩
  replace Oq1 : Hid (Ow w18 0 q1 (dg Bs (B * C)) ∧ (dg Bs (B * C)).length ≤ 1048576 + 1048576) := ⟨Oq1.out.1.below hbel (Nat.le_refl _), Oq1.out.2⟩
  replace Oq2 : Hid (Ow w18 0 q2 (dg Bs (A * B * C)) ∧ (dg Bs (A * B * C)).length ≤ 1048576 + (1048576 + 1048576)) := ⟨Oq2.out.1.below hbel (Nat.le_refl _), Oq2.out.2⟩
  replace Ol1 : Hid (Ow w18 0 l1 (dg Bs (B + C)) ∧ (dg Bs (B + C)).length ≤ 1048576 + 1048576 + 1) := ⟨Ol1.out.1.below hbel (Nat.le_refl _), Ol1.out.2⟩
  replace Oleft : Hid (Ow w18 0 left (dg Bs (A * B + A * C)) ∧ (dg Bs (A * B + A * C)).length ≤ 1048576 + (1048576 + 1048576 + 1)) := ⟨Oleft.out.1.below hbel (Nat.le_refl _), Oleft.out.2⟩
  replace HB : Hid (Below w.heap.size w w18) := HB.out.trans (hbel.mono HB.out.size)
  have Or1 : Hid (Ow w18 0 r1 (dg Bs (A * C)) ∧ (dg Bs (A * C)).length ≤ 1048576 + 1048576) := ⟨hnew.1.base (Nat.zero_le _), hnew.2.1⟩
  clear hnew hbel
  have Cc := vadd p r1 _ _ _ _ w18 (Op.out.1.vl Op.out.2) (Or1.out.1.vl Or1.out.2) (by decide) (by decide)
  go_wp2_with fail
  refine Cc.mono ?_
  clear Cc
  rintro e w19 ⟨right, rfl, hnew⟩
  have hbel := hnew.2.2
  replace Ha : Hid (Vl w19 a (A) (1048576)) := Ha.out.below hbel (Nat.le_refl _)
  replace Hb : Hid (Vl w19 b (B) (1048576)) := Hb.out.below hbel (Nat.le_refl _)
  replace Hc : Hid (Vl w19 c (C) (1048576)) := Hc.out.below hbel (Nat.le_refl _)
  replace Os : Hid (Ow w19 0 s (dg Bs (A + B)) ∧ (dg Bs (A + B)).length ≤ 1048576 + 1048576 + 1) := ⟨Os.out.1.below hbel (Nat.le_refl _), Os.out.2⟩
  replace Op : Hid (Ow w19 0 p (dg Bs (A * B)) ∧ (dg Bs (A * B)).length ≤ 1048576 + 1048576) := ⟨Op.out.1.below hbel (Nat.le_refl _), Op.out.2⟩
  replace Ot : Hid (Ow w19 0 t (dg Bs (A + B + C)) ∧ (dg Bs (A + B + C)).length ≤ 1048576 + 1048576 + 1 + 1048576 + 1) := ⟨Ot.out.1.below hbel (Nat.le_refl _), Ot.out.2⟩
  replace Oq : Hid (Ow w19 0 q (dg Bs (A * B * C)) ∧ (dg Bs (A * B * C)).length ≤ 1048576 + 1048576 + 1048576) := ⟨Oq.out.1.below hbel (Nat.le_refl _), Oq.out.2⟩
  replace Os2 : Hid (Ow w19 0 s2 (dg Bs (A + B)) ∧ (dg Bs (A + B)).length ≤ 1048576 + 1048576 + 1) := ⟨Os2.out.1.below hbel (Nat.le_refl _), Os2.out.2⟩
  replace Op2 : Hid (Ow w19 0 p2 (dg Bs (A * B)) ∧ (dg Bs (A * B)).length ≤ 1048576 + 1048576) := ⟨Op2.out.1.below hbel (Nat.le_refl _), Op2.out.2⟩
  replace Ot1 : Hid (Ow w19 0 t1 (dg Bs (B + C)) ∧ (dg Bs (B + C)).length ≤ 1048576 + 1048576 + 1) := ⟨Ot1.out.1.below hbel (Nat.le_refl _), Ot1.out.2⟩
  replace Ot2 : Hid (Ow w19 0 t2 (dg Bs (A + B + C)) ∧ (dg Bs (A + B + C)).length ≤ 1048576 + (1048576 + 1048576 + 1) + 1) := ⟨Ot2.out.1.below hbel (Nat.le_refl _), Ot2.out.2⟩
  replace Oq1 : Hid (Ow w19 0 q1 (dg Bs (B * C)) ∧ (dg Bs (B * C)).length ≤ 1048576 + 1048576) := ⟨Oq1.out.1.below hbel (Nat.le_refl _), Oq1.out.2⟩
  replace Oq2 : Hid (Ow w19 0 q2 (dg Bs (A * B * C)) ∧ (dg Bs (A * B * C)).length ≤ 1048576 + (1048576 + 1048576)) := ⟨Oq2.out.1.below hbel (Nat.le_refl _), Oq2.out.2⟩
  replace Ol1 : Hid (Ow w19 0 l1 (dg Bs (B + C)) ∧ (dg Bs (B + C)).length ≤ 1048576 + 1048576 + 1) := ⟨Ol1.out.1.below hbel (Nat.le_refl _), Ol1.out.2⟩
  replace Oleft : Hid (Ow w19 0 left (dg Bs (A * B + A * C)) ∧ (dg Bs (A * B + A * C)).length ≤ 1048576 + (1048576 + 1048576 + 1)) := ⟨Oleft.out.1.below hbel (Nat.le_refl _), Oleft.out.2⟩
  replace Or1 : Hid (Ow w19 0 r1 (dg Bs (A * C)) ∧ (dg Bs (A * C)).length ≤ 1048576 + 1048576) := ⟨Or1.out.1.below hbel (Nat.le_refl _), Or1.out.2⟩
  replace HB : Hid (Below w.heap.size w w19) := HB.out.trans (hbel.mono HB.out.size)
  have Oright : Hid (Ow w19 0 right (dg Bs (A * B + A * C)) ∧ (dg Bs (A * B + A * C)).length ≤ 1048576 + 1048576 + (1048576 + 1048576) + 1) := ⟨hnew.1.base (Nat.zero_le _), hnew.2.1⟩
  clear hnew hbel
  have Cc := vadd a (.slice none 0 0) _ _ _ _ w19 Ha.out (vnil w19) (by decide) (by decide)
  rw [Nat.add_zero A] at Cc
  go_wp2_with fail
  refine Cc.mono ?_
  clear Cc
  rintro e w20 ⟨none, rfl, hnew⟩
  have hbel := hnew.2.2
  replace Ha : Hid (Vl w20 a (A) (1048576)) := Ha.out.below hbel (Nat.le_refl _)
  replace Hb : Hid (Vl w20 b (B) (1048576)) := Hb.out.below hbel (Nat.le_refl _)
  replace Hc : Hid (Vl w20 c (C) (1048576)) := Hc.out.below hbel (Nat.le_refl _)
  replace Os : Hid (Ow w20 0 s (dg Bs (A + B)) ∧ (dg Bs (A + B)).length ≤ 1048576 + 1048576 + 1) := ⟨Os.out.1.below hbel (Nat.le_refl _), Os.out.2⟩
  replace Op : Hid (Ow w20 0 p (dg Bs (A * B)) ∧ (dg Bs (A * B)).length ≤ 1048576 + 1048576) := ⟨Op.out.1.below hbel (Nat.le_refl _), Op.out.2⟩
  replace Ot : Hid (Ow w20 0 t (dg Bs (A + B + C)) ∧ (dg Bs (A + B + C)).length ≤ 1048576 + 1048576 + 1 + 1048576 + 1) := ⟨Ot.out.1.below hbel (Nat.le_refl _), Ot.out.2⟩
  replace Oq : Hid (Ow w20 0 q (dg Bs (A * B * C)) ∧ (dg Bs (A * B * C)).length ≤ 1048576 + 1048576 + 1048576) := ⟨Oq.out.1.below hbel (Nat.le_refl _), Oq.out.2⟩
  replace Os2 : Hid (Ow w20 0 s2 (dg Bs (A + B)) ∧ (dg Bs (A + B)).length ≤ 1048576 + 1048576 + 1) := ⟨Os2.out.1.below hbel (Nat.le_refl _), Os2.out.2⟩
  replace Op2 : Hid (Ow w20 0 p2 (dg Bs (A * B)) ∧ (dg Bs (A * B)).length ≤ 1048576 + 1048576) := ⟨Op2.out.1.below hbel (Nat.le_refl _), Op2.out.2⟩
  replace Ot1 : Hid (Ow w20 0 t1 (dg Bs (B + C)) ∧ (dg Bs (B + C)).length ≤ 1048576 + 1048576 + 1) := ⟨Ot1.out.1.below hbel (Nat.le_refl _), Ot1.out.2⟩
  replace Ot2 : Hid (Ow w20 0 t2 (dg Bs (A + B + C)) ∧ (dg Bs (A + B + C)).length ≤ 1048576 + (1048576 + 1048576 + 1) + 1) := ⟨Ot2.out.1.below hbel (Nat.le_refl _), Ot2.out.2⟩
  replace Oq1 : Hid (Ow w20 0 q1 (dg Bs (B * C)) ∧ (dg Bs (B * C)).length ≤ 1048576 + 1048576) := ⟨Oq1.out.1.below hbel (Nat.le_refl _), Oq1.out.2⟩
  replace Oq2 : Hid (Ow w20 0 q2 (dg Bs (A * B * C)) ∧ (dg Bs (A * B * C)).length ≤ 1048576 + (1048576 + 1048576)) := ⟨Oq2.out.1.below hbel (Nat.le_refl _), Oq2.out.2⟩
  replace Ol1 : Hid (Ow w20 0 l1 (dg Bs (B + C)) ∧ (dg Bs (B + C)).length ≤ 1048576 + 1048576 + 1) := ⟨Ol1.out.1.below hbel (Nat.le_refl _), Ol1.out.2⟩
  replace Oleft : Hid (Ow w20 0 left (dg Bs (A * B + A * C)) ∧ (dg Bs (A * B + A * C)).length ≤ 1048576 + (1048576 + 1048576 + 1)) := ⟨Oleft.out.1.below hbel (Nat.le_refl _), Oleft.out.2⟩
  replace Or1 : Hid (Ow w20 0 r1 (dg Bs (A * C)) ∧ (dg Bs (A * C)).length ≤ 1048576 + 1048576) := ⟨Or1.out.1.below hbel (Nat.le_refl _), Or1.out.2⟩
  replace Oright : Hid (Ow w20 0 right (dg Bs (A * B + A * C)) ∧ (dg Bs (A * B + A * C)).length ≤ 1048576 + 1048576 + (1048576 + 1048576) + 1) := ⟨Oright.out.1.below hbel (Nat.le_refl _), Oright.out.2⟩
  replace HB : Hid (Below w.heap.size w w20) := HB.out.trans (hbel.mono HB.out.size)
  have Onone : Hid (Ow w20 0 none (dg Bs (A)) ∧ (dg Bs (A)).length ≤ 1048576 + 0 + 1) := ⟨hnew.1.base (Nat.zero_le _), hnew.2.1⟩
  clear hnew hbel
  go_wp2_with fail
  have hbel := alloc_below w20 (.cells #[.int .u32 1] 36)
  have hlit := vlit w20 [1] (by decide)
  rw [show (([1] : List Nat).map U).toArray = #[.int .u32 1] from rfl] at hlit
  generalize hw2 : w20.alloc (.cells #[.int .u32 1] 36) = w21 at hbel hlit ⊢
  replace Ha : Hid (Vl w21 a (A) (1048576)) := Ha.out.below hbel (Nat.le_refl _)
  replace Hb : Hid (Vl w21 b (B) (1048576)) := Hb.out.below hbel (Nat.le_refl _)
  replace Hc : Hid (Vl w21 c (C) (1048576)) := Hc.out.below hbel (Nat.le_refl _)
  replace Os : Hid (Ow w21 0 s (dg Bs (A + B)) ∧ (dg Bs (A + B)).length ≤ 1048576 + 1048576 + 1) := ⟨Os.out.1.below hbel (Nat.le_refl _), Os.out.2⟩
  replace Op : Hid (Ow w21 0 p (dg Bs (A * B)) ∧ (dg Bs (A * B)).length ≤ 1048576 + 1048576) := ⟨Op.out.1.below hbel (Nat.le_refl _), Op.out.2⟩
  replace Ot : Hid (Ow w21 0 t (dg Bs (A + B + C)) ∧ (dg Bs (A + B + C)).length ≤ 1048576 + 1048576 + 1 + 1048576 + 1) := ⟨Ot.out.1.below hbel (Nat.le_refl _), Ot.out.2⟩
  replace Oq : Hid (Ow w21 0 q (dg Bs (A * B * C)) ∧ (dg Bs (A * B * C)).length ≤ 1048576 + 1048576 + 1048576) := ⟨Oq.out.1.below hbel (Nat.le_refl _), Oq.out.2⟩
  replace Os2 : Hid (Ow w21 0 s2 (dg Bs (A + B)) ∧ (dg Bs (A + B)).length ≤ 1048576 + 1048576 + 1) := ⟨Os2.out.1.below hbel (Nat.le_refl _), Os2.out.2⟩
  replace Op2 : Hid (Ow w21 0 p2 (dg Bs (A * B)) ∧ (dg Bs (A * B)).length ≤ 1048576 + 1048576) := ⟨Op2.out.1.below hbel (Nat.le_refl _), Op2.out.2⟩
  replace Ot1 : Hid (Ow w21 0 t1 (dg Bs (B + C)) ∧ (dg Bs (B + C)).length ≤ 1048576 + 1048576 + 1) := ⟨Ot1.out.1.below hbel (Nat.le_refl _), Ot1.out.2⟩
  replace Ot2 : Hid (Ow w21 0 t2 (dg Bs (A + B + C)) ∧ (dg Bs (A + B + C)).length ≤ 1048576 + (1048576 + 1048576 + 1) + 1) := ⟨Ot2.out.1.below hbel (Nat.le_refl _), Ot2.out.2⟩
  replace Oq1 : Hid (Ow w21 0 q1 (dg Bs (B * C)) ∧ (dg Bs (B * C)).length ≤ 1048576 + 1048576) := ⟨Oq1.out.1.below hbel (Nat.le_refl _), Oq1.out.2⟩
  replace Oq2 : Hid (Ow w21 0 q2 (dg Bs (A * B * C)) ∧ (dg Bs (A * B * C)).length ≤ 1048576 + (1048576 + 1048576)) := ⟨Oq2.out.1.below hbel (Nat.le_refl _), Oq2.out.2⟩
  replace Ol1 : Hid (Ow w21 0 l1 (dg Bs (B + C)) ∧ (dg Bs (B + C)).length ≤ 1048576 + 1048576 + 1) := ⟨Ol1.out.1.below hbel (Nat.le_refl _), Ol1.out.2⟩
  replace Oleft : Hid (Ow w21 0 left (dg Bs (A * B + A * C)) ∧ (dg Bs (A * B + A * C)).length ≤ 1048576 + (1048576 + 1048576 + 1)) := ⟨Oleft.out.1.below hbel (Nat.le_refl _), Oleft.out.2⟩
  replace Or1 : Hid (Ow w21 0 r1 (dg Bs (A * C)) ∧ (dg Bs (A * C)).length ≤ 1048576 + 1048576) := ⟨Or1.out.1.below hbel (Nat.le_refl _), Or1.out.2⟩
  replace Oright : Hid (Ow w21 0 right (dg Bs (A * B + A * C)) ∧ (dg Bs (A * B + A * C)).length ≤ 1048576 + 1048576 + (1048576 + 1048576) + 1) := ⟨Oright.out.1.below hbel (Nat.le_refl _), Oright.out.2⟩
  replace Onone : Hid (Ow w21 0 none (dg Bs (A)) ∧ (dg Bs (A)).length ≤ 1048576 + 0 + 1) := ⟨Onone.out.1.below hbel (Nat.le_refl _), Onone.out.2⟩
  replace HB : Hid (Below w.heap.size w w21) := HB.out.trans (hbel.mono HB.out.size)
  clear hbel hw2
  have hl1 : nv Bs [1] = 1 := by simp [nv]
  rw [hl1] at hlit
  clear hl1
  have Cc := vmul a _ _ _ _ _ w21 Ha.out hlit (by decide) (by decide)
  rw [Nat.mul_one] at Cc
  clear hlit
  refine Cc.mono ?_
  clear Cc
  rintro e w22 ⟨once, rfl, hnew⟩
  have hbel := hnew.2.2
  replace Ha : Hid (Vl w22 a (A) (1048576)) := Ha.out.below hbel (Nat.le_refl _)
  replace Hb : Hid (Vl w22 b (B) (1048576)) := Hb.out.below hbel (Nat.le_refl _)
  replace Hc : Hid (Vl w22 c (C) (1048576)) := Hc.out.below hbel (Nat.le_refl _)
  replace Os : Hid (Ow w22 0 s (dg Bs (A + B)) ∧ (dg Bs (A + B)).length ≤ 1048576 + 1048576 + 1) := ⟨Os.out.1.below hbel (Nat.le_refl _), Os.out.2⟩
  replace Op : Hid (Ow w22 0 p (dg Bs (A * B)) ∧ (dg Bs (A * B)).length ≤ 1048576 + 1048576) := ⟨Op.out.1.below hbel (Nat.le_refl _), Op.out.2⟩
  replace Ot : Hid (Ow w22 0 t (dg Bs (A + B + C)) ∧ (dg Bs (A + B + C)).length ≤ 1048576 + 1048576 + 1 + 1048576 + 1) := ⟨Ot.out.1.below hbel (Nat.le_refl _), Ot.out.2⟩
  replace Oq : Hid (Ow w22 0 q (dg Bs (A * B * C)) ∧ (dg Bs (A * B * C)).length ≤ 1048576 + 1048576 + 1048576) := ⟨Oq.out.1.below hbel (Nat.le_refl _), Oq.out.2⟩
  replace Os2 : Hid (Ow w22 0 s2 (dg Bs (A + B)) ∧ (dg Bs (A + B)).length ≤ 1048576 + 1048576 + 1) := ⟨Os2.out.1.below hbel (Nat.le_refl _), Os2.out.2⟩
  replace Op2 : Hid (Ow w22 0 p2 (dg Bs (A * B)) ∧ (dg Bs (A * B)).length ≤ 1048576 + 1048576) := ⟨Op2.out.1.below hbel (Nat.le_refl _), Op2.out.2⟩
  replace Ot1 : Hid (Ow w22 0 t1 (dg Bs (B + C)) ∧ (dg Bs (B + C)).length ≤ 1048576 + 1048576 + 1) := ⟨Ot1.out.1.below hbel (Nat.le_refl _), Ot1.out.2⟩
  replace Ot2 : Hid (Ow w22 0 t2 (dg Bs (A + B + C)) ∧ (dg Bs (A + B + C)).length ≤ 1048576 + (1048576 + 1048576 + 1) + 1) := ⟨Ot2.out.1.below hbel (Nat.le_refl _), Ot2.out.2⟩
  replace Oq1 : Hid (Ow w22 0 q1 (dg Bs (B * C)) ∧ (dg Bs (B * C)).length ≤ 1048576 + 1048576) := ⟨Oq1.out.1.below hbel (Nat.le_refl _), Oq1.out.2⟩
  replace Oq2 : Hid (Ow w22 0 q2 (dg Bs (A * B * C)) ∧ (dg Bs (A * B * C)).length ≤ 1048576 + (1048576 + 1048576)) := ⟨Oq2.out.1.below hbel (Nat.le_refl _), Oq2.out.2⟩
  replace Ol1 : Hid (Ow w22 0 l1 (dg Bs (B + C)) ∧ (dg Bs (B + C)).length ≤ 1048576 + 1048576 + 1) := ⟨Ol1.out.1.below hbel (Nat.le_refl _), Ol1.out.2⟩
  replace Oleft : Hid (Ow w22 0 left (dg Bs (A * B + A * C)) ∧ (dg Bs (A * B + A * C)).length ≤ 1048576 + (1048576 + 1048576 + 1)) := ⟨Oleft.out.1.below hbel (Nat.le_refl _), Oleft.out.2⟩
  replace Or1 : Hid (Ow w22 0 r1 (dg Bs (A * C)) ∧ (dg Bs (A * C)).length ≤ 1048576 + 1048576) := ⟨Or1.out.1.below hbel (Nat.le_refl _), Or1.out.2⟩
  replace Oright : Hid (Ow w22 0 right (dg Bs (A * B + A * C)) ∧ (dg Bs (A * B + A * C)).length ≤ 1048576 + 1048576 + (1048576 + 1048576) + 1) := ⟨Oright.out.1.below hbel (Nat.le_refl _), Oright.out.2⟩
  replace Onone : Hid (Ow w22 0 none (dg Bs (A)) ∧ (dg Bs (A)).length ≤ 1048576 + 0 + 1) := ⟨Onone.out.1.below hbel (Nat.le_refl _), Onone.out.2⟩
  replace HB : Hid (Below w.heap.size w w22) := HB.out.trans (hbel.mono HB.out.size)
  have Oonce : Hid (Ow w22 0 once (dg Bs (A)) ∧ (dg Bs (A)).length ≤ 1048576 + 1) := ⟨hnew.1.base (Nat.zero_le _), hnew.2.1⟩
  clear hnew hbel
  go_wp2_with fail
  have hbel := alloc_below w22 (.cells #[.int .u32 0, .int .u32 0] 36)
  have hlit := vlit w22 [0, 0] (by decide)
  rw [show (([0, 0] : List Nat).map U).toArray = #[.int .u32 0, .int .u32 0] from rfl] at hlit
  generalize hw2 : w22.alloc (.cells #[.int .u32 0, .int .u32 0] 36) = w23 at hbel hlit ⊢
  replace Ha : Hid (Vl w23 a (A) (1048576)) := Ha.out.below hbel (Nat.le_refl _)
  replace Hb : Hid (Vl w23 b (B) (1048576)) := Hb.out.below hbel (Nat.le_refl _)
  replace Hc : Hid (Vl w23 c (C) (1048576)) := Hc.out.below hbel (Nat.le_refl _)
  replace Os : Hid (Ow w23 0 s (dg Bs (A + B)) ∧ (dg Bs (A + B)).length ≤ 1048576 + 1048576 + 1) := ⟨Os.out.1.below hbel (Nat.le_refl _), Os.out.2⟩
  replace Op : Hid (Ow w23 0 p (dg Bs (A * B)) ∧ (dg Bs (A * B)).length ≤ 1048576 + 1048576) := ⟨Op.out.1.below hbel (Nat.le_refl _), Op.out.2⟩
  replace Ot : Hid (Ow w23 0 t (dg Bs (A + B + C)) ∧ (dg Bs (A + B + C)).length ≤ 1048576 + 1048576 + 1 + 1048576 + 1) := ⟨Ot.out.1.below hbel (Nat.le_refl _), Ot.out.2⟩
  replace Oq : Hid (Ow w23 0 q (dg Bs (A * B * C)) ∧ (dg Bs (A * B * C)).length ≤ 1048576 + 1048576 + 1048576) := ⟨Oq.out.1.below hbel (Nat.le_refl _), Oq.out.2⟩
  replace Os2 : Hid (Ow w23 0 s2 (dg Bs (A + B)) ∧ (dg Bs (A + B)).length ≤ 1048576 + 1048576 + 1) := ⟨Os2.out.1.below hbel (Nat.le_refl _), Os2.out.2⟩
  replace Op2 : Hid (Ow w23 0 p2 (dg Bs (A * B)) ∧ (dg Bs (A * B)).length ≤ 1048576 + 1048576) := ⟨Op2.out.1.below hbel (Nat.le_refl _), Op2.out.2⟩
  replace Ot1 : Hid (Ow w23 0 t1 (dg Bs (B + C)) ∧ (dg Bs (B + C)).length ≤ 1048576 + 1048576 + 1) := ⟨Ot1.out.1.below hbel (Nat.le_refl _), Ot1.out.2⟩
  replace Ot2 : Hid (Ow w23 0 t2 (dg Bs (A + B + C)) ∧ (dg Bs (A + B + C)).length ≤ 1048576 + (1048576 + 1048576 + 1) + 1) := ⟨Ot2.out.1.below hbel (Nat.le_refl _), Ot2.out.2⟩
  replace Oq1 : Hid (Ow w23 0 q1 (dg Bs (B * C)) ∧ (dg Bs (B * C)).length ≤ 1048576 + 1048576) := ⟨Oq1.out.1.below hbel (Nat.le_refl _), Oq1.out.2⟩
  replace Oq2 : Hid (Ow w23 0 q2 (dg Bs (A * B * C)) ∧ (dg Bs (A * B * C)).length ≤ 1048576 + (1048576 + 1048576)) := ⟨Oq2.out.1.below hbel (Nat.le_refl _), Oq2.out.2⟩
  replace Ol1 : Hid (Ow w23 0 l1 (dg Bs (B + C)) ∧ (dg Bs (B + C)).length ≤ 1048576 + 1048576 + 1) := ⟨Ol1.out.1.below hbel (Nat.le_refl _), Ol1.out.2⟩
  replace Oleft : Hid (Ow w23 0 left (dg Bs (A * B + A * C)) ∧ (dg Bs (A * B + A * C)).length ≤ 1048576 + (1048576 + 1048576 + 1)) := ⟨Oleft.out.1.below hbel (Nat.le_refl _), Oleft.out.2⟩
  replace Or1 : Hid (Ow w23 0 r1 (dg Bs (A * C)) ∧ (dg Bs (A * C)).length ≤ 1048576 + 1048576) := ⟨Or1.out.1.below hbel (Nat.le_refl _), Or1.out.2⟩
  replace Oright : Hid (Ow w23 0 right (dg Bs (A * B + A * C)) ∧ (dg Bs (A * B + A * C)).length ≤ 1048576 + 1048576 + (1048576 + 1048576) + 1) := ⟨Oright.out.1.below hbel (Nat.le_refl _), Oright.out.2⟩
  replace Onone : Hid (Ow w23 0 none (dg Bs (A)) ∧ (dg Bs (A)).length ≤ 1048576 + 0 + 1) := ⟨Onone.out.1.below hbel (Nat.le_refl _), Onone.out.2⟩
  replace Oonce : Hid (Ow w23 0 once (dg Bs (A)) ∧ (dg Bs (A)).length ≤ 1048576 + 1) := ⟨Oonce.out.1.below hbel (Nat.le_refl _), Oonce.out.2⟩
  replace HB : Hid (Below w.heap.size w w23) := HB.out.trans (hbel.mono HB.out.size)
  clear hbel hw2
  have hl1 : nv Bs [0, 0] = 0 := by simp [nv]
  rw [hl1] at hlit
  clear hl1
  have Cc := vmul a _ _ _ _ _ w23 Ha.out hlit (by decide) (by decide)
  rw [Nat.mul_zero] at Cc
  clear hlit
  refine Cc.mono ?_
  clear Cc
  rintro e w24 ⟨never, rfl, hnew⟩
  have hbel := hnew.2.2
  replace Ha : Hid (Vl w24 a (A) (1048576)) := Ha.out.below hbel (Nat.le_refl _)
  replace Hb : Hid (Vl w24 b (B) (1048576)) := Hb.out.below hbel (Nat.le_refl _)
  replace Hc : Hid (Vl w24 c (C) (1048576)) := Hc.out.below hbel (Nat.le_refl _)
  replace Os : Hid (Ow w24 0 s (dg Bs (A + B)) ∧ (dg Bs (A + B)).length ≤ 1048576 + 1048576 + 1) := ⟨Os.out.1.below hbel (Nat.le_refl _), Os.out.2⟩
  replace Op : Hid (Ow w24 0 p (dg Bs (A * B)) ∧ (dg Bs (A * B)).length ≤ 1048576 + 1048576) := ⟨Op.out.1.below hbel (Nat.le_refl _), Op.out.2⟩
  replace Ot : Hid (Ow w24 0 t (dg Bs (A + B + C)) ∧ (dg Bs (A + B + C)).length ≤ 1048576 + 1048576 + 1 + 1048576 + 1) := ⟨Ot.out.1.below hbel (Nat.le_refl _), Ot.out.2⟩
  replace Oq : Hid (Ow w24 0 q (dg Bs (A * B * C)) ∧ (dg Bs (A * B * C)).length ≤ 1048576 + 1048576 + 1048576) := ⟨Oq.out.1.below hbel (Nat.le_refl _), Oq.out.2⟩
  replace Os2 : Hid (Ow w24 0 s2 (dg Bs (A + B)) ∧ (dg Bs (A + B)).length ≤ 1048576 + 1048576 + 1) := ⟨Os2.out.1.below hbel (Nat.le_refl _), Os2.out.2⟩
  replace Op2 : Hid (Ow w24 0 p2 (dg Bs (A * B)) ∧ (dg Bs (A * B)).length ≤ 1048576 + 1048576) := ⟨Op2.out.1.below hbel (Nat.le_refl _), Op2.out.2⟩
  replace Ot1 : Hid (Ow w24 0 t1 (dg Bs (B + C)) ∧ (dg Bs (B + C)).length ≤ 1048576 + 1048576 + 1) := ⟨Ot1.out.1.below hbel (Nat.le_refl _), Ot1.out.2⟩
  replace Ot2 : Hid (Ow w24 0 t2 (dg Bs (A + B + C)) ∧ (dg Bs (A + B + C)).length ≤ 1048576 + (1048576 + 1048576 + 1) + 1) := ⟨Ot2.out.1.below hbel (Nat.le_refl _), Ot2.out.2⟩
  replace Oq1 : Hid (Ow w24 0 q1 (dg Bs (B * C)) ∧ (dg Bs (B * C)).length ≤ 1048576 + 1048576) := ⟨Oq1.out.1.below hbel (Nat.le_refl _), Oq1.out.2⟩
  replace Oq2 : Hid (Ow w24 0 q2 (dg Bs (A * B * C)) ∧ (dg Bs (A * B * C)).length ≤ 1048576 + (1048576 + 1048576)) := ⟨Oq2.out.1.below hbel (Nat.le_refl _), Oq2.out.2⟩
  replace Ol1 : Hid (Ow w24 0 l1 (dg Bs (B + C)) ∧ (dg Bs (B + C)).length ≤ 1048576 + 1048576 + 1) := ⟨Ol1.out.1.below hbel (Nat.le_refl _), Ol1.out.2⟩
  replace Oleft : Hid (Ow w24 0 left (dg Bs (A * B + A * C)) ∧ (dg Bs (A * B + A * C)).length ≤ 1048576 + (1048576 + 1048576 + 1)) := ⟨Oleft.out.1.below hbel (Nat.le_refl _), Oleft.out.2⟩
  replace Or1 : Hid (Ow w24 0 r1 (dg Bs (A * C)) ∧ (dg Bs (A * C)).length ≤ 1048576 + 1048576) := ⟨Or1.out.1.below hbel (Nat.le_refl _), Or1.out.2⟩
  replace Oright : Hid (Ow w24 0 right (dg Bs (A * B + A * C)) ∧ (dg Bs (A * B + A * C)).length ≤ 1048576 + 1048576 + (1048576 + 1048576) + 1) := ⟨Oright.out.1.below hbel (Nat.le_refl _), Oright.out.2⟩
  replace Onone : Hid (Ow w24 0 none (dg Bs (A)) ∧ (dg Bs (A)).length ≤ 1048576 + 0 + 1) := ⟨Onone.out.1.below hbel (Nat.le_refl _), Onone.out.2⟩
  replace Oonce : Hid (Ow w24 0 once (dg Bs (A)) ∧ (dg Bs (A)).length ≤ 1048576 + 1) := ⟨Oonce.out.1.below hbel (Nat.le_refl _), Oonce.out.2⟩
  replace HB : Hid (Below w.heap.size w w24) := HB.out.trans (hbel.mono HB.out.size)
  have hnv := hnew.1
  rw [dg_zero] at hnv
  obtain ⟨na, nc, rfl⟩ := hnv.none
  clear hnew hbel hnv
  have Cc := vsub s b _ _ _ _ w24 (Os.out.1.vl Os.out.2) Hb.out (by decide) (by decide)
  rw [Nat.add_sub_cancel, decide_eq_true (show B ≤ A + B by omega)] at Cc
  go_wp2_with fail
  refine Cc.mono ?_
  clear Cc
  rintro e w25 ⟨d, rfl, hnew⟩
  have hbel := hnew.2.2
  replace Ha : Hid (Vl w25 a (A) (1048576)) := Ha.out.below hbel (Nat.le_refl _)
  replace Hb : Hid (Vl w25 b (B) (1048576)) := Hb.out.below hbel (Nat.le_refl _)
  replace Hc : Hid (Vl w25 c (C) (1048576)) := Hc.out.below hbel (Nat.le_refl _)
  replace Os : Hid (Ow w25 0 s (dg Bs (A + B)) ∧ (dg Bs (A + B)).length ≤ 1048576 + 1048576 + 1) := ⟨Os.out.1.below hbel (Nat.le_refl _), Os.out.2⟩
  replace Op : Hid (Ow w25 0 p (dg Bs (A * B)) ∧ (dg Bs (A * B)).length ≤ 1048576 + 1048576) := ⟨Op.out.1.below hbel (Nat.le_refl _), Op.out.2⟩
  replace Ot : Hid (Ow w25 0 t (dg Bs (A + B + C)) ∧ (dg Bs (A + B + C)).length ≤ 1048576 + 1048576 + 1 + 1048576 + 1) := ⟨Ot.out.1.below hbel (Nat.le_refl _), Ot.out.2⟩
  replace Oq : Hid (Ow w25 0 q (dg Bs (A * B * C)) ∧ (dg Bs (A * B * C)).length ≤ 1048576 + 1048576 + 1048576) := ⟨Oq.out.1.below hbel (Nat.le_refl _), Oq.out.2⟩
  replace Os2 : Hid (Ow w25 0 s2 (dg Bs (A + B)) ∧ (dg Bs (A + B)).length ≤ 1048576 + 1048576 + 1) := ⟨Os2.out.1.below hbel (Nat.le_refl _), Os2.out.2⟩
  replace Op2 : Hid (Ow w25 0 p2 (dg Bs (A * B)) ∧ (dg Bs (A * B)).length ≤ 1048576 + 1048576) := ⟨Op2.out.1.below hbel (Nat.le_refl _), Op2.out.2⟩
  replace Ot1 : Hid (Ow w25 0 t1 (dg Bs (B + C)) ∧ (dg Bs (B + C)).length ≤ 1048576 + 1048576 + 1) := ⟨Ot1.out.1.below hbel (Nat.le_refl _), Ot1.out.2⟩
  replace Ot2 : Hid (Ow w25 0 t2 (dg Bs (A + B + C)) ∧ (dg Bs (A + B + C)).length ≤ 1048576 + (1048576 + 1048576 + 1) + 1) := ⟨Ot2.out.1.below hbel (Nat.le_refl _), Ot2.out.2⟩
  replace Oq1 : Hid (Ow w25 0 q1 (dg Bs (B * C)) ∧ (dg Bs (B * C)).length ≤ 1048576 + 1048576) := ⟨Oq1.out.1.below hbel (Nat.le_refl _), Oq1.out.2⟩
  replace Oq2 : Hid (Ow w25 0 q2 (dg Bs (A * B * C)) ∧ (dg Bs (A * B * C)).length ≤ 1048576 + (1048576 + 1048576)) := ⟨Oq2.out.1.below hbel (Nat.le_refl _), Oq2.out.2⟩
  replace Ol1 : Hid (Ow w25 0 l1 (dg Bs (B + C)) ∧ (dg Bs (B + C)).length ≤ 1048576 + 1048576 + 1) := ⟨Ol1.out.1.below hbel (Nat.le_refl _), Ol1.out.2⟩
  replace Oleft : Hid (Ow w25 0 left (dg Bs (A * B + A * C)) ∧ (dg Bs (A * B + A * C)).length ≤ 1048576 + (1048576 + 1048576 + 1)) := ⟨Oleft.out.1.below hbel (Nat.le_refl _), Oleft.out.2⟩
  replace Or1 : Hid (Ow w25 0 r1 (dg Bs (A * C)) ∧ (dg Bs (A * C)).length ≤ 1048576 + 1048576) := ⟨Or1.out.1.below hbel (Nat.le_refl _), Or1.out.2⟩
  replace Oright : Hid (Ow w25 0 right (dg Bs (A * B + A * C)) ∧ (dg Bs (A * B + A * C)).length ≤ 1048576 + 1048576 + (1048576 + 1048576) + 1) := ⟨Oright.out.1.below hbel (Nat.le_refl _), Oright.out.2⟩
  replace Onone : Hid (Ow w25 0 none (dg Bs (A)) ∧ (dg Bs (A)).length ≤ 1048576 + 0 + 1) := ⟨Onone.out.1.below hbel (Nat.le_refl _), Onone.out.2⟩
  replace Oonce : Hid (Ow w25 0 once (dg Bs (A)) ∧ (dg Bs (A)).length ≤ 1048576 + 1) := ⟨Oonce.out.1.below hbel (Nat.le_refl _), Oonce.out.2⟩
  replace HB : Hid (Below w.heap.size w w25) := HB.out.trans (hbel.mono HB.out.size)
  have Od : Hid (Ow w25 0 d (dg Bs (A)) ∧ (dg Bs (A)).length ≤ 1048576 + 1048576 + 1) := ⟨hnew.1.base (Nat.zero_le _), hnew.2.1⟩
  clear hnew hbel
  have Cc := vsame left right (A * B + A * C) w25 0 0 Oleft.out.1 (by have h := Oright.out.1; exact h) (Nat.le_trans Oleft.out.2 (by decide))
  go_wp2_with fail
  refine Cc.mono ?_
  clear Cc
  rintro e w26 ⟨rfl, qq, hq⟩
  replace Ha : Hid (Vl w26 a (A) (1048576)) := by rw [hq]; exact Ha.out.drewN qq
  replace Hb : Hid (Vl w26 b (B) (1048576)) := by rw [hq]; exact Hb.out.drewN qq
  replace Hc : Hid (Vl w26 c (C) (1048576)) := by rw [hq]; exact Hc.out.drewN qq
  replace Os : Hid (Ow w26 0 s (dg Bs (A + B)) ∧ (dg Bs (A + B)).length ≤ 1048576 + 1048576 + 1) := by rw [hq]; exact ⟨Os.out.1.drewN qq, Os.out.2⟩
  replace Op : Hid (Ow w26 0 p (dg Bs (A * B)) ∧ (dg Bs (A * B)).length ≤ 1048576 + 1048576) := by rw [hq]; exact ⟨Op.out.1.drewN qq, Op.out.2⟩
  replace Ot : Hid (Ow w26 0 t (dg Bs (A + B + C)) ∧ (dg Bs (A + B + C)).length ≤ 1048576 + 1048576 + 1 + 1048576 + 1) := by rw [hq]; exact ⟨Ot.out.1.drewN qq, Ot.out.2⟩
  replace Oq : Hid (Ow w26 0 q (dg Bs (A * B * C)) ∧ (dg Bs (A * B * C)).length ≤ 1048576 + 1048576 + 1048576) := by rw [hq]; exact ⟨Oq.out.1.drewN qq, Oq.out.2⟩
  replace Os2 : Hid (Ow w26 0 s2 (dg Bs (A + B)) ∧ (dg Bs (A + B)).length ≤ 1048576 + 1048576 + 1) := by rw [hq]; exact ⟨Os2.out.1.drewN qq, Os2.out.2⟩
  replace Op2 : Hid (Ow w26 0 p2 (dg Bs (A * B)) ∧ (dg Bs (A * B)).length ≤ 1048576 + 1048576) := by rw [hq]; exact ⟨Op2.out.1.drewN qq, Op2.out.2⟩
  replace Ot1 : Hid (Ow w26 0 t1 (dg Bs (B + C)) ∧ (dg Bs (B + C)).length ≤ 1048576 + 1048576 + 1) := by rw [hq]; exact ⟨Ot1.out.1.drewN qq, Ot1.out.2⟩
  replace Ot2 : Hid (Ow w26 0 t2 (dg Bs (A + B + C)) ∧ (dg Bs (A + B + C)).length ≤ 1048576 + (1048576 + 1048576 + 1) + 1) := by rw [hq]; exact ⟨Ot2.out.1.drewN qq, Ot2.out.2⟩
  replace Oq1 : Hid (Ow w26 0 q1 (dg Bs (B * C)) ∧ (dg Bs (B * C)).length ≤ 1048576 + 1048576) := by rw [hq]; exact ⟨Oq1.out.1.drewN qq, Oq1.out.2⟩
  replace Oq2 : Hid (Ow w26 0 q2 (dg Bs (A * B * C)) ∧ (dg Bs (A * B * C)).length ≤ 1048576 + (1048576 + 1048576)) := by rw [hq]; exact ⟨Oq2.out.1.drewN qq, Oq2.out.2⟩
  replace Ol1 : Hid (Ow w26 0 l1 (dg Bs (B + C)) ∧ (dg Bs (B + C)).length ≤ 1048576 + 1048576 + 1) := by rw [hq]; exact ⟨Ol1.out.1.drewN qq, Ol1.out.2⟩
  replace Oleft : Hid (Ow w26 0 left (dg Bs (A * B + A * C)) ∧ (dg Bs (A * B + A * C)).length ≤ 1048576 + (1048576 + 1048576 + 1)) := by rw [hq]; exact ⟨Oleft.out.1.drewN qq, Oleft.out.2⟩
  replace Or1 : Hid (Ow w26 0 r1 (dg Bs (A * C)) ∧ (dg Bs (A * C)).length ≤ 1048576 + 1048576) := by rw [hq]; exact ⟨Or1.out.1.drewN qq, Or1.out.2⟩
  replace Oright : Hid (Ow w26 0 right (dg Bs (A * B + A * C)) ∧ (dg Bs (A * B + A * C)).length ≤ 1048576 + 1048576 + (1048576 + 1048576) + 1) := by rw [hq]; exact ⟨Oright.out.1.drewN qq, Oright.out.2⟩
  replace Onone : Hid (Ow w26 0 none (dg Bs (A)) ∧ (dg Bs (A)).length ≤ 1048576 + 0 + 1) := by rw [hq]; exact ⟨Onone.out.1.drewN qq, Onone.out.2⟩
  replace Oonce : Hid (Ow w26 0 once (dg Bs (A)) ∧ (dg Bs (A)).length ≤ 1048576 + 1) := by rw [hq]; exact ⟨Oonce.out.1.drewN qq, Oonce.out.2⟩
  replace Od : Hid (Ow w26 0 d (dg Bs (A)) ∧ (dg Bs (A)).length ≤ 1048576 + 1048576 + 1) := by rw [hq]; exact ⟨Od.out.1.drewN qq, Od.out.2⟩
  replace HB : Hid (Below w.heap.size w w26) := by rw [hq]; exact below_drewN HB.out qq
  clear hq
  have Cc := vcmp none a _ _ _ _ w26 (Onone.out.1.vl Onone.out.2) Ha.out (by decide) (by decide)
  rw [show cmp3 ((A : Nat) : Int) ((A : Nat) : Int) = 0 from cmp3_eq rfl] at Cc
  go_wp2_with fail
  refine Cc.mono ?_
  clear Cc
  rintro e w27 ⟨rfl, qq, hq⟩
  replace Ha : Hid (Vl w27 a (A) (1048576)) := by rw [hq]; exact Ha.out.drewN qq
  replace Hb : Hid (Vl w27 b (B) (1048576)) := by rw [hq]; exact Hb.out.drewN qq
  replace Hc : Hid (Vl w27 c (C) (1048576)) := by rw [hq]; exact Hc.out.drewN qq
  replace Os : Hid (Ow w27 0 s (dg Bs (A + B)) ∧ (dg Bs (A + B)).length ≤ 1048576 + 1048576 + 1) := by rw [hq]; exact ⟨Os.out.1.drewN qq, Os.out.2⟩
  replace Op : Hid (Ow w27 0 p (dg Bs (A * B)) ∧ (dg Bs (A * B)).length ≤ 1048576 + 1048576) := by rw [hq]; exact ⟨Op.out.1.drewN qq, Op.out.2⟩
  replace Ot : Hid (Ow w27 0 t (dg Bs (A + B + C)) ∧ (dg Bs (A + B + C)).length ≤ 1048576 + 1048576 + 1 + 1048576 + 1) := by rw [hq]; exact ⟨Ot.out.1.drewN qq, Ot.out.2⟩
  replace Oq : Hid (Ow w27 0 q (dg Bs (A * B * C)) ∧ (dg Bs (A * B * C)).length ≤ 1048576 + 1048576 + 1048576) := by rw [hq]; exact ⟨Oq.out.1.drewN qq, Oq.out.2⟩
  replace Os2 : Hid (Ow w27 0 s2 (dg Bs (A + B)) ∧ (dg Bs (A + B)).length ≤ 1048576 + 1048576 + 1) := by rw [hq]; exact ⟨Os2.out.1.drewN qq, Os2.out.2⟩
  replace Op2 : Hid (Ow w27 0 p2 (dg Bs (A * B)) ∧ (dg Bs (A * B)).length ≤ 1048576 + 1048576) := by rw [hq]; exact ⟨Op2.out.1.drewN qq, Op2.out.2⟩
  replace Ot1 : Hid (Ow w27 0 t1 (dg Bs (B + C)) ∧ (dg Bs (B + C)).length ≤ 1048576 + 1048576 + 1) := by rw [hq]; exact ⟨Ot1.out.1.drewN qq, Ot1.out.2⟩
  replace Ot2 : Hid (Ow w27 0 t2 (dg Bs (A + B + C)) ∧ (dg Bs (A + B + C)).length ≤ 1048576 + (1048576 + 1048576 + 1) + 1) := by rw [hq]; exact ⟨Ot2.out.1.drewN qq, Ot2.out.2⟩
  replace Oq1 : Hid (Ow w27 0 q1 (dg Bs (B * C)) ∧ (dg Bs (B * C)).length ≤ 1048576 + 1048576) := by rw [hq]; exact ⟨Oq1.out.1.drewN qq, Oq1.out.2⟩
  replace Oq2 : Hid (Ow w27 0 q2 (dg Bs (A * B * C)) ∧ (dg Bs (A * B * C)).length ≤ 1048576 + (1048576 + 1048576)) := by rw [hq]; exact ⟨Oq2.out.1.drewN qq, Oq2.out.2⟩
  replace Ol1 : Hid (Ow w27 0 l1 (dg Bs (B + C)) ∧ (dg Bs (B + C)).length ≤ 1048576 + 1048576 + 1) := by rw [hq]; exact ⟨Ol1.out.1.drewN qq, Ol1.out.2⟩
  replace Oleft : Hid (Ow w27 0 left (dg Bs (A * B + A * C)) ∧ (dg Bs (A * B + A * C)).length ≤ 1048576 + (1048576 + 1048576 + 1)) := by rw [hq]; exact ⟨Oleft.out.1.drewN qq, Oleft.out.2⟩
  replace Or1 : Hid (Ow w27 0 r1 (dg Bs (A * C)) ∧ (dg Bs (A * C)).length ≤ 1048576 + 1048576) := by rw [hq]; exact ⟨Or1.out.1.drewN qq, Or1.out.2⟩
  replace Oright : Hid (Ow w27 0 right (dg Bs (A * B + A * C)) ∧ (dg Bs (A * B + A * C)).length ≤ 1048576 + 1048576 + (1048576 + 1048576) + 1) := by rw [hq]; exact ⟨Oright.out.1.drewN qq, Oright.out.2⟩
  replace Onone : Hid (Ow w27 0 none (dg Bs (A)) ∧ (dg Bs (A)).length ≤ 1048576 + 0 + 1) := by rw [hq]; exact ⟨Onone.out.1.drewN qq, Onone.out.2⟩
  replace Oonce : Hid (Ow w27 0 once (dg Bs (A)) ∧ (dg Bs (A)).length ≤ 1048576 + 1) := by rw [hq]; exact ⟨Oonce.out.1.drewN qq, Oonce.out.2⟩
  replace Od : Hid (Ow w27 0 d (dg Bs (A)) ∧ (dg Bs (A)).length ≤ 1048576 + 1048576 + 1) := by rw [hq]; exact ⟨Od.out.1.drewN qq, Od.out.2⟩
  replace HB : Hid (Below w.heap.size w w27) := by rw [hq]; exact below_drewN HB.out qq
  clear hq
  have Cc := vsame once none (A) w27 0 0 Oonce.out.1 (by have h := Onone.out.1; exact h) (Nat.le_trans Oonce.out.2 (by decide))
  go_wp2_with fail
  refine Cc.mono ?_
  clear Cc
  rintro e w28 ⟨rfl, qq, hq⟩
  replace Ha : Hid (Vl w28 a (A) (1048576)) := by rw [hq]; exact Ha.out.drewN qq
  replace Hb : Hid (Vl w28 b (B) (1048576)) := by rw [hq]; exact Hb.out.drewN qq
  replace Hc : Hid (Vl w28 c (C) (1048576)) := by rw [hq]; exact Hc.out.drewN qq
  replace Os : Hid (Ow w28 0 s (dg Bs (A + B)) ∧ (dg Bs (A + B)).length ≤ 1048576 + 1048576 + 1) := by rw [hq]; exact ⟨Os.out.1.drewN qq, Os.out.2⟩
  replace Op : Hid (Ow w28 0 p (dg Bs (A * B)) ∧ (dg Bs (A * B)).length ≤ 1048576 + 1048576) := by rw [hq]; exact ⟨Op.out.1.drewN qq, Op.out.2⟩
  replace Ot : Hid (Ow w28 0 t (dg Bs (A + B + C)) ∧ (dg Bs (A + B + C)).length ≤ 1048576 + 1048576 + 1 + 1048576 + 1) := by rw [hq]; exact ⟨Ot.out.1.drewN qq, Ot.out.2⟩
  replace Oq : Hid (Ow w28 0 q (dg Bs (A * B * C)) ∧ (dg Bs (A * B * C)).length ≤ 1048576 + 1048576 + 1048576) := by rw [hq]; exact ⟨Oq.out.1.drewN qq, Oq.out.2⟩
  replace Os2 : Hid (Ow w28 0 s2 (dg Bs (A + B)) ∧ (dg Bs (A + B)).length ≤ 1048576 + 1048576 + 1) := by rw [hq]; exact ⟨Os2.out.1.drewN qq, Os2.out.2⟩
  replace Op2 : Hid (Ow w28 0 p2 (dg Bs (A * B)) ∧ (dg Bs (A * B)).length ≤ 1048576 + 1048576) := by rw [hq]; exact ⟨Op2.out.1.drewN qq, Op2.out.2⟩
  replace Ot1 : Hid (Ow w28 0 t1 (dg Bs (B + C)) ∧ (dg Bs (B + C)).length ≤ 1048576 + 1048576 + 1) := by rw [hq]; exact ⟨Ot1.out.1.drewN qq, Ot1.out.2⟩
  replace Ot2 : Hid (Ow w28 0 t2 (dg Bs (A + B + C)) ∧ (dg Bs (A + B + C)).length ≤ 1048576 + (1048576 + 1048576 + 1) + 1) := by rw [hq]; exact ⟨Ot2.out.1.drewN qq, Ot2.out.2⟩
  replace Oq1 : Hid (Ow w28 0 q1 (dg Bs (B * C)) ∧ (dg Bs (B * C)).length ≤ 1048576 + 1048576) := by rw [hq]; exact ⟨Oq1.out.1.drewN qq, Oq1.out.2⟩
  replace Oq2 : Hid (Ow w28 0 q2 (dg Bs (A * B * C)) ∧ (dg Bs (A * B * C)).length ≤ 1048576 + (1048576 + 1048576)) := by rw [hq]; exact ⟨Oq2.out.1.drewN qq, Oq2.out.2⟩
  replace Ol1 : Hid (Ow w28 0 l1 (dg Bs (B + C)) ∧ (dg Bs (B + C)).length ≤ 1048576 + 1048576 + 1) := by rw [hq]; exact ⟨Ol1.out.1.drewN qq, Ol1.out.2⟩
  replace Oleft : Hid (Ow w28 0 left (dg Bs (A * B + A * C)) ∧ (dg Bs (A * B + A * C)).length ≤ 1048576 + (1048576 + 1048576 + 1)) := by rw [hq]; exact ⟨Oleft.out.1.drewN qq, Oleft.out.2⟩
  replace Or1 : Hid (Ow w28 0 r1 (dg Bs (A * C)) ∧ (dg Bs (A * C)).length ≤ 1048576 + 1048576) := by rw [hq]; exact ⟨Or1.out.1.drewN qq, Or1.out.2⟩
  replace Oright : Hid (Ow w28 0 right (dg Bs (A * B + A * C)) ∧ (dg Bs (A * B + A * C)).length ≤ 1048576 + 1048576 + (1048576 + 1048576) + 1) := by rw [hq]; exact ⟨Oright.out.1.drewN qq, Oright.out.2⟩
  replace Onone : Hid (Ow w28 0 none (dg Bs (A)) ∧ (dg Bs (A)).length ≤ 1048576 + 0 + 1) := by rw [hq]; exact ⟨Onone.out.1.drewN qq, Onone.out.2⟩
  replace Oonce : Hid (Ow w28 0 once (dg Bs (A)) ∧ (dg Bs (A)).length ≤ 1048576 + 1) := by rw [hq]; exact ⟨Oonce.out.1.drewN qq, Oonce.out.2⟩
  replace Od : Hid (Ow w28 0 d (dg Bs (A)) ∧ (dg Bs (A)).length ≤ 1048576 + 1048576 + 1) := by rw [hq]; exact ⟨Od.out.1.drewN qq, Od.out.2⟩
  replace HB : Hid (Below w.heap.size w w28) := by rw [hq]; exact below_drewN HB.out qq
  clear hq
  have Cc := vsame d none (A) w28 0 0 Od.out.1 (by have h := Onone.out.1; exact h) (Nat.le_trans Od.out.2 (by decide))
  go_wp2_with fail
  refine Cc.mono ?_
  clear Cc
  rintro e w29 ⟨rfl, qq, hq⟩
  replace Ha : Hid (Vl w29 a (A) (1048576)) := by rw [hq]; exact Ha.out.drewN qq
  replace Hb : Hid (Vl w29 b (B) (1048576)) := by rw [hq]; exact Hb.out.drewN qq
  replace Hc : Hid (Vl w29 c (C) (1048576)) := by rw [hq]; exact Hc.out.drewN qq
  replace Os : Hid (Ow w29 0 s (dg Bs (A + B)) ∧ (dg Bs (A + B)).length ≤ 1048576 + 1048576 + 1) := by rw [hq]; exact ⟨Os.out.1.drewN qq, Os.out.2⟩
  replace Op : Hid (Ow w29 0 p (dg Bs (A * B)) ∧ (dg Bs (A * B)).length ≤ 1048576 + 1048576) := by rw [hq]; exact ⟨Op.out.1.drewN qq, Op.out.2⟩
  replace Ot : Hid (Ow w29 0 t (dg Bs (A + B + C)) ∧ (dg Bs (A + B + C)).length ≤ 1048576 + 1048576 + 1 + 1048576 + 1) := by rw [hq]; exact ⟨Ot.out.1.drewN qq, Ot.out.2⟩
  replace Oq : Hid (Ow w29 0 q (dg Bs (A * B * C)) ∧ (dg Bs (A * B * C)).length ≤ 1048576 + 1048576 + 1048576) := by rw [hq]; exact ⟨Oq.out.1.drewN qq, Oq.out.2⟩
  replace Os2 : Hid (Ow w29 0 s2 (dg Bs (A + B)) ∧ (dg Bs (A + B)).length ≤ 1048576 + 1048576 + 1) := by rw [hq]; exact ⟨Os2.out.1.drewN qq, Os2.out.2⟩
  replace Op2 : Hid (Ow w29 0 p2 (dg Bs (A * B)) ∧ (dg Bs (A * B)).length ≤ 1048576 + 1048576) := by rw [hq]; exact ⟨Op2.out.1.drewN qq, Op2.out.2⟩
  replace Ot1 : Hid (Ow w29 0 t1 (dg Bs (B + C)) ∧ (dg Bs (B + C)).length ≤ 1048576 + 1048576 + 1) := by rw [hq]; exact ⟨Ot1.out.1.drewN qq, Ot1.out.2⟩
  replace Ot2 : Hid (Ow w29 0 t2 (dg Bs (A + B + C)) ∧ (dg Bs (A + B + C)).length ≤ 1048576 + (1048576 + 1048576 + 1) + 1) := by rw [hq]; exact ⟨Ot2.out.1.drewN qq, Ot2.out.2⟩
  replace Oq1 : Hid (Ow w29 0 q1 (dg Bs (B * C)) ∧ (dg Bs (B * C)).length ≤ 1048576 + 1048576) := by rw [hq]; exact ⟨Oq1.out.1.drewN qq, Oq1.out.2⟩
  replace Oq2 : Hid (Ow w29 0 q2 (dg Bs (A * B * C)) ∧ (dg Bs (A * B * C)).length ≤ 1048576 + (1048576 + 1048576)) := by rw [hq]; exact ⟨Oq2.out.1.drewN qq, Oq2.out.2⟩
  replace Ol1 : Hid (Ow w29 0 l1 (dg Bs (B + C)) ∧ (dg Bs (B + C)).length ≤ 1048576 + 1048576 + 1) := by rw [hq]; exact ⟨Ol1.out.1.drewN qq, Ol1.out.2⟩
  replace Oleft : Hid (Ow w29 0 left (dg Bs (A * B + A * C)) ∧ (dg Bs (A * B + A * C)).length ≤ 1048576 + (1048576 + 1048576 + 1)) := by rw [hq]; exact ⟨Oleft.out.1.drewN qq, Oleft.out.2⟩
  replace Or1 : Hid (Ow w29 0 r1 (dg Bs (A * C)) ∧ (dg Bs (A * C)).length ≤ 1048576 + 1048576) := by rw [hq]; exact ⟨Or1.out.1.drewN qq, Or1.out.2⟩
  replace Oright : Hid (Ow w29 0 right (dg Bs (A * B + A * C)) ∧ (dg Bs (A * B + A * C)).length ≤ 1048576 + 1048576 + (1048576 + 1048576) + 1) := by rw [hq]; exact ⟨Oright.out.1.drewN qq, Oright.out.2⟩
  replace Onone : Hid (Ow w29 0 none (dg Bs (A)) ∧ (dg Bs (A)).length ≤ 1048576 + 0 + 1) := by rw [hq]; exact ⟨Onone.out.1.drewN qq, Onone.out.2⟩
  replace Oonce : Hid (Ow w29 0 once (dg Bs (A)) ∧ (dg Bs (A)).length ≤ 1048576 + 1) := by rw [hq]; exact ⟨Oonce.out.1.drewN qq, Oonce.out.2⟩
  replace Od : Hid (Ow w29 0 d (dg Bs (A)) ∧ (dg Bs (A)).length ≤ 1048576 + 1048576 + 1) := by rw [hq]; exact ⟨Od.out.1.drewN qq, Od.out.2⟩
  replace HB : Hid (Below w.heap.size w w29) := by rw [hq]; exact below_drewN HB.out qq
  clear hq
  have Cc := vsub a b _ _ _ _ w29 Ha.out Hb.out (by decide) (by decide)
  rw [decide_eq_false (show ¬ B ≤ A by have := H0.out; omega), show A - B = 0 by have := H0.out; omega] at Cc
  go_wp2_with fail
  refine Cc.mono ?_
  clear Cc
  rintro e w30 ⟨e1, rfl, hnew⟩
  have hbel := hnew.2.2
  replace Ha : Hid (Vl w30 a (A) (1048576)) := Ha.out.below hbel (Nat.le_refl _)
  replace Hb : Hid (Vl w30 b (B) (1048576)) := Hb.out.below hbel (Nat.le_refl _)
  replace Hc : Hid (Vl w30 c (C) (1048576)) := Hc.out.below hbel (Nat.le_refl _)
  replace Os : Hid (Ow w30 0 s (dg Bs (A + B)) ∧ (dg Bs (A + B)).length ≤ 1048576 + 1048576 + 1) := ⟨Os.out.1.below hbel (Nat.le_refl _), Os.out.2⟩
  replace Op : Hid (Ow w30 0 p (dg Bs (A * B)) ∧ (dg Bs (A * B)).length ≤ 1048576 + 1048576) := ⟨Op.out.1.below hbel (Nat.le_refl _), Op.out.2⟩
  replace Ot : Hid (Ow w30 0 t (dg Bs (A + B + C)) ∧ (dg Bs (A + B + C)).length ≤ 1048576 + 1048576 + 1 + 1048576 + 1) := ⟨Ot.out.1.below hbel (Nat.le_refl _), Ot.out.2⟩
  replace Oq : Hid (Ow w30 0 q (dg Bs (A * B * C)) ∧ (dg Bs (A * B * C)).length ≤ 1048576 + 1048576 + 1048576) := ⟨Oq.out.1.below hbel (Nat.le_refl _), Oq.out.2⟩
  replace Os2 : Hid (Ow w30 0 s2 (dg Bs (A + B)) ∧ (dg Bs (A + B)).length ≤ 1048576 + 1048576 + 1) := ⟨Os2.out.1.below hbel (Nat.le_refl _), Os2.out.2⟩
  replace Op2 : Hid (Ow w30 0 p2 (dg Bs (A * B)) ∧ (dg Bs (A * B)).length ≤ 1048576 + 1048576) := ⟨Op2.out.1.below hbel (Nat.le_refl _), Op2.out.2⟩
  replace Ot1 : Hid (Ow w30 0 t1 (dg Bs (B + C)) ∧ (dg Bs (B + C)).length ≤ 1048576 + 1048576 + 1) := ⟨Ot1.out.1.below hbel (Nat.le_refl _), Ot1.out.2⟩
  replace Ot2 : Hid (Ow w30 0 t2 (dg Bs (A + B + C)) ∧ (dg Bs (A + B + C)).length ≤ 1048576 + (1048576 + 1048576 + 1) + 1) := ⟨Ot2.out.1.below hbel (Nat.le_refl _), Ot2.out.2⟩
  replace Oq1 : Hid (Ow w30 0 q1 (dg Bs (B * C)) ∧ (dg Bs (B * C)).length ≤ 1048576 + 1048576) := ⟨Oq1.out.1.below hbel (Nat.le_refl _), Oq1.out.2⟩
  replace Oq2 : Hid (Ow w30 0 q2 (dg Bs (A * B * C)) ∧ (dg Bs (A * B * C)).length ≤ 1048576 + (1048576 + 1048576)) := ⟨Oq2.out.1.below hbel (Nat.le_refl _), Oq2.out.2⟩
  replace Ol1 : Hid (Ow w30 0 l1 (dg Bs (B + C)) ∧ (dg Bs (B + C)).length ≤ 1048576 + 1048576 + 1) := ⟨Ol1.out.1.below hbel (Nat.le_refl _), Ol1.out.2⟩
  replace Oleft : Hid (Ow w30 0 left (dg Bs (A * B + A * C)) ∧ (dg Bs (A * B + A * C)).length ≤ 1048576 + (1048576 + 1048576 + 1)) := ⟨Oleft.out.1.below hbel (Nat.le_refl _), Oleft.out.2⟩
  replace Or1 : Hid (Ow w30 0 r1 (dg Bs (A * C)) ∧ (dg Bs (A * C)).length ≤ 1048576 + 1048576) := ⟨Or1.out.1.below hbel (Nat.le_refl _), Or1.out.2⟩
  replace Oright : Hid (Ow w30 0 right (dg Bs (A * B + A * C)) ∧ (dg Bs (A * B + A * C)).length ≤ 1048576 + 1048576 + (1048576 + 1048576) + 1) := ⟨Oright.out.1.below hbel (Nat.le_refl _), Oright.out.2⟩
  replace Onone : Hid (Ow w30 0 none (dg Bs (A)) ∧ (dg Bs (A)).length ≤ 1048576 + 0 + 1) := ⟨Onone.out.1.below hbel (Nat.le_refl _), Onone.out.2⟩
  replace Oonce : Hid (Ow w30 0 once (dg Bs (A)) ∧ (dg Bs (A)).length ≤ 1048576 + 1) := ⟨Oonce.out.1.below hbel (Nat.le_refl _), Oonce.out.2⟩
  replace Od : Hid (Ow w30 0 d (dg Bs (A)) ∧ (dg Bs (A)).length ≤ 1048576 + 1048576 + 1) := ⟨Od.out.1.below hbel (Nat.le_refl _), Od.out.2⟩
  replace HB : Hid (Below w.heap.size w w30) := HB.out.trans (hbel.mono HB.out.size)
  have hnv := hnew.1
  rw [dg_zero] at hnv
  obtain ⟨ea, ec, rfl⟩ := hnv.none
  clear hnew hbel hnv
  have Cc := vcmp a b _ _ _ _ w30 Ha.out Hb.out (by decide) (by decide)
  rw [show cmp3 ((A : Nat) : Int) ((B : Nat) : Int) = -1 from cmp3_lt (by have := H0.out; omega)] at Cc
  go_wp2_with fail
  refine Cc.mono ?_
  clear Cc
  rintro e w31 ⟨rfl, qq, hq⟩
  replace Ha : Hid (Vl w31 a (A) (1048576)) := by rw [hq]; exact Ha.out.drewN qq
  replace Hb : Hid (Vl w31 b (B) (1048576)) := by rw [hq]; exact Hb.out.drewN qq
  replace Hc : Hid (Vl w31 c (C) (1048576)) := by rw [hq]; exact Hc.out.drewN qq
  replace Os : Hid (Ow w31 0 s (dg Bs (A + B)) ∧ (dg Bs (A + B)).length ≤ 1048576 + 1048576 + 1) := by rw [hq]; exact ⟨Os.out.1.drewN qq, Os.out.2⟩
  replace Op : Hid (Ow w31 0 p (dg Bs (A * B)) ∧ (dg Bs (A * B)).length ≤ 1048576 + 1048576) := by rw [hq]; exact ⟨Op.out.1.drewN qq, Op.out.2⟩
  replace Ot : Hid (Ow w31 0 t (dg Bs (A + B + C)) ∧ (dg Bs (A + B + C)).length ≤ 1048576 + 1048576 + 1 + 1048576 + 1) := by rw [hq]; exact ⟨Ot.out.1.drewN qq, Ot.out.2⟩
  replace Oq : Hid (Ow w31 0 q (dg Bs (A * B * C)) ∧ (dg Bs (A * B * C)).length ≤ 1048576 + 1048576 + 1048576) := by rw [hq]; exact ⟨Oq.out.1.drewN qq, Oq.out.2⟩
  replace Os2 : Hid (Ow w31 0 s2 (dg Bs (A + B)) ∧ (dg Bs (A + B)).length ≤ 1048576 + 1048576 + 1) := by rw [hq]; exact ⟨Os2.out.1.drewN qq, Os2.out.2⟩
  replace Op2 : Hid (Ow w31 0 p2 (dg Bs (A * B)) ∧ (dg Bs (A * B)).length ≤ 1048576 + 1048576) := by rw [hq]; exact ⟨Op2.out.1.drewN qq, Op2.out.2⟩
  replace Ot1 : Hid (Ow w31 0 t1 (dg Bs (B + C)) ∧ (dg Bs (B + C)).length ≤ 1048576 + 1048576 + 1) := by rw [hq]; exact ⟨Ot1.out.1.drewN qq, Ot1.out.2⟩
  replace Ot2 : Hid (Ow w31 0 t2 (dg Bs (A + B + C)) ∧ (dg Bs (A + B + C)).length ≤ 1048576 + (1048576 + 1048576 + 1) + 1) := by rw [hq]; exact ⟨Ot2.out.1.drewN qq, Ot2.out.2⟩
  replace Oq1 : Hid (Ow w31 0 q1 (dg Bs (B * C)) ∧ (dg Bs (B * C)).length ≤ 1048576 + 1048576) := by rw [hq]; exact ⟨Oq1.out.1.drewN qq, Oq1.out.2⟩
  replace Oq2 : Hid (Ow w31 0 q2 (dg Bs (A * B * C)) ∧ (dg Bs (A * B * C)).length ≤ 1048576 + (1048576 + 1048576)) := by rw [hq]; exact ⟨Oq2.out.1.drewN qq, Oq2.out.2⟩
  replace Ol1 : Hid (Ow w31 0 l1 (dg Bs (B + C)) ∧ (dg Bs (B + C)).length ≤ 1048576 + 1048576 + 1) := by rw [hq]; exact ⟨Ol1.out.1.drewN qq, Ol1.out.2⟩
  replace Oleft : Hid (Ow w31 0 left (dg Bs (A * B + A * C)) ∧ (dg Bs (A * B + A * C)).length ≤ 1048576 + (1048576 + 1048576 + 1)) := by rw [hq]; exact ⟨Oleft.out.1.drewN qq, Oleft.out.2⟩
  replace Or1 : Hid (Ow w31 0 r1 (dg Bs (A * C)) ∧ (dg Bs (A * C)).length ≤ 1048576 + 1048576) := by rw [hq]; exact ⟨Or1.out.1.drewN qq, Or1.out.2⟩
  replace Oright : Hid (Ow w31 0 right (dg Bs (A * B + A * C)) ∧ (dg Bs (A * B + A * C)).length ≤ 1048576 + 1048576 + (1048576 + 1048576) + 1) := by rw [hq]; exact ⟨Oright.out.1.drewN qq, Oright.out.2⟩
  replace Onone : Hid (Ow w31 0 none (dg Bs (A)) ∧ (dg Bs (A)).length ≤ 1048576 + 0 + 1) := by rw [hq]; exact ⟨Onone.out.1.drewN qq, Onone.out.2⟩
  replace Oonce : Hid (Ow w31 0 once (dg Bs (A)) ∧ (dg Bs (A)).length ≤ 1048576 + 1) := by rw [hq]; exact ⟨Oonce.out.1.drewN qq, Oonce.out.2⟩
  replace Od : Hid (Ow w31 0 d (dg Bs (A)) ∧ (dg Bs (A)).length ≤ 1048576 + 1048576 + 1) := by rw [hq]; exact ⟨Od.out.1.drewN qq, Od.out.2⟩
  replace HB : Hid (Below w.heap.size w w31) := by rw [hq]; exact below_drewN HB.out qq
  clear hq
  go_wp2
  go_ret
  exact ⟨rfl, HB.out⟩

theorem ring_core (a b c : Value) (A B C : Nat) (w : World) (ha : Vl w a A 1048576) (hb : Vl w b B 1048576) (hc : Vl w c C 1048576) :
    Calls Try.prog 6 #[a, b, c] w fun e w' => e = .returned (.bool true) ∧ Below w.heap.size w w' := by
  rcases Nat.lt_or_ge A B with h | h
  · exact ring_lt a b c A B C w ha hb hc h
  · exact ring_ge a b c A B C w ha hb hc h

end Go.Proofs.Ytkkcmfkegbdgjaa
