import Derived.Test.YtkkcmfkegbdgjaaLsame
namespace Go.Proofs.Ytkkcmfkegbdgjaa
open Go.RowKit

theorem div_made (X D Y : Nat) (h : Y < D) : (X * D + Y) / D = X ∧ (X * D + Y) % D = Y := by
  have h0 : 0 < D := by omega
  rw [Nat.mul_comm X D]
  exact ⟨by rw [Nat.mul_add_div h0, Nat.div_eq_of_lt h, Nat.add_zero], by rw [Nat.mul_add_mod, Nat.mod_eq_of_lt h]⟩
theorem vnil (w : World) : Vl w (.slice none 0 0) 0 0 := ⟨[], ⟨none, 0, rfl, Nat.le_refl _, .inl rfl, Sm.nil _⟩, rfl, Nat.le_refl _⟩
theorem vlit (w : World) (xs : List Nat) (h : ∀ x ∈ xs, x < 4294967296) : Vl (w.alloc (.cells (xs.map U).toArray 36)) (.slice (some ⟨w.heap.size, 0, none⟩) xs.length xs.length) (nv Bs xs) xs.length :=
  ⟨xs, ⟨_, xs.length, rfl, Nat.le_refl _, (alloc_bl w (xs.map U) 36).rn, h⟩, rfl, Nat.le_refl _⟩

set_option maxHeartbeats 4000000 in
theorem div_zero (a d x y : Value) (A D X Y : Nat) (w : World) (ha : Vl w a A 1048576) (hd : Vl w d D 1048576) (hx : Vl w x X 1048576) (hy : Vl w y Y 1048576) (h0 : D = 0) :
    Calls Try.prog 4 #[a, d, x, y] w fun e w' => e = .returned (.bool true) ∧ Below w.heap.size w w' := by
  subst h0
  have Ha : Hid (Vl w a A 1048576) := ha
  have Hd : Hid (Vl w d 0 1048576) := hd
  have Hx : Hid (Vl w x X 1048576) := hx
  have Hy : Hid (Vl w y Y 1048576) := hy
  have HB : Hid (Below w.heap.size w w) := Below.refl _ _
  clear ha hd hx hy
  go_enter Try.func4, Try.ntmps4
  go_wp2_with fail
  refine (alive_any w).mono ?_
  rintro e w1 ⟨rfl, hbel⟩
  replace Ha : Hid (Vl w1 a (A) (1048576)) := Ha.out.below hbel (Nat.le_refl _)
  replace Hd : Hid (Vl w1 d (0) (1048576)) := Hd.out.below hbel (Nat.le_refl _)
  replace Hx : Hid (Vl w1 x (X) (1048576)) := Hx.out.below hbel (Nat.le_refl _)
  replace Hy : Hid (Vl w1 y (Y) (1048576)) := Hy.out.below hbel (Nat.le_refl _)
  replace HB : Hid (Below w.heap.size w w1) := HB.out.trans (hbel.mono HB.out.size)
  clear hbel
  have Cc := vdiv0 a d _ _ _ w1 Ha.out Hd.out (by decide) (by decide)
  go_wp2_with fail
  refine Cc.mono ?_
  clear Cc
  rintro e w1 ⟨rfl, rfl⟩
  have Cc := vbits d _ _ w1 Hd.out (by decide)
  rw [show ((bl 0 : Nat) : Int) = 0 from rfl] at Cc
  go_wp2_with fail
  refine Cc.mono ?_
  clear Cc
  rintro e w1 ⟨rfl, rfl⟩
  go_wp2
  go_ret
  exact ⟨rfl, HB.out⟩

set_option maxHeartbeats 4000000 in
theorem div_lt (a d x y : Value) (A D X Y : Nat) (w : World) (ha : Vl w a A 1048576) (hd : Vl w d D 1048576) (hx : Vl w x X 1048576) (hy : Vl w y Y 1048576) (h0 : D ≠ 0) (hy2 : Y < D) :
    Calls Try.prog 4 #[a, d, x, y] w fun e w' => e = .returned (.bool true) ∧ Below w.heap.size w w' := by
  have H0 : Hid (D ≠ 0) := h0
  have Hy2 : Hid (Y < D) := hy2
  clear h0 hy2
  have Ha : Hid (Vl w a A 1048576) := ha
  have Hd : Hid (Vl w d D 1048576) := hd
  have Hx : Hid (Vl w x X 1048576) := hx
  have Hy : Hid (Vl w y Y 1048576) := hy
  have HB : Hid (Below w.heap.size w w) := Below.refl _ _
  clear ha hd hx hy
  go_enter Try.func4, Try.ntmps4
  go_wp2_with fail
  refine (alive_any w).mono ?_
  rintro e w1 ⟨rfl, hbel⟩
  replace Ha : Hid (Vl w1 a (A) (1048576)) := Ha.out.below hbel (Nat.le_refl _)
  replace Hd : Hid (Vl w1 d (D) (1048576)) := Hd.out.below hbel (Nat.le_refl _)
  replace Hx : Hid (Vl w1 x (X) (1048576)) := Hx.out.below hbel (Nat.le_refl _)
  replace Hy : Hid (Vl w1 y (Y) (1048576)) := Hy.out.below hbel (Nat.le_refl _)
  replace HB : Hid (Below w.heap.size w w1) := HB.out.trans (hbel.mono HB.out.size)
  clear hbel
  have Cc := vdiv a d _ _ _ _ w1 Ha.out Hd.out (by decide) (by decide) H0.out
  go_wp2_with fail
  refine Cc.mono ?_
  clear Cc
  rintro e w2 ⟨q, r, rfl, hnew, hnew2⟩
  have hbel := hnew.2.2
  replace Ha : Hid (Vl w2 a (A) (1048576)) := Ha.out.below hbel (Nat.le_refl _)
  replace Hd : Hid (Vl w2 d (D) (1048576)) := Hd.out.below hbel (Nat.le_refl _)
  replace Hx : Hid (Vl w2 x (X) (1048576)) := Hx.out.below hbel (Nat.le_refl _)
  replace Hy : Hid (Vl w2 y (Y) (1048576)) := Hy.out.below hbel (Nat.le_refl _)
  replace HB : Hid (Below w.heap.size w w2) := HB.out.trans (hbel.mono HB.out.size)
  have Oq : Hid (Ow w2 0 q (dg Bs (A / D)) ∧ (dg Bs (A / D)).length ≤ 1048576) := ⟨hnew.1.base (Nat.zero_le _), hnew.2.1⟩
  have Or : Hid (Ow w2 0 r (dg Bs (A % D)) ∧ (dg Bs (A % D)).length ≤ 1048576) := ⟨hnew2.1.base (Nat.zero_le _), hnew2.2.1⟩
  clear hnew hnew2 hbel
  obtain ⟨bd, Hbd⟩ : ∃ bd : Nat, Hid (bl D = bd) := ⟨_, rfl⟩
  have hbd : ((bd : Int) == 0) = false := by have h := bl_pos D H0.out; rw [Hbd.out] at h; simp; omega
  have Cc := vbits d _ _ w2 Hd.out (by decide)
  rw [Hbd.out] at Cc
  go_wp2_with fail
  refine Cc.mono ?_
  clear Cc
  rintro e w2 ⟨rfl, rfl⟩
  have Cc := vmul q d _ _ _ _ w2 (Oq.out.1.vl Oq.out.2) Hd.out (by decide) (by decide)
  go_wp2_with fail
  refine Cc.mono ?_
  clear Cc
  rintro e w3 ⟨m1, rfl, hnew⟩
  have hbel := hnew.2.2
  replace Ha : Hid (Vl w3 a (A) (1048576)) := Ha.out.below hbel (Nat.le_refl _)
  replace Hd : Hid (Vl w3 d (D) (1048576)) := Hd.out.below hbel (Nat.le_refl _)
  replace Hx : Hid (Vl w3 x (X) (1048576)) := Hx.out.below hbel (Nat.le_refl _)
  replace Hy : Hid (Vl w3 y (Y) (1048576)) := Hy.out.below hbel (Nat.le_refl _)
  replace Oq : Hid (Ow w3 0 q (dg Bs (A / D)) ∧ (dg Bs (A / D)).length ≤ 1048576) := ⟨Oq.out.1.below hbel (Nat.le_refl _), Oq.out.2⟩
  replace Or : Hid (Ow w3 0 r (dg Bs (A % D)) ∧ (dg Bs (A % D)).length ≤ 1048576) := ⟨Or.out.1.below hbel (Nat.le_refl _), Or.out.2⟩
  replace HB : Hid (Below w.heap.size w w3) := HB.out.trans (hbel.mono HB.out.size)
  have Om1 : Hid (Ow w3 0 m1 (dg Bs (A / D * D)) ∧ (dg Bs (A / D * D)).length ≤ 1048576 + 1048576) := ⟨hnew.1.base (Nat.zero_le _), hnew.2.1⟩
  clear hnew hbel
  have Cc := vadd m1 r _ _ _ _ w3 (Om1.out.1.vl Om1.out.2) (Or.out.1.vl Or.out.2) (by decide) (by decide)
  rw [show A / D * D + A % D = A by rw [Nat.mul_comm]; exact Nat.div_add_mod A D] at Cc
  go_wp2_with fail
  refine Cc.mono ?_
  clear Cc
  rintro e w4 ⟨wh, rfl, hnew⟩
  have hbel := hnew.2.2
  replace Ha : Hid (Vl w4 a (A) (1048576)) := Ha.out.below hbel (Nat.le_refl _)
  replace Hd : Hid (Vl w4 d (D) (1048576)) := Hd.out.below hbel (Nat.le_refl _)
  replace Hx : Hid (Vl w4 x (X) (1048576)) := Hx.out.below hbel (Nat.le_refl _)
  replace Hy : Hid (Vl w4 y (Y) (1048576)) := Hy.out.below hbel (Nat.le_refl _)
  replace Oq : Hid (Ow w4 0 q (dg Bs (A / D)) ∧ (dg Bs (A / D)).length ≤ 1048576) := ⟨Oq.out.1.below hbel (Nat.le_refl _), Oq.out.2⟩
  replace Or : Hid (Ow w4 0 r (dg Bs (A % D)) ∧ (dg Bs (A % D)).length ≤ 1048576) := ⟨Or.out.1.below hbel (Nat.le_refl _), Or.out.2⟩
  replace Om1 : Hid (Ow w4 0 m1 (dg Bs (A / D * D)) ∧ (dg Bs (A / D * D)).length ≤ 1048576 + 1048576) := ⟨Om1.out.1.below hbel (Nat.le_refl _), Om1.out.2⟩
  replace HB : Hid (Below w.heap.size w w4) := HB.out.trans (hbel.mono HB.out.size)
  have Owh : Hid (Ow w4 0 wh (dg Bs (A)) ∧ (dg Bs (A)).length ≤ 1048576 + 1048576 + 1048576 + 1) := ⟨hnew.1.base (Nat.zero_le _), hnew.2.1⟩
  clear hnew hbel
  have Cc := vcmp r d _ _ _ _ w4 (Or.out.1.vl Or.out.2) Hd.out (by decide) (by decide)
  rw [show cmp3 ((A % D : Nat) : Int) ((D : Nat) : Int) = -1 from cmp3_lt (by have := Nat.mod_lt A (Nat.pos_of_ne_zero H0.out); omega)] at Cc
  go_wp2_with fail
  refine Cc.mono ?_
  clear Cc
  rintro e w5 ⟨rfl, qq, hq⟩
  replace Ha : Hid (Vl w5 a (A) (1048576)) := by rw [hq]; exact Ha.out.drewN qq
  replace Hd : Hid (Vl w5 d (D) (1048576)) := by rw [hq]; exact Hd.out.drewN qq
  replace Hx : Hid (Vl w5 x (X) (1048576)) := by rw [hq]; exact Hx.out.drewN qq
  replace Hy : Hid (Vl w5 y (Y) (1048576)) := by rw [hq]; exact Hy.out.drewN qq
  replace Oq : Hid (Ow w5 0 q (dg Bs (A / D)) ∧ (dg Bs (A / D)).length ≤ 1048576) := by rw [hq]; exact ⟨Oq.out.1.drewN qq, Oq.out.2⟩
  replace Or : Hid (Ow w5 0 r (dg Bs (A % D)) ∧ (dg Bs (A % D)).length ≤ 1048576) := by rw [hq]; exact ⟨Or.out.1.drewN qq, Or.out.2⟩
  replace Om1 : Hid (Ow w5 0 m1 (dg Bs (A / D * D)) ∧ (dg Bs (A / D * D)).length ≤ 1048576 + 1048576) := by rw [hq]; exact ⟨Om1.out.1.drewN qq, Om1.out.2⟩
  replace Owh : Hid (Ow w5 0 wh (dg Bs (A)) ∧ (dg Bs (A)).length ≤ 1048576 + 1048576 + 1048576 + 1) := by rw [hq]; exact ⟨Owh.out.1.drewN qq, Owh.out.2⟩
  replace HB : Hid (Below w.heap.size w w5) := by rw [hq]; exact below_drewN HB.out qq
  clear hq
  have Cc := vcmp wh a _ _ _ _ w5 (Owh.out.1.vl Owh.out.2) Ha.out (by decide) (by decide)
  rw [show cmp3 ((A : Nat) : Int) ((A : Nat) : Int) = 0 from cmp3_eq rfl] at Cc
  go_wp2_with fail
  refine Cc.mono ?_
  clear Cc
  rintro e w6 ⟨rfl, qq, hq⟩
  replace Ha : Hid (Vl w6 a (A) (1048576)) := by rw [hq]; exact Ha.out.drewN qq
  replace Hd : Hid (Vl w6 d (D) (1048576)) := by rw [hq]; exact Hd.out.drewN qq
  replace Hx : Hid (Vl w6 x (X) (1048576)) := by rw [hq]; exact Hx.out.drewN qq
  replace Hy : Hid (Vl w6 y (Y) (1048576)) := by rw [hq]; exact Hy.out.drewN qq
  replace Oq : Hid (Ow w6 0 q (dg Bs (A / D)) ∧ (dg Bs (A / D)).length ≤ 1048576) := by rw [hq]; exact ⟨Oq.out.1.drewN qq, Oq.out.2⟩
  replace Or : Hid (Ow w6 0 r (dg Bs (A % D)) ∧ (dg Bs (A % D)).length ≤ 1048576) := by rw [hq]; exact ⟨Or.out.1.drewN qq, Or.out.2⟩
  replace Om1 : Hid (Ow w6 0 m1 (dg Bs (A / D * D)) ∧ (dg Bs (A / D * D)).length ≤ 1048576 + 1048576) := by rw [hq]; exact ⟨Om1.out.1.drewN qq, Om1.out.2⟩
  replace Owh : Hid (Ow w6 0 wh (dg Bs (A)) ∧ (dg Bs (A)).length ≤ 1048576 + 1048576 + 1048576 + 1) := by rw [hq]; exact ⟨Owh.out.1.drewN qq, Owh.out.2⟩
  replace HB : Hid (Below w.heap.size w w6) := by rw [hq]; exact below_drewN HB.out qq
  clear hq
  have Cc := vcmp y d _ _ _ _ w6 Hy.out Hd.out (by decide) (by decide)
  rw [show cmp3 ((Y : Nat) : Int) ((D : Nat) : Int) = -1 from cmp3_lt (by have := Hy2.out; omega)] at Cc
  go_wp2_with fail
  refine Cc.mono ?_
  clear Cc
  rintro e w7 ⟨rfl, qq, hq⟩
  replace Ha : Hid (Vl w7 a (A) (1048576)) := by rw [hq]; exact Ha.out.drewN qq
  replace Hd : Hid (Vl w7 d (D) (1048576)) := by rw [hq]; exact Hd.out.drewN qq
  replace Hx : Hid (Vl w7 x (X) (1048576)) := by rw [hq]; exact Hx.out.drewN qq
  replace Hy : Hid (Vl w7 y (Y) (1048576)) := by rw [hq]; exact Hy.out.drewN qq
  replace Oq : Hid (Ow w7 0 q (dg Bs (A / D)) ∧ (dg Bs (A / D)).length ≤ 1048576) := by rw [hq]; exact ⟨Oq.out.1.drewN qq, Oq.out.2⟩
  replace Or : Hid (Ow w7 0 r (dg Bs (A % D)) ∧ (dg Bs (A % D)).length ≤ 1048576) := by rw [hq]; exact ⟨Or.out.1.drewN qq, Or.out.2⟩
  replace Om1 : Hid (Ow w7 0 m1 (dg Bs (A / D * D)) ∧ (dg Bs (A / D * D)).length ≤ 1048576 + 1048576) := by rw [hq]; exact ⟨Om1.out.1.drewN qq, Om1.out.2⟩
  replace Owh : Hid (Ow w7 0 wh (dg Bs (A)) ∧ (dg Bs (A)).length ≤ 1048576 + 1048576 + 1048576 + 1) := by rw [hq]; exact ⟨Owh.out.1.drewN qq, Owh.out.2⟩
  replace HB : Hid (Below w.heap.size w w7) := by rw [hq]; exact below_drewN HB.out qq
  clear hq
  have HY : Hid ((Y) < D) := Hy2.out
  have Cc := vmul x d _ _ _ _ w7 Hx.out Hd.out (by decide) (by decide)
  go_wp2_with fail
  refine Cc.mono ?_
  clear Cc
  rintro e w8 ⟨m2, rfl, hnew⟩
  have hbel := hnew.2.2
  replace Ha : Hid (Vl w8 a (A) (1048576)) := Ha.out.below hbel (Nat.le_refl _)
  replace Hd : Hid (Vl w8 d (D) (1048576)) := Hd.out.below hbel (Nat.le_refl _)
  replace Hx : Hid (Vl w8 x (X) (1048576)) := Hx.out.below hbel (Nat.le_refl _)
  replace Hy : Hid (Vl w8 y (Y) (1048576)) := Hy.out.below hbel (Nat.le_refl _)
  replace Oq : Hid (Ow w8 0 q (dg Bs (A / D)) ∧ (dg Bs (A / D)).length ≤ 1048576) := ⟨Oq.out.1.below hbel (Nat.le_refl _), Oq.out.2⟩
  replace Or : Hid (Ow w8 0 r (dg Bs (A % D)) ∧ (dg Bs (A % D)).length ≤ 1048576) := ⟨Or.out.1.below hbel (Nat.le_refl _), Or.out.2⟩
  replace Om1 : Hid (Ow w8 0 m1 (dg Bs (A / D * D)) ∧ (dg Bs (A / D * D)).length ≤ 1048576 + 1048576) := ⟨Om1.out.1.below hbel (Nat.le_refl _), Om1.out.2⟩
  replace Owh : Hid (Ow w8 0 wh (dg Bs (A)) ∧ (dg Bs (A)).length ≤ 1048576 + 1048576 + 1048576 + 1) := ⟨Owh.out.1.below hbel (Nat.le_refl _), Owh.out.2⟩
  replace HB : Hid (Below w.heap.size w w8) := HB.out.trans (hbel.mono HB.out.size)
  have Om2 : Hid (Ow w8 0 m2 (dg Bs (X * D)) ∧ (dg Bs (X * D)).length ≤ 1048576 + 1048576) := ⟨hnew.1.base (Nat.zero_le _), hnew.2.1⟩
  clear hnew hbel
  have Cc := vadd m2 y _ _ _ _ w8 (Om2.out.1.vl Om2.out.2) Hy.out (by decide) (by decide)
  go_wp2_with fail
  refine Cc.mono ?_
  clear Cc
  rintro e w9 ⟨m3, rfl, hnew⟩
  have hbel := hnew.2.2
  replace Ha : Hid (Vl w9 a (A) (1048576)) := Ha.out.below hbel (Nat.le_refl _)
  replace Hd : Hid (Vl w9 d (D) (1048576)) := Hd.out.below hbel (Nat.le_refl _)
  replace Hx : Hid (Vl w9 x (X) (1048576)) := Hx.out.below hbel (Nat.le_refl _)
  replace Hy : Hid (Vl w9 y (Y) (1048576)) := Hy.out.below hbel (Nat.le_refl _)
  replace Oq : Hid (Ow w9 0 q (dg Bs (A / D)) ∧ (dg Bs (A / D)).length ≤ 1048576) := ⟨Oq.out.1.below hbel (Nat.le_refl _), Oq.out.2⟩
  replace Or : Hid (Ow w9 0 r (dg Bs (A % D)) ∧ (dg Bs (A % D)).length ≤ 1048576) := ⟨Or.out.1.below hbel (Nat.le_refl _), Or.out.2⟩
  replace Om1 : Hid (Ow w9 0 m1 (dg Bs (A / D * D)) ∧ (dg Bs (A / D * D)).length ≤ 1048576 + 1048576) := ⟨Om1.out.1.below hbel (Nat.le_refl _), Om1.out.2⟩
  replace Owh : Hid (Ow w9 0 wh (dg Bs (A)) ∧ (dg Bs (A)).length ≤ 1048576 + 1048576 + 1048576 + 1) := ⟨Owh.out.1.below hbel (Nat.le_refl _), Owh.out.2⟩
  replace Om2 : Hid (Ow w9 0 m2 (dg Bs (X * D)) ∧ (dg Bs (X * D)).length ≤ 1048576 + 1048576) := ⟨Om2.out.1.below hbel (Nat.le_refl _), Om2.out.2⟩
  replace HB : Hid (Below w.heap.size w w9) := HB.out.trans (hbel.mono HB.out.size)
  have Om3 : Hid (Ow w9 0 m3 (dg Bs (X * D + Y)) ∧ (dg Bs (X * D + Y)).length ≤ 1048576 + 1048576 + 1048576 + 1) := ⟨hnew.1.base (Nat.zero_le _), hnew.2.1⟩
  clear hnew hbel
  have Cc := vdiv m3 d _ _ _ _ w9 (Om3.out.1.vl Om3.out.2) Hd.out (by decide) (by decide) H0.out
  rw [show (X * D + Y) / D = X from (div_made X D (Y) HY.out).1, show (X * D + Y) % D = Y from (div_made X D (Y) HY.out).2] at Cc
  go_wp2_with fail
  refine Cc.mono ?_
  clear Cc
  rintro e w10 ⟨p, s, rfl, hnew, hnew2⟩
  have hbel := hnew.2.2
  replace Ha : Hid (Vl w10 a (A) (1048576)) := Ha.out.below hbel (Nat.le_refl _)
  replace Hd : Hid (Vl w10 d (D) (1048576)) := Hd.out.below hbel (Nat.le_refl _)
  replace Hx : Hid (Vl w10 x (X) (1048576)) := Hx.out.below hbel (Nat.le_refl _)
  replace Hy : Hid (Vl w10 y (Y) (1048576)) := Hy.out.below hbel (Nat.le_refl _)
  replace Oq : Hid (Ow w10 0 q (dg Bs (A / D)) ∧ (dg Bs (A / D)).length ≤ 1048576) := ⟨Oq.out.1.below hbel (Nat.le_refl _), Oq.out.2⟩
  replace Or : Hid (Ow w10 0 r (dg Bs (A % D)) ∧ (dg Bs (A % D)).length ≤ 1048576) := ⟨Or.out.1.below hbel (Nat.le_refl _), Or.out.2⟩
  replace Om1 : Hid (Ow w10 0 m1 (dg Bs (A / D * D)) ∧ (dg Bs (A / D * D)).length ≤ 1048576 + 1048576) := ⟨Om1.out.1.below hbel (Nat.le_refl _), Om1.out.2⟩
  replace Owh : Hid (Ow w10 0 wh (dg Bs (A)) ∧ (dg Bs (A)).length ≤ 1048576 + 1048576 + 1048576 + 1) := ⟨Owh.out.1.below hbel (Nat.le_refl _), Owh.out.2⟩
  replace Om2 : Hid (Ow w10 0 m2 (dg Bs (X * D)) ∧ (dg Bs (X * D)).length ≤ 1048576 + 1048576) := ⟨Om2.out.1.below hbel (Nat.le_refl _), Om2.out.2⟩
  replace Om3 : Hid (Ow w10 0 m3 (dg Bs (X * D + Y)) ∧ (dg Bs (X * D + Y)).length ≤ 1048576 + 1048576 + 1048576 + 1) := ⟨Om3.out.1.below hbel (Nat.le_refl _), Om3.out.2⟩
  replace HB : Hid (Below w.heap.size w w10) := HB.out.trans (hbel.mono HB.out.size)
  have Op : Hid (Ow w10 0 p (dg Bs (X)) ∧ (dg Bs (X)).length ≤ 1048576 + 1048576 + 1048576 + 1) := ⟨hnew.1.base (Nat.zero_le _), hnew.2.1⟩
  have Os : Hid (Ow w10 0 s (dg Bs (Y)) ∧ (dg Bs (Y)).length ≤ 1048576) := ⟨hnew2.1.base (Nat.zero_le _), hnew2.2.1⟩
  clear hnew hnew2 hbel
  have Cc := vcmp p x _ _ _ _ w10 (Op.out.1.vl Op.out.2) Hx.out (by decide) (by decide)
  rw [show cmp3 ((X : Nat) : Int) ((X : Nat) : Int) = 0 from cmp3_eq rfl] at Cc
  go_wp2_with fail
  refine Cc.mono ?_
  clear Cc
  rintro e w11 ⟨rfl, qq, hq⟩
  replace Ha : Hid (Vl w11 a (A) (1048576)) := by rw [hq]; exact Ha.out.drewN qq
  replace Hd : Hid (Vl w11 d (D) (1048576)) := by rw [hq]; exact Hd.out.drewN qq
  replace Hx : Hid (Vl w11 x (X) (1048576)) := by rw [hq]; exact Hx.out.drewN qq
  replace Hy : Hid (Vl w11 y (Y) (1048576)) := by rw [hq]; exact Hy.out.drewN qq
  replace Oq : Hid (Ow w11 0 q (dg Bs (A / D)) ∧ (dg Bs (A / D)).length ≤ 1048576) := by rw [hq]; exact ⟨Oq.out.1.drewN qq, Oq.out.2⟩
  replace Or : Hid (Ow w11 0 r (dg Bs (A % D)) ∧ (dg Bs (A % D)).length ≤ 1048576) := by rw [hq]; exact ⟨Or.out.1.drewN qq, Or.out.2⟩
  replace Om1 : Hid (Ow w11 0 m1 (dg Bs (A / D * D)) ∧ (dg Bs (A / D * D)).length ≤ 1048576 + 1048576) := by rw [hq]; exact ⟨Om1.out.1.drewN qq, Om1.out.2⟩
  replace Owh : Hid (Ow w11 0 wh (dg Bs (A)) ∧ (dg Bs (A)).length ≤ 1048576 + 1048576 + 1048576 + 1) := by rw [hq]; exact ⟨Owh.out.1.drewN qq, Owh.out.2⟩
  replace Om2 : Hid (Ow w11 0 m2 (dg Bs (X * D)) ∧ (dg Bs (X * D)).length ≤ 1048576 + 1048576) := by rw [hq]; exact ⟨Om2.out.1.drewN qq, Om2.out.2⟩
  replace Om3 : Hid (Ow w11 0 m3 (dg Bs (X * D + Y)) ∧ (dg Bs (X * D + Y)).length ≤ 1048576 + 1048576 + 1048576 + 1) := by rw [hq]; exact ⟨Om3.out.1.drewN qq, Om3.out.2⟩
  replace Op : Hid (Ow w11 0 p (dg Bs (X)) ∧ (dg Bs (X)).length ≤ 1048576 + 1048576 + 1048576 + 1) := by rw [hq]; exact ⟨Op.out.1.drewN qq, Op.out.2⟩
  replace Os : Hid (Ow w11 0 s (dg Bs (Y)) ∧ (dg Bs (Y)).length ≤ 1048576) := by rw [hq]; exact ⟨Os.out.1.drewN qq, Os.out.2⟩
  replace HB : Hid (Below w.heap.size w w11) := by rw [hq]; exact below_drewN HB.out qq
  clear hq
  have Cc := vcmp s y _ _ _ _ w11 (Os.out.1.vl Os.out.2) Hy.out (by decide) (by decide)
  rw [show cmp3 ((Y : Nat) : Int) ((Y : Nat) : Int) = 0 from cmp3_eq rfl] at Cc
  go_wp2_with fail
  refine Cc.mono ?_
  clear Cc
  rintro e w12 ⟨rfl, qq, hq⟩
  replace Ha : Hid (Vl w12 a (A) (1048576)) := by rw [hq]; exact Ha.out.drewN qq
  replace Hd : Hid (Vl w12 d (D) (1048576)) := by rw [hq]; exact Hd.out.drewN qq
  replace Hx : Hid (Vl w12 x (X) (1048576)) := by rw [hq]; exact Hx.out.drewN qq
  replace Hy : Hid (Vl w12 y (Y) (1048576)) := by rw [hq]; exact Hy.out.drewN qq
  replace Oq : Hid (Ow w12 0 q (dg Bs (A / D)) ∧ (dg Bs (A / D)).length ≤ 1048576) := by rw [hq]; exact ⟨Oq.out.1.drewN qq, Oq.out.2⟩
  replace Or : Hid (Ow w12 0 r (dg Bs (A % D)) ∧ (dg Bs (A % D)).length ≤ 1048576) := by rw [hq]; exact ⟨Or.out.1.drewN qq, Or.out.2⟩
  replace Om1 : Hid (Ow w12 0 m1 (dg Bs (A / D * D)) ∧ (dg Bs (A / D * D)).length ≤ 1048576 + 1048576) := by rw [hq]; exact ⟨Om1.out.1.drewN qq, Om1.out.2⟩
  replace Owh : Hid (Ow w12 0 wh (dg Bs (A)) ∧ (dg Bs (A)).length ≤ 1048576 + 1048576 + 1048576 + 1) := by rw [hq]; exact ⟨Owh.out.1.drewN qq, Owh.out.2⟩
  replace Om2 : Hid (Ow w12 0 m2 (dg Bs (X * D)) ∧ (dg Bs (X * D)).length ≤ 1048576 + 1048576) := by rw [hq]; exact ⟨Om2.out.1.drewN qq, Om2.out.2⟩
  replace Om3 : Hid (Ow w12 0 m3 (dg Bs (X * D + Y)) ∧ (dg Bs (X * D + Y)).length ≤ 1048576 + 1048576 + 1048576 + 1) := by rw [hq]; exact ⟨Om3.out.1.drewN qq, Om3.out.2⟩
  replace Op : Hid (Ow w12 0 p (dg Bs (X)) ∧ (dg Bs (X)).length ≤ 1048576 + 1048576 + 1048576 + 1) := by rw [hq]; exact ⟨Op.out.1.drewN qq, Op.out.2⟩
  replace Os : Hid (Ow w12 0 s (dg Bs (Y)) ∧ (dg Bs (Y)).length ≤ 1048576) := by rw [hq]; exact ⟨Os.out.1.drewN qq, Os.out.2⟩
  replace HB : Hid (Below w.heap.size w w12) := by rw [hq]; exact below_drewN HB.out qq
  clear hq
  go_wp2
  go_ret
  exact ⟨rfl, HB.out⟩

set_option maxHeartbeats 4000000 in
theorem div_ge (a d x y : Value) (A D X Y : Nat) (w : World) (ha : Vl w a A 1048576) (hd : Vl w d D 1048576) (hx : Vl w x X 1048576) (hy : Vl w y Y 1048576) (h0 : D ≠ 0) (hy2 : D ≤ Y) :
    Calls Try.prog 4 #[a, d, x, y] w fun e w' => e = .returned (.bool true) ∧ Below w.heap.size w w' := by
  have H0 : Hid (D ≠ 0) := h0
  have Hy2 : Hid (D ≤ Y) := hy2
  clear h0 hy2
  have Ha : Hid (Vl w a A 1048576) := ha
  have Hd : Hid (Vl w d D 1048576) := hd
  have Hx : Hid (Vl w x X 1048576) := hx
  have Hy : Hid (Vl w y Y 1048576) := hy
  have HB : Hid (Below w.heap.size w w) := Below.refl _ _
  clear ha hd hx hy
  go_enter Try.func4, Try.ntmps4
  go_wp2_with fail
  refine (alive_any w).mono ?_
  rintro e w1 ⟨rfl, hbel⟩
  replace Ha : Hid (Vl w1 a (A) (1048576)) := Ha.out.below hbel (Nat.le_refl _)
  replace Hd : Hid (Vl w1 d (D) (1048576)) := Hd.out.below hbel (Nat.le_refl _)
  replace Hx : Hid (Vl w1 x (X) (1048576)) := Hx.out.below hbel (Nat.le_refl _)
  replace Hy : Hid (Vl w1 y (Y) (1048576)) := Hy.out.below hbel (Nat.le_refl _)
  replace HB : Hid (Below w.heap.size w w1) := HB.out.trans (hbel.mono HB.out.size)
  clear hbel
  have Cc := vdiv a d _ _ _ _ w1 Ha.out Hd.out (by decide) (by decide) H0.out
  go_wp2_with fail
  refine Cc.mono ?_
  clear Cc
  rintro e w2 ⟨q, r, rfl, hnew, hnew2⟩
  have hbel := hnew.2.2
  replace Ha : Hid (Vl w2 a (A) (1048576)) := Ha.out.below hbel (Nat.le_refl _)
  replace Hd : Hid (Vl w2 d (D) (1048576)) := Hd.out.below hbel (Nat.le_refl _)
  replace Hx : Hid (Vl w2 x (X) (1048576)) := Hx.out.below hbel (Nat.le_refl _)
  replace Hy : Hid (Vl w2 y (Y) (1048576)) := Hy.out.below hbel (Nat.le_refl _)
  replace HB : Hid (Below w.heap.size w w2) := HB.out.trans (hbel.mono HB.out.size)
  have Oq : Hid (Ow w2 0 q (dg Bs (A / D)) ∧ (dg Bs (A / D)).length ≤ 1048576) := ⟨hnew.1.base (Nat.zero_le _), hnew.2.1⟩
  have Or : Hid (Ow w2 0 r (dg Bs (A % D)) ∧ (dg Bs (A % D)).length ≤ 1048576) := ⟨hnew2.1.base (Nat.zero_le _), hnew2.2.1⟩
  clear hnew hnew2 hbel
  obtain ⟨bd, Hbd⟩ : ∃ bd : Nat, Hid (bl D = bd) := ⟨_, rfl⟩
  have hbd : ((bd : Int) == 0) = false := by have h := bl_pos D H0.out; rw [Hbd.out] at h; simp; omega
  have Cc := vbits d _ _ w2 Hd.out (by decide)
  rw [Hbd.out] at Cc
  go_wp2_with fail
  refine Cc.mono ?_
  clear Cc
  rintro e w2 ⟨rfl, rfl⟩
  have Cc := vmul q d _ _ _ _ w2 (Oq.out.1.vl Oq.out.2) Hd.out (by decide) (by decide)
  go_wp2_with fail
  refine Cc.mono ?_
  clear Cc
  rintro e w3 ⟨m1, rfl, hnew⟩
  have hbel := hnew.2.2
  replace Ha : Hid (Vl w3 a (A) (1048576)) := Ha.out.below hbel (Nat.le_refl _)
  replace Hd : Hid (Vl w3 d (D) (1048576)) := Hd.out.below hbel (Nat.le_refl _)
  replace Hx : Hid (Vl w3 x (X) (1048576)) := Hx.out.below hbel (Nat.le_refl _)
  replace Hy : Hid (Vl w3 y (Y) (1048576)) := Hy.out.below hbel (Nat.le_refl _)
  replace Oq : Hid (Ow w3 0 q (dg Bs (A / D)) ∧ (dg Bs (A / D)).length ≤ 1048576) := ⟨Oq.out.1.below hbel (Nat.le_refl _), Oq.out.2⟩
  replace Or : Hid (Ow w3 0 r (dg Bs (A % D)) ∧ (dg Bs (A % D)).length ≤ 1048576) := ⟨Or.out.1.below hbel (Nat.le_refl _), Or.out.2⟩
  replace HB : Hid (Below w.heap.size w w3) := HB.out.trans (hbel.mono HB.out.size)
  have Om1 : Hid (Ow w3 0 m1 (dg Bs (A / D * D)) ∧ (dg Bs (A / D * D)).length ≤ 1048576 + 1048576) := ⟨hnew.1.base (Nat.zero_le _), hnew.2.1⟩
  clear hnew hbel
  have Cc := vadd m1 r _ _ _ _ w3 (Om1.out.1.vl Om1.out.2) (Or.out.1.vl Or.out.2) (by decide) (by decide)
  rw [show A / D * D + A % D = A by rw [Nat.mul_comm]; exact Nat.div_add_mod A D] at Cc
  go_wp2_with fail
  refine Cc.mono ?_
  clear Cc
  rintro e w4 ⟨wh, rfl, hnew⟩
  have hbel := hnew.2.2
  replace Ha : Hid (Vl w4 a (A) (1048576)) := Ha.out.below hbel (Nat.le_refl _)
  replace Hd : Hid (Vl w4 d (D) (1048576)) := Hd.out.below hbel (Nat.le_refl _)
  replace Hx : Hid (Vl w4 x (X) (1048576)) := Hx.out.below hbel (Nat.le_refl _)
  replace Hy : Hid (Vl w4 y (Y) (1048576)) := Hy.out.below hbel (Nat.le_refl _)
  replace Oq : Hid (Ow w4 0 q (dg Bs (A / D)) ∧ (dg Bs (A / D)).length ≤ 1048576) := ⟨Oq.out.1.below hbel (Nat.le_refl _), Oq.out.2⟩
  replace Or : Hid (Ow w4 0 r (dg Bs (A % D)) ∧ (dg Bs (A % D)).length ≤ 1048576) := ⟨Or.out.1.below hbel (Nat.le_refl _), Or.out.2⟩
  replace Om1 : Hid (Ow w4 0 m1 (dg Bs (A / D * D)) ∧ (dg Bs (A / D * D)).length ≤ 1048576 + 1048576) := ⟨Om1.out.1.below hbel (Nat.le_refl _), Om1.out.2⟩
  replace HB : Hid (Below w.heap.size w w4) := HB.out.trans (hbel.mono HB.out.size)
  have Owh : Hid (Ow w4 0 wh (dg Bs (A)) ∧ (dg Bs (A)).length ≤ 1048576 + 1048576 + 1048576 + 1) := ⟨hnew.1.base (Nat.zero_le _), hnew.2.1⟩
  clear hnew hbel
  have Cc := vcmp r d _ _ _ _ w4 (Or.out.1.vl Or.out.2) Hd.out (by decide) (by decide)
  rw [show cmp3 ((A % D : Nat) : Int) ((D : Nat) : Int) = -1 from cmp3_lt (by have := Nat.mod_lt A (Nat.pos_of_ne_zero H0.out); omega)] at Cc
  go_wp2_with fail
  refine Cc.mono ?_
  clear Cc
  rintro e w5 ⟨rfl, qq, hq⟩
  replace Ha : Hid (Vl w5 a (A) (1048576)) := by rw [hq]; exact Ha.out.drewN qq
  replace Hd : Hid (Vl w5 d (D) (1048576)) := by rw [hq]; exact Hd.out.drewN qq
  replace Hx : Hid (Vl w5 x (X) (1048576)) := by rw [hq]; exact Hx.out.drewN qq
  replace Hy : Hid (Vl w5 y (Y) (1048576)) := by rw [hq]; exact Hy.out.drewN qq
  replace Oq : Hid (Ow w5 0 q (dg Bs (A / D)) ∧ (dg Bs (A / D)).length ≤ 1048576) := by rw [hq]; exact ⟨Oq.out.1.drewN qq, Oq.out.2⟩
  replace Or : Hid (Ow w5 0 r (dg Bs (A % D)) ∧ (dg Bs (A % D)).length ≤ 1048576) := by rw [hq]; exact ⟨Or.out.1.drewN qq, Or.out.2⟩
  replace Om1 : Hid (Ow w5 0 m1 (dg Bs (A / D * D)) ∧ (dg Bs (A / D * D)).length ≤ 1048576 + 1048576) := by rw [hq]; exact ⟨Om1.out.1.drewN qq, Om1.out.2⟩
  replace Owh : Hid (Ow w5 0 wh (dg Bs (A)) ∧ (dg Bs (A)).length ≤ 1048576 + 1048576 + 1048576 + 1) := by rw [hq]; exact ⟨Owh.out.1.drewN qq, Owh.out.2⟩
  replace HB : Hid (Below w.heap.size w w5) := by rw [hq]; exact below_drewN HB.out qq
  clear hq
  have Cc := vcmp wh a _ _ _ _ w5 (Owh.out.1.vl Owh.out.2) Ha.out (by decide) (by decide)
  rw [show cmp3 ((A : Nat) : Int) ((A : Nat) : Int) = 0 from cmp3_eq rfl] at Cc
  go_wp2_with fail
  refine Cc.mono ?_
  clear Cc
  rintro e w6 ⟨rfl, qq, hq⟩
  replace Ha : Hid (Vl w6 a (A) (1048576)) := by rw [hq]; exact Ha.out.drewN qq
  replace Hd : Hid (Vl w6 d (D) (1048576)) := by rw [hq]; exact Hd.out.drewN qq
  replace Hx : Hid (Vl w6 x (X) (1048576)) := by rw [hq]; exact Hx.out.drewN qq
  replace Hy : Hid (Vl w6 y (Y) (1048576)) := by rw [hq]; exact Hy.out.drewN qq
  replace Oq : Hid (Ow w6 0 q (dg Bs (A / D)) ∧ (dg Bs (A / D)).length ≤ 1048576) := by rw [hq]; exact ⟨Oq.out.1.drewN qq, Oq.out.2⟩
  replace Or : Hid (Ow w6 0 r (dg Bs (A % D)) ∧ (dg Bs (A % D)).length ≤ 1048576) := by rw [hq]; exact ⟨Or.out.1.drewN qq, Or.out.2⟩
  replace Om1 : Hid (Ow w6 0 m1 (dg Bs (A / D * D)) ∧ (dg Bs (A / D * D)).length ≤ 1048576 + 1048576) := by rw [hq]; exact ⟨Om1.out.1.drewN qq, Om1.out.2⟩
  replace Owh : Hid (Ow w6 0 wh (dg Bs (A)) ∧ (dg Bs (A)).length ≤ 1048576 + 1048576 + 1048576 + 1) := by rw [hq]; exact ⟨Owh.out.1.drewN qq, Owh.out.2⟩
  replace HB : Hid (Below w.heap.size w w6) := by rw [hq]; exact below_drewN HB.out qq
  clear hq
  obtain ⟨o, Ho, hoB⟩ : ∃ o : Int, Hid (cmp3 ((Y : Nat) : Int) ((D : Nat) : Int) = o) ∧ decide (o ≥ 0) = true := by
    rcases Nat.lt_or_ge D Y with h | h
    · exact ⟨1, cmp3_gt (by omega), by decide⟩
    · exact ⟨0, cmp3_eq (by have := Hy2.out; omega), by decide⟩
  have Cc := vcmp y d _ _ _ _ w6 Hy.out Hd.out (by decide) (by decide)
  rw [show cmp3 ((Y : Nat) : Int) ((D : Nat) : Int) = o from Ho.out] at Cc
  go_wp2_with fail
  refine Cc.mono ?_
  clear Cc
  rintro e w7 ⟨rfl, qq, hq⟩
  replace Ha : Hid (Vl w7 a (A) (1048576)) := by rw [hq]; exact Ha.out.drewN qq
  replace Hd : Hid (Vl w7 d (D) (1048576)) := by rw [hq]; exact Hd.out.drewN qq
  replace Hx : Hid (Vl w7 x (X) (1048576)) := by rw [hq]; exact Hx.out.drewN qq
  replace Hy : Hid (Vl w7 y (Y) (1048576)) := by rw [hq]; exact Hy.out.drewN qq
  replace Oq : Hid (Ow w7 0 q (dg Bs (A / D)) ∧ (dg Bs (A / D)).length ≤ 1048576) := by rw [hq]; exact ⟨Oq.out.1.drewN qq, Oq.out.2⟩
  replace Or : Hid (Ow w7 0 r (dg Bs (A % D)) ∧ (dg Bs (A % D)).length ≤ 1048576) := by rw [hq]; exact ⟨Or.out.1.drewN qq, Or.out.2⟩
  replace Om1 : Hid (Ow w7 0 m1 (dg Bs (A / D * D)) ∧ (dg Bs (A / D * D)).length ≤ 1048576 + 1048576) := by rw [hq]; exact ⟨Om1.out.1.drewN qq, Om1.out.2⟩
  replace Owh : Hid (Ow w7 0 wh (dg Bs (A)) ∧ (dg Bs (A)).length ≤ 1048576 + 1048576 + 1048576 + 1) := by rw [hq]; exact ⟨Owh.out.1.drewN qq, Owh.out.2⟩
  replace HB : Hid (Below w.heap.size w w7) := by rw [hq]; exact below_drewN HB.out qq
  clear hq
  have Cc := vdiv y d _ _ _ _ w7 Hy.out Hd.out (by decide) (by decide) H0.out
  go_wp2_with fail
  refine Cc.mono ?_
  clear Cc
  rintro e w8 ⟨z0, z, rfl, hnew, hnew2⟩
  have hbel := hnew.2.2
  replace Ha : Hid (Vl w8 a (A) (1048576)) := Ha.out.below hbel (Nat.le_refl _)
  replace Hd : Hid (Vl w8 d (D) (1048576)) := Hd.out.below hbel (Nat.le_refl _)
  replace Hx : Hid (Vl w8 x (X) (1048576)) := Hx.out.below hbel (Nat.le_refl _)
  replace Hy : Hid (Vl w8 y (Y) (1048576)) := Hy.out.below hbel (Nat.le_refl _)
  replace Oq : Hid (Ow w8 0 q (dg Bs (A / D)) ∧ (dg Bs (A / D)).length ≤ 1048576) := ⟨Oq.out.1.below hbel (Nat.le_refl _), Oq.out.2⟩
  replace Or : Hid (Ow w8 0 r (dg Bs (A % D)) ∧ (dg Bs (A % D)).length ≤ 1048576) := ⟨Or.out.1.below hbel (Nat.le_refl _), Or.out.2⟩
  replace Om1 : Hid (Ow w8 0 m1 (dg Bs (A / D * D)) ∧ (dg Bs (A / D * D)).length ≤ 1048576 + 1048576) := ⟨Om1.out.1.below hbel (Nat.le_refl _), Om1.out.2⟩
  replace Owh : Hid (Ow w8 0 wh (dg Bs (A)) ∧ (dg Bs (A)).length ≤ 1048576 + 1048576 + 1048576 + 1) := ⟨Owh.out.1.below hbel (Nat.le_refl _), Owh.out.2⟩
  replace HB : Hid (Below w.heap.size w w8) := HB.out.trans (hbel.mono HB.out.size)
  have Oz0 : Hid (Ow w8 0 z0 (dg Bs (Y / D)) ∧ (dg Bs (Y / D)).length ≤ 1048576) := ⟨hnew.1.base (Nat.zero_le _), hnew.2.1⟩
  have Oz : Hid (Ow w8 0 z (dg Bs (Y % D)) ∧ (dg Bs (Y % D)).length ≤ 1048576) := ⟨hnew2.1.base (Nat.zero_le _), hnew2.2.1⟩
  clear hnew hnew2 hbel
  have HY : Hid ((Y % D) < D) := Nat.mod_lt _ (Nat.pos_of_ne_zero H0.out)
  have Cc := vmul x d _ _ _ _ w8 Hx.out Hd.out (by decide) (by decide)
  go_wp2_with fail
  refine Cc.mono ?_
  clear Cc
  rintro e w9 ⟨m2, rfl, hnew⟩
  have hbel := hnew.2.2
  replace Ha : Hid (Vl w9 a (A) (1048576)) := Ha.out.below hbel (Nat.le_refl _)
  replace Hd : Hid (Vl w9 d (D) (1048576)) := Hd.out.below hbel (Nat.le_refl _)
  replace Hx : Hid (Vl w9 x (X) (1048576)) := Hx.out.below hbel (Nat.le_refl _)
  replace Hy : Hid (Vl w9 y (Y) (1048576)) := Hy.out.below hbel (Nat.le_refl _)
  replace Oq : Hid (Ow w9 0 q (dg Bs (A / D)) ∧ (dg Bs (A / D)).length ≤ 1048576) := ⟨Oq.out.1.below hbel (Nat.le_refl _), Oq.out.2⟩
  replace Or : Hid (Ow w9 0 r (dg Bs (A % D)) ∧ (dg Bs (A % D)).length ≤ 1048576) := ⟨Or.out.1.below hbel (Nat.le_refl _), Or.out.2⟩
  replace Om1 : Hid (Ow w9 0 m1 (dg Bs (A / D * D)) ∧ (dg Bs (A / D * D)).length ≤ 1048576 + 1048576) := ⟨Om1.out.1.below hbel (Nat.le_refl _), Om1.out.2⟩
  replace Owh : Hid (Ow w9 0 wh (dg Bs (A)) ∧ (dg Bs (A)).length ≤ 1048576 + 1048576 + 1048576 + 1) := ⟨Owh.out.1.below hbel (Nat.le_refl _), Owh.out.2⟩
  replace Oz0 : Hid (Ow w9 0 z0 (dg Bs (Y / D)) ∧ (dg Bs (Y / D)).length ≤ 1048576) := ⟨Oz0.out.1.below hbel (Nat.le_refl _), Oz0.out.2⟩
  replace Oz : Hid (Ow w9 0 z (dg Bs (Y % D)) ∧ (dg Bs (Y % D)).length ≤ 1048576) := ⟨Oz.out.1.below hbel (Nat.le_refl _), Oz.out.2⟩
  replace HB : Hid (Below w.heap.size w w9) := HB.out.trans (hbel.mono HB.out.size)
  have Om2 : Hid (Ow w9 0 m2 (dg Bs (X * D)) ∧ (dg Bs (X * D)).length ≤ 1048576 + 1048576) := ⟨hnew.1.base (Nat.zero_le _), hnew.2.1⟩
  clear hnew hbel
  have Cc := vadd m2 z _ _ _ _ w9 (Om2.out.1.vl Om2.out.2) (Oz.out.1.vl Oz.out.2) (by decide) (by decide)
  go_wp2_with fail
  refine Cc.mono ?_
  clear Cc
  rintro e w10 ⟨m3, rfl, hnew⟩
  have hbel := hnew.2.2
  replace Ha : Hid (Vl w10 a (A) (1048576)) := Ha.out.below hbel (Nat.le_refl _)
  replace Hd : Hid (Vl w10 d (D) (1048576)) := Hd.out.below hbel (Nat.le_refl _)
  replace Hx : Hid (Vl w10 x (X) (1048576)) := Hx.out.below hbel (Nat.le_refl _)
  replace Hy : Hid (Vl w10 y (Y) (1048576)) := Hy.out.below hbel (Nat.le_refl _)
  replace Oq : Hid (Ow w10 0 q (dg Bs (A / D)) ∧ (dg Bs (A / D)).length ≤ 1048576) := ⟨Oq.out.1.below hbel (Nat.le_refl _), Oq.out.2⟩
  replace Or : Hid (Ow w10 0 r (dg Bs (A % D)) ∧ (dg Bs (A % D)).length ≤ 1048576) := ⟨Or.out.1.below hbel (Nat.le_refl _), Or.out.2⟩
  replace Om1 : Hid (Ow w10 0 m1 (dg Bs (A / D * D)) ∧ (dg Bs (A / D * D)).length ≤ 1048576 + 1048576) := ⟨Om1.out.1.below hbel (Nat.le_refl _), Om1.out.2⟩
  replace Owh : Hid (Ow w10 0 wh (dg Bs (A)) ∧ (dg Bs (A)).length ≤ 1048576 + 1048576 + 1048576 + 1) := ⟨Owh.out.1.below hbel (Nat.le_refl _), Owh.out.2⟩
  replace Oz0 : Hid (Ow w10 0 z0 (dg Bs (Y / D)) ∧ (dg Bs (Y / D)).length ≤ 1048576) := ⟨Oz0.out.1.below hbel (Nat.le_refl _), Oz0.out.2⟩
  replace Oz : Hid (Ow w10 0 z (dg Bs (Y % D)) ∧ (dg Bs (Y % D)).length ≤ 1048576) := ⟨Oz.out.1.below hbel (Nat.le_refl _), Oz.out.2⟩
  replace Om2 : Hid (Ow w10 0 m2 (dg Bs (X * D)) ∧ (dg Bs (X * D)).length ≤ 1048576 + 1048576) := ⟨Om2.out.1.below hbel (Nat.le_refl _), Om2.out.2⟩
  replace HB : Hid (Below w.heap.size w w10) := HB.out.trans (hbel.mono HB.out.size)
  have Om3 : Hid (Ow w10 0 m3 (dg Bs (X * D + Y % D)) ∧ (dg Bs (X * D + Y % D)).length ≤ 1048576 + 1048576 + 1048576 + 1) := ⟨hnew.1.base (Nat.zero_le _), hnew.2.1⟩
  clear hnew hbel
  have Cc := vdiv m3 d _ _ _ _ w10 (Om3.out.1.vl Om3.out.2) Hd.out (by decide) (by decide) H0.out
  rw [show (X * D + Y % D) / D = X from (div_made X D (Y % D) HY.out).1, show (X * D + Y % D) % D = Y % D from (div_made X D (Y % D) HY.out).2] at Cc
  go_wp2_with fail
  refine Cc.mono ?_
  clear Cc
  rintro e w11 ⟨p, s, rfl, hnew, hnew2⟩
  have hbel := hnew.2.2
  replace Ha : Hid (Vl w11 a (A) (1048576)) := Ha.out.below hbel (Nat.le_refl _)
  replace Hd : Hid (Vl w11 d (D) (1048576)) := Hd.out.below hbel (Nat.le_refl _)
  replace Hx : Hid (Vl w11 x (X) (1048576)) := Hx.out.below hbel (Nat.le_refl _)
  replace Hy : Hid (Vl w11 y (Y) (1048576)) := Hy.out.below hbel (Nat.le_refl _)
  replace Oq : Hid (Ow w11 0 q (dg Bs (A / D)) ∧ (dg Bs (A / D)).length ≤ 1048576) := ⟨Oq.out.1.below hbel (Nat.le_refl _), Oq.out.2⟩
  replace Or : Hid (Ow w11 0 r (dg Bs (A % D)) ∧ (dg Bs (A % D)).length ≤ 1048576) := ⟨Or.out.1.below hbel (Nat.le_refl _), Or.out.2⟩
  replace Om1 : Hid (Ow w11 0 m1 (dg Bs (A / D * D)) ∧ (dg Bs (A / D * D)).length ≤ 1048576 + 1048576) := ⟨Om1.out.1.below hbel (Nat.le_refl _), Om1.out.2⟩
  replace Owh : Hid (Ow w11 0 wh (dg Bs (A)) ∧ (dg Bs (A)).length ≤ 1048576 + 1048576 + 1048576 + 1) := ⟨Owh.out.1.below hbel (Nat.le_refl _), Owh.out.2⟩
  replace Oz0 : Hid (Ow w11 0 z0 (dg Bs (Y / D)) ∧ (dg Bs (Y / D)).length ≤ 1048576) := ⟨Oz0.out.1.below hbel (Nat.le_refl _), Oz0.out.2⟩
  replace Oz : Hid (Ow w11 0 z (dg Bs (Y % D)) ∧ (dg Bs (Y % D)).length ≤ 1048576) := ⟨Oz.out.1.below hbel (Nat.le_refl _), Oz.out.2⟩
  replace Om2 : Hid (Ow w11 0 m2 (dg Bs (X * D)) ∧ (dg Bs (X * D)).length ≤ 1048576 + 1048576) := ⟨Om2.out.1.below hbel (Nat.le_refl _), Om2.out.2⟩
  replace Om3 : Hid (Ow w11 0 m3 (dg Bs (X * D + Y % D)) ∧ (dg Bs (X * D + Y % D)).length ≤ 1048576 + 1048576 + 1048576 + 1) := ⟨Om3.out.1.below hbel (Nat.le_refl _), Om3.out.2⟩
  replace HB : Hid (Below w.heap.size w w11) := HB.out.trans (hbel.mono HB.out.size)
  have Op : Hid (Ow w11 0 p (dg Bs (X)) ∧ (dg Bs (X)).length ≤ 1048576 + 1048576 + 1048576 + 1) := ⟨hnew.1.base (Nat.zero_le _), hnew.2.1⟩
  have Os : Hid (Ow w11 0 s (dg Bs (Y % D)) ∧ (dg Bs (Y % D)).length ≤ 1048576) := ⟨hnew2.1.base (Nat.zero_le _), hnew2.2.1⟩
  clear hnew hnew2 hbel
  have Cc := vcmp p x _ _ _ _ w11 (Op.out.1.vl Op.out.2) Hx.out (by decide) (by decide)
  rw [show cmp3 ((X : Nat) : Int) ((X : Nat) : Int) = 0 from cmp3_eq rfl] at Cc
  go_wp2_with fail
  refine Cc.mono ?_
  clear Cc
  rintro e w12 ⟨rfl, qq, hq⟩
  replace Ha : Hid (Vl w12 a (A) (1048576)) := by rw [hq]; exact Ha.out.drewN qq
  replace Hd : Hid (Vl w12 d (D) (1048576)) := by rw [hq]; exact Hd.out.drewN qq
  replace Hx : Hid (Vl w12 x (X) (1048576)) := by rw [hq]; exact Hx.out.drewN qq
  replace Hy : Hid (Vl w12 y (Y) (1048576)) := by rw [hq]; exact Hy.out.drewN qq
  replace Oq : Hid (Ow w12 0 q (dg Bs (A / D)) ∧ (dg Bs (A / D)).length ≤ 1048576) := by rw [hq]; exact ⟨Oq.out.1.drewN qq, Oq.out.2⟩
  replace Or : Hid (Ow w12 0 r (dg Bs (A % D)) ∧ (dg Bs (A % D)).length ≤ 1048576) := by rw [hq]; exact ⟨Or.out.1.drewN qq, Or.out.2⟩
  replace Om1 : Hid (Ow w12 0 m1 (dg Bs (A / D * D)) ∧ (dg Bs (A / D * D)).length ≤ 1048576 + 1048576) := by rw [hq]; exact ⟨Om1.out.1.drewN qq, Om1.out.2⟩
  replace Owh : Hid (Ow w12 0 wh (dg Bs (A)) ∧ (dg Bs (A)).length ≤ 1048576 + 1048576 + 1048576 + 1) := by rw [hq]; exact ⟨Owh.out.1.drewN qq, Owh.out.2⟩
  replace Oz0 : Hid (Ow w12 0 z0 (dg Bs (Y / D)) ∧ (dg Bs (Y / D)).length ≤ 1048576) := by rw [hq]; exact ⟨Oz0.out.1.drewN qq, Oz0.out.2⟩
  replace Oz : Hid (Ow w12 0 z (dg Bs (Y % D)) ∧ (dg Bs (Y % D)).length ≤ 1048576) := by rw [hq]; exact ⟨Oz.out.1.drewN qq, Oz.out.2⟩
  replace Om2 : Hid (Ow w12 0 m2 (dg Bs (X * D)) ∧ (dg Bs (X * D)).length ≤ 1048576 + 1048576) := by rw [hq]; exact ⟨Om2.out.1.drewN qq, Om2.out.2⟩
  replace Om3 : Hid (Ow w12 0 m3 (dg Bs (X * D + Y % D)) ∧ (dg Bs (X * D + Y % D)).length ≤ 1048576 + 1048576 + 1048576 + 1) := by rw [hq]; exact ⟨Om3.out.1.drewN qq, Om3.out.2⟩
  replace Op : Hid (Ow w12 0 p (dg Bs (X)) ∧ (dg Bs (X)).length ≤ 1048576 + 1048576 + 1048576 + 1) := by rw [hq]; exact ⟨Op.out.1.drewN qq, Op.out.2⟩
  replace Os : Hid (Ow w12 0 s (dg Bs (Y % D)) ∧ (dg Bs (Y % D)).length ≤ 1048576) := by rw [hq]; exact ⟨Os.out.1.drewN qq, Os.out.2⟩
  replace HB : Hid (Below w.heap.size w w12) := by rw [hq]; exact below_drewN HB.out qq
  clear hq
  have Cc := vcmp s z _ _ _ _ w12 (Os.out.1.vl Os.out.2) (Oz.out.1.vl Oz.out.2) (by decide) (by decide)
  rw [show cmp3 ((Y % D : Nat) : Int) ((Y % D : Nat) : Int) = 0 from cmp3_eq rfl] at Cc
  go_wp2_with fail
  refine Cc.mono ?_
  clear Cc
  rintro e w13 ⟨rfl, qq, hq⟩
  replace Ha : Hid (Vl w13 a (A) (1048576)) := by rw [hq]; exact Ha.out.drewN qq
  replace Hd : Hid (Vl w13 d (D) (1048576)) := by rw [hq]; exact Hd.out.drewN qq
  replace Hx : Hid (Vl w13 x (X) (1048576)) := by rw [hq]; exact Hx.out.drewN qq
  replace Hy : Hid (Vl w13 y (Y) (1048576)) := by rw [hq]; exact Hy.out.drewN qq
  replace Oq : Hid (Ow w13 0 q (dg Bs (A / D)) ∧ (dg Bs (A / D)).length ≤ 1048576) := by rw [hq]; exact ⟨Oq.out.1.drewN qq, Oq.out.2⟩
  replace Or : Hid (Ow w13 0 r (dg Bs (A % D)) ∧ (dg Bs (A % D)).length ≤ 1048576) := by rw [hq]; exact ⟨Or.out.1.drewN qq, Or.out.2⟩
  replace Om1 : Hid (Ow w13 0 m1 (dg Bs (A / D * D)) ∧ (dg Bs (A / D * D)).length ≤ 1048576 + 1048576) := by rw [hq]; exact ⟨Om1.out.1.drewN qq, Om1.out.2⟩
  replace Owh : Hid (Ow w13 0 wh (dg Bs (A)) ∧ (dg Bs (A)).length ≤ 1048576 + 1048576 + 1048576 + 1) := by rw [hq]; exact ⟨Owh.out.1.drewN qq, Owh.out.2⟩
  replace Oz0 : Hid (Ow w13 0 z0 (dg Bs (Y / D)) ∧ (dg Bs (Y / D)).length ≤ 1048576) := by rw [hq]; exact ⟨Oz0.out.1.drewN qq, Oz0.out.2⟩
  replace Oz : Hid (Ow w13 0 z (dg Bs (Y % D)) ∧ (dg Bs (Y % D)).length ≤ 1048576) := by rw [hq]; exact ⟨Oz.out.1.drewN qq, Oz.out.2⟩
  replace Om2 : Hid (Ow w13 0 m2 (dg Bs (X * D)) ∧ (dg Bs (X * D)).length ≤ 1048576 + 1048576) := by rw [hq]; exact ⟨Om2.out.1.drewN qq, Om2.out.2⟩
  replace Om3 : Hid (Ow w13 0 m3 (dg Bs (X * D + Y % D)) ∧ (dg Bs (X * D + Y % D)).length ≤ 1048576 + 1048576 + 1048576 + 1) := by rw [hq]; exact ⟨Om3.out.1.drewN qq, Om3.out.2⟩
  replace Op : Hid (Ow w13 0 p (dg Bs (X)) ∧ (dg Bs (X)).length ≤ 1048576 + 1048576 + 1048576 + 1) := by rw [hq]; exact ⟨Op.out.1.drewN qq, Op.out.2⟩
  replace Os : Hid (Ow w13 0 s (dg Bs (Y % D)) ∧ (dg Bs (Y % D)).length ≤ 1048576) := by rw [hq]; exact ⟨Os.out.1.drewN qq, Os.out.2⟩
  replace HB : Hid (Below w.heap.size w w13) := by rw [hq]; exact below_drewN HB.out qq
  clear hq
  go_wp2
  go_ret
  exact ⟨rfl, HB.out⟩

theorem division_core (a d x y : Value) (A D X Y : Nat) (w : World) (ha : Vl w a A 1048576) (hd : Vl w d D 1048576) (hx : Vl w x X 1048576) (hy : Vl w y Y 1048576) :
    Calls Try.prog 4 #[a, d, x, y] w fun e w' => e = .returned (.bool true) ∧ Below w.heap.size w w' := by
  by_cases h0 : D = 0
  · exact div_zero a d x y A D X Y w ha hd hx hy h0
  · rcases Nat.lt_or_ge Y D with h | h
    · exact div_lt a d x y A D X Y w ha hd hx hy h0 h
    · exact div_ge a d x y A D X Y w ha hd hx hy h0 h

end Go.Proofs.Ytkkcmfkegbdgjaa
