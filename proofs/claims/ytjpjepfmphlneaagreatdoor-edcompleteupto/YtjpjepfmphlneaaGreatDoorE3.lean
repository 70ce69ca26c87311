import Derived.Test.YtjpjepfmphlneaaGreatDoorDLb
namespace Go.Proofs.YtjpjepfmphlneaaGreatDoor
open Go.RowKit

set_option maxRecDepth 100000

theorem encode_p {w : World} {x y : Value} {P : Nat × Nat} (T : Te w) (h : Pn w x y P) (oP : onE eP eD P) : Calls Tryz.prog 25 #[.agg #[x, y, .bool false]] w fun e w' => (∃ v, e = .returned (.tuple #[v, .int .i64 0]) ∧ Owb w' w.heap.size v (encL P)) ∧ Below w.heap.size w w' :=
  encode_v x y P.1 P.2 false w T h.nx h.ny ((onV_iff _ _ _).2 ⟨rfl, oP⟩)
set_option maxHeartbeats 40000000 in
theorem edComplete_core (va vr : Value) (A R : Nat) (am : Option Addr) (cm : Nat) (msg : List UInt8) (w : World) (T : Te w) (TS : Sha.Tb w) (hna : Nu w va A) (hnr : Nu w vr R) (hrm : Rd w am msg) (hcm : msg.length ≤ cm ∧ cm ≤ 9223372036854775807) (hnm : am = none → msg.length = 0 ∧ cm = 0) (hlm : msg.length ≤ 1048576) :
    Calls Tryz.prog 7 #[va, vr, .slice am msg.length cm] w fun e w' => e = .returned (.bool true) ∧ Below w.heap.size w w' := by
  obtain ⟨i, hi, hz, hsize, hby⟩ := info_u8
  obtain ⟨a0, a1, a2, rfl⟩ := hna.shape
  obtain ⟨r0, r1, r2, rfl⟩ := hnr.shape
  have HT : Hid (Te w ∧ Sha.Tb w) := ⟨T, TS⟩
  clear T TS
  have HB0 : Hid (Below w.heap.size w w) := Below.refl _ _
  have Hrm0 : Hid (Rd w am msg) := hrm
  have Hna0 : Hid (Nu w (.slice a0 a1 a2) A) := hna
  have Hnr0 : Hid (Nu w (.slice r0 r1 r2) R) := hnr
  have Hcm : Hid ((msg.length ≤ cm ∧ cm ≤ 9223372036854775807) ∧ (am = none → msg.length = 0 ∧ cm = 0) ∧ msg.length ≤ 1048576) := ⟨hcm, hnm, hlm⟩
  clear hna hnr hrm hcm hnm hlm
  go_enter Tryz.func7, Tryz.ntmps7
  go_wp2_with fail
  refine (awake13_v _ (HT.out.1.below HB0.out (Nat.le_refl _)) (HT.out.2.below HB0.out)).mono ?_
  rintro e w1 ⟨rfl, hB⟩
  have HB1 : Hid (Below w.heap.size w w1) := HB0.out.trans (hB.mono HB0.out.size)
  have Hrm1 : Hid (Rd w1 am msg) := Hrm0.out.below hB (Nat.le_refl _)
  have Hna1 : Hid (Nu w1 (.slice a0 a1 a2) A) := Hna0.out.below hB (Nat.le_refl _)
  have Hnr1 : Hid (Nu w1 (.slice r0 r1 r2) R) := Hnr0.out.below hB (Nat.le_refl _)
  clear hB
  go_wp2_with fail
  refine (order_v _ (HT.out.1.below HB1.out (Nat.le_refl _))).mono ?_
  rintro e w2 ⟨ov, rfl, h⟩
  have HB2 : Hid (Below w.heap.size w w2) := HB1.out.trans (h.bel.mono HB1.out.size)
  have Hrm2 : Hid (Rd w2 am msg) := Hrm1.out.below h.bel (Nat.le_refl _)
  have Hna2 : Hid (Nu w2 (.slice a0 a1 a2) A) := Hna1.out.below h.bel (Nat.le_refl _)
  have Hnr2 : Hid (Nu w2 (.slice r0 r1 r2) R) := Hnr1.out.below h.bel (Nat.le_refl _)
  obtain ⟨o0, o1, o2, rfl⟩ := h.sl
  have Hno0 : Hid (Nk w2 (.slice o0 o1 o2) eL 256) := h.nb
  clear h
  by_cases hA : bl A ≤ 1024
  · by_cases hR : bl R ≤ 1024
    · skip
      go_wp2_with fail
      refine (base_v _ (HT.out.1.below HB2.out (Nat.le_refl _))).mono ?_
      rintro e w3 ⟨v, rfl, hm, hB⟩
      have HB3 : Hid (Below w.heap.size w w3) := HB2.out.trans (hB.mono HB2.out.size)
      have Hrm3 : Hid (Rd w3 am msg) := Hrm2.out.below hB (Nat.le_refl _)
      have Hna3 : Hid (Nu w3 (.slice a0 a1 a2) A) := Hna2.out.below hB (Nat.le_refl _)
      have Hnr3 : Hid (Nu w3 (.slice r0 r1 r2) R) := Hnr2.out.below hB (Nat.le_refl _)
      have Hno1 : Hid (Nk w3 (.slice o0 o1 o2) eL 256) := Hno0.out.below hB (Nat.le_refl _)
      obtain ⟨pbx, pby, rfl, hpn⟩ := hm.pn
      obtain ⟨⟨pbx0, pbx1, pbx2, rfl⟩, ⟨pby0, pby1, pby2, rfl⟩⟩ := hpn.sl
      have Hppb0 : Hid (Pn w3 (.slice pbx0 pbx1 pbx2) (.slice pby0 pby1 pby2) eB) := hpn
      clear hpn
      clear hB hm
      go_wp2_with fail
      refine (mul_p (HT.out.1.below HB3.out (Nat.le_refl _)) Hna3.out Hppb0.out onB (by assumption)).mono ?_
      rintro e w4 ⟨v, rfl, hm, hB⟩
      have HB4 : Hid (Below w.heap.size w w4) := HB3.out.trans (hB.mono HB3.out.size)
      have Hrm4 : Hid (Rd w4 am msg) := Hrm3.out.below hB (Nat.le_refl _)
      have Hna4 : Hid (Nu w4 (.slice a0 a1 a2) A) := Hna3.out.below hB (Nat.le_refl _)
      have Hnr4 : Hid (Nu w4 (.slice r0 r1 r2) R) := Hnr3.out.below hB (Nat.le_refl _)
      have Hno2 : Hid (Nk w4 (.slice o0 o1 o2) eL 256) := Hno1.out.below hB (Nat.le_refl _)
      have Hppb1 : Hid (Pn w4 (.slice pbx0 pbx1 pbx2) (.slice pby0 pby1 pby2) eB) := Hppb0.out.below hB (Nat.le_refl _)
      obtain ⟨px, py, rfl, hpn⟩ := hm.pn
      obtain ⟨⟨px0, px1, px2, rfl⟩, ⟨py0, py1, py2, rfl⟩⟩ := hpn.sl
      have Hpp0 : Hid (Pn w4 (.slice px0 px1 px2) (.slice py0 py1 py2) (me eP eD A eB)) := hpn
      clear hpn
      clear hB hm
      have hba := alloc_below w4 (.cells #[.slice px0 px1 px2, .slice py0 py1 py2, .bool false] 31)
      have HB5 : Hid (Below w.heap.size w (w4.alloc (.cells #[.slice px0 px1 px2, .slice py0 py1 py2, .bool false] 31))) := HB4.out.trans (hba.mono HB4.out.size)
      have Hrm5 : Hid (Rd (w4.alloc (.cells #[.slice px0 px1 px2, .slice py0 py1 py2, .bool false] 31)) am msg) := Hrm4.out.below hba (Nat.le_refl _)
      have Hna5 : Hid (Nu (w4.alloc (.cells #[.slice px0 px1 px2, .slice py0 py1 py2, .bool false] 31)) (.slice a0 a1 a2) A) := Hna4.out.below hba (Nat.le_refl _)
      have Hnr5 : Hid (Nu (w4.alloc (.cells #[.slice px0 px1 px2, .slice py0 py1 py2, .bool false] 31)) (.slice r0 r1 r2) R) := Hnr4.out.below hba (Nat.le_refl _)
      have Hno3 : Hid (Nk (w4.alloc (.cells #[.slice px0 px1 px2, .slice py0 py1 py2, .bool false] 31)) (.slice o0 o1 o2) eL 256) := Hno2.out.below hba (Nat.le_refl _)
      have Hppb2 : Hid (Pn (w4.alloc (.cells #[.slice px0 px1 px2, .slice py0 py1 py2, .bool false] 31)) (.slice pbx0 pbx1 pbx2) (.slice pby0 pby1 pby2) eB) := Hppb1.out.below hba (Nat.le_refl _)
      have Hpp1 : Hid (Pn (w4.alloc (.cells #[.slice px0 px1 px2, .slice py0 py1 py2, .bool false] 31)) (.slice px0 px1 px2) (.slice py0 py1 py2) (me eP eD A eB)) := Hpp0.out.below hba (Nat.le_refl _)
      clear hba
      have Hbp0 : Hid (Bl 31 (w4.alloc (.cells #[.slice px0 px1 px2, .slice py0 py1 py2, .bool false] 31)) w4.heap.size [.slice px0 px1 px2, .slice py0 py1 py2, .bool false]) := alloc_bl w4 [.slice px0 px1 px2, .slice py0 py1 py2, .bool false] 31
      go_wp2_with fail
      generalize (w4.alloc (.cells #[.slice px0 px1 px2, .slice py0 py1 py2, .bool false] 31)) = wv5 at *
      refine (base_v _ (HT.out.1.below HB5.out (Nat.le_refl _))).mono ?_
      rintro e w6 ⟨v, rfl, hm, hB⟩
      have HB6 : Hid (Below w.heap.size w w6) := HB5.out.trans (hB.mono HB5.out.size)
      have Hrm6 : Hid (Rd w6 am msg) := Hrm5.out.below hB (Nat.le_refl _)
      have Hna6 : Hid (Nu w6 (.slice a0 a1 a2) A) := Hna5.out.below hB (Nat.le_refl _)
      have Hnr6 : Hid (Nu w6 (.slice r0 r1 r2) R) := Hnr5.out.below hB (Nat.le_refl _)
      have Hno4 : Hid (Nk w6 (.slice o0 o1 o2) eL 256) := Hno3.out.below hB (Nat.le_refl _)
      have Hpp2 : Hid (Pn w6 (.slice px0 px1 px2) (.slice py0 py1 py2) (me eP eD A eB)) := Hpp1.out.below hB (Nat.le_refl _)
      have Hbp1 : Hid (Bl 31 w6 w4.heap.size [.slice px0 px1 px2, .slice py0 py1 py2, .bool false]) := Hbp0.out.below hB Hbp0.out.lt
      obtain ⟨qbx, qby, rfl, hpn⟩ := hm.pn
      obtain ⟨⟨qbx0, qbx1, qbx2, rfl⟩, ⟨qby0, qby1, qby2, rfl⟩⟩ := hpn.sl
      have Hpqb0 : Hid (Pn w6 (.slice qbx0 qbx1 qbx2) (.slice qby0 qby1 qby2) eB) := hpn
      clear hpn
      clear hB hm
      go_wp2_with fail
      refine (mul_p (HT.out.1.below HB6.out (Nat.le_refl _)) Hnr6.out Hpqb0.out onB (by assumption)).mono ?_
      rintro e w7 ⟨v, rfl, hm, hB⟩
      have HB7 : Hid (Below w.heap.size w w7) := HB6.out.trans (hB.mono HB6.out.size)
      have Hrm7 : Hid (Rd w7 am msg) := Hrm6.out.below hB (Nat.le_refl _)
      have Hna7 : Hid (Nu w7 (.slice a0 a1 a2) A) := Hna6.out.below hB (Nat.le_refl _)
      have Hnr7 : Hid (Nu w7 (.slice r0 r1 r2) R) := Hnr6.out.below hB (Nat.le_refl _)
      have Hno5 : Hid (Nk w7 (.slice o0 o1 o2) eL 256) := Hno4.out.below hB (Nat.le_refl _)
      have Hpp3 : Hid (Pn w7 (.slice px0 px1 px2) (.slice py0 py1 py2) (me eP eD A eB)) := Hpp2.out.below hB (Nat.le_refl _)
      have Hbp2 : Hid (Bl 31 w7 w4.heap.size [.slice px0 px1 px2, .slice py0 py1 py2, .bool false]) := Hbp1.out.below hB Hbp1.out.lt
      have Hpqb1 : Hid (Pn w7 (.slice qbx0 qbx1 qbx2) (.slice qby0 qby1 qby2) eB) := Hpqb0.out.below hB (Nat.le_refl _)
      obtain ⟨qx, qy, rfl, hpn⟩ := hm.pn
      obtain ⟨⟨qx0, qx1, qx2, rfl⟩, ⟨qy0, qy1, qy2, rfl⟩⟩ := hpn.sl
      have Hpq0 : Hid (Pn w7 (.slice qx0 qx1 qx2) (.slice qy0 qy1 qy2) (me eP eD R eB)) := hpn
      clear hpn
      clear hB hm
      have hba := alloc_below w7 (.cells #[.slice qx0 qx1 qx2, .slice qy0 qy1 qy2, .bool false] 31)
      have HB8 : Hid (Below w.heap.size w (w7.alloc (.cells #[.slice qx0 qx1 qx2, .slice qy0 qy1 qy2, .bool false] 31))) := HB7.out.trans (hba.mono HB7.out.size)
      have Hrm8 : Hid (Rd (w7.alloc (.cells #[.slice qx0 qx1 qx2, .slice qy0 qy1 qy2, .bool false] 31)) am msg) := Hrm7.out.below hba (Nat.le_refl _)
      have Hna8 : Hid (Nu (w7.alloc (.cells #[.slice qx0 qx1 qx2, .slice qy0 qy1 qy2, .bool false] 31)) (.slice a0 a1 a2) A) := Hna7.out.below hba (Nat.le_refl _)
      have Hnr8 : Hid (Nu (w7.alloc (.cells #[.slice qx0 qx1 qx2, .slice qy0 qy1 qy2, .bool false] 31)) (.slice r0 r1 r2) R) := Hnr7.out.below hba (Nat.le_refl _)
      have Hno6 : Hid (Nk (w7.alloc (.cells #[.slice qx0 qx1 qx2, .slice qy0 qy1 qy2, .bool false] 31)) (.slice o0 o1 o2) eL 256) := Hno5.out.below hba (Nat.le_refl _)
      have Hpp4 : Hid (Pn (w7.alloc (.cells #[.slice qx0 qx1 qx2, .slice qy0 qy1 qy2, .bool false] 31)) (.slice px0 px1 px2) (.slice py0 py1 py2) (me eP eD A eB)) := Hpp3.out.below hba (Nat.le_refl _)
      have Hbp3 : Hid (Bl 31 (w7.alloc (.cells #[.slice qx0 qx1 qx2, .slice qy0 qy1 qy2, .bool false] 31)) w4.heap.size [.slice px0 px1 px2, .slice py0 py1 py2, .bool false]) := Hbp2.out.below hba Hbp2.out.lt
      have Hpqb2 : Hid (Pn (w7.alloc (.cells #[.slice qx0 qx1 qx2, .slice qy0 qy1 qy2, .bool false] 31)) (.slice qbx0 qbx1 qbx2) (.slice qby0 qby1 qby2) eB) := Hpqb1.out.below hba (Nat.le_refl _)
      have Hpq1 : Hid (Pn (w7.alloc (.cells #[.slice qx0 qx1 qx2, .slice qy0 qy1 qy2, .bool false] 31)) (.slice qx0 qx1 qx2) (.slice qy0 qy1 qy2) (me eP eD R eB)) := Hpq0.out.below hba (Nat.le_refl _)
      clear hba
      have Hbq0 : Hid (Bl 31 (w7.alloc (.cells #[.slice qx0 qx1 qx2, .slice qy0 qy1 qy2, .bool false] 31)) w7.heap.size [.slice qx0 qx1 qx2, .slice qy0 qy1 qy2, .bool false]) := alloc_bl w7 [.slice qx0 qx1 qx2, .slice qy0 qy1 qy2, .bool false] 31
      obtain ⟨za, Hza⟩ : ∃ z : Int, Hid (z = ((bl A : Nat) : Int)) := ⟨_, rfl⟩
      obtain ⟨zr, Hzr⟩ : ∃ z : Int, Hid (z = ((bl R : Nat) : Int)) := ⟨_, rfl⟩
      have hda : decide ((1024 : Int) < za) = false := by have := Hza.out; exact decide_eq_false (by omega)
      have hdr : decide ((1024 : Int) < zr) = false := by have := Hzr.out; exact decide_eq_false (by omega)
      have HbA : Hid (bl A ≤ 1024 ∧ bl R ≤ 1024) := ⟨by omega, by omega⟩
      clear hA hR
      go_wp2_with fail
      generalize (w7.alloc (.cells #[.slice qx0 qx1 qx2, .slice qy0 qy1 qy2, .bool false] 31)) = wv8 at *
      refine (by rw [Hza.out]; exact vbits _ A _ _ Hna8.out (by decide) : Calls Tryz.prog 24 #[_] _ fun e w' => e = .returned (.int .i64 za) ∧ w' = _).mono ?_
      rintro e wv8 ⟨rfl, rfl⟩
      go_wp2_with fail
      refine (by rw [Hzr.out]; exact vbits _ R _ _ Hnr8.out (by decide) : Calls Tryz.prog 24 #[_] _ fun e w' => e = .returned (.int .i64 zr) ∧ w' = _).mono ?_
      rintro e wv8 ⟨rfl, rfl⟩
      have kp_0 : wv8.cell? ⟨w4.heap.size, 0, none⟩ = some (.slice px0 px1 px2) := Hbp3.out.cell 0 (by simp)
      have kp_1 : wv8.cell? ⟨w4.heap.size, 1, none⟩ = some (.slice py0 py1 py2) := Hbp3.out.cell 1 (by simp)
      have kp_2 : wv8.cell? ⟨w4.heap.size, 2, none⟩ = some (.bool false) := Hbp3.out.cell 2 (by simp)
      go_wp2_with fail
      clear kp_0 kp_1 kp_2
      refine (encode_p (HT.out.1.below HB8.out (Nat.le_refl _)) Hpp4.out (ew.mon onB A)).mono ?_
      rintro e w9 ⟨⟨v, rfl, hO⟩, hB⟩
      have HB9 : Hid (Below w.heap.size w w9) := HB8.out.trans (hB.mono HB8.out.size)
      have Hrm9 : Hid (Rd w9 am msg) := Hrm8.out.below hB (Nat.le_refl _)
      have Hna9 : Hid (Nu w9 (.slice a0 a1 a2) A) := Hna8.out.below hB (Nat.le_refl _)
      have Hnr9 : Hid (Nu w9 (.slice r0 r1 r2) R) := Hnr8.out.below hB (Nat.le_refl _)
      have Hno7 : Hid (Nk w9 (.slice o0 o1 o2) eL 256) := Hno6.out.below hB (Nat.le_refl _)
      have Hpp5 : Hid (Pn w9 (.slice px0 px1 px2) (.slice py0 py1 py2) (me eP eD A eB)) := Hpp4.out.below hB (Nat.le_refl _)
      have Hbp4 : Hid (Bl 31 w9 w4.heap.size [.slice px0 px1 px2, .slice py0 py1 py2, .bool false]) := Hbp3.out.below hB Hbp3.out.lt
      have Hpq2 : Hid (Pn w9 (.slice qx0 qx1 qx2) (.slice qy0 qy1 qy2) (me eP eD R eB)) := Hpq1.out.below hB (Nat.le_refl _)
      have Hbq1 : Hid (Bl 31 w9 w7.heap.size [.slice qx0 qx1 qx2, .slice qy0 qy1 qy2, .bool false]) := Hbq0.out.below hB Hbq0.out.lt
      obtain ⟨lk, Hlk⟩ : ∃ l, Hid (l = encL (me eP eD A eB)) := ⟨_, rfl⟩
      rw [← Hlk.out] at hO
      have Hnk : Hid (lk.length = 32) := (by rw [Hlk.out]; exact encL_len _ : lk.length = 32)
      obtain ⟨ak, ck, rfl, hck, hnk, hrk⟩ := owb_open hO
      have Hck : Hid ((lk.length ≤ ck ∧ ck ≤ 9223372036854775807) ∧ (ak = none → lk.length = 0 ∧ ck = 0)) := ⟨hck, hnk⟩
      have Hrk0 : Hid (Rd w9 ak lk) := hrk
      clear hB hO hck hnk hrk
      have kq_0 : w9.cell? ⟨w7.heap.size, 0, none⟩ = some (.slice qx0 qx1 qx2) := Hbq1.out.cell 0 (by simp)
      have kq_1 : w9.cell? ⟨w7.heap.size, 1, none⟩ = some (.slice qy0 qy1 qy2) := Hbq1.out.cell 1 (by simp)
      have kq_2 : w9.cell? ⟨w7.heap.size, 2, none⟩ = some (.bool false) := Hbq1.out.cell 2 (by simp)
      go_wp2_with fail
      clear kq_0 kq_1 kq_2
      refine (encode_p (HT.out.1.below HB9.out (Nat.le_refl _)) Hpq2.out (ew.mon onB R)).mono ?_
      rintro e w10 ⟨⟨v, rfl, hO⟩, hB⟩
      have HB10 : Hid (Below w.heap.size w w10) := HB9.out.trans (hB.mono HB9.out.size)
      have Hrm10 : Hid (Rd w10 am msg) := Hrm9.out.below hB (Nat.le_refl _)
      have Hna10 : Hid (Nu w10 (.slice a0 a1 a2) A) := Hna9.out.below hB (Nat.le_refl _)
      have Hnr10 : Hid (Nu w10 (.slice r0 r1 r2) R) := Hnr9.out.below hB (Nat.le_refl _)
      have Hno8 : Hid (Nk w10 (.slice o0 o1 o2) eL 256) := Hno7.out.below hB (Nat.le_refl _)
      have Hpp6 : Hid (Pn w10 (.slice px0 px1 px2) (.slice py0 py1 py2) (me eP eD A eB)) := Hpp5.out.below hB (Nat.le_refl _)
      have Hbp5 : Hid (Bl 31 w10 w4.heap.size [.slice px0 px1 px2, .slice py0 py1 py2, .bool false]) := Hbp4.out.below hB Hbp4.out.lt
      have Hpq3 : Hid (Pn w10 (.slice qx0 qx1 qx2) (.slice qy0 qy1 qy2) (me eP eD R eB)) := Hpq2.out.below hB (Nat.le_refl _)
      have Hbq2 : Hid (Bl 31 w10 w7.heap.size [.slice qx0 qx1 qx2, .slice qy0 qy1 qy2, .bool false]) := Hbq1.out.below hB Hbq1.out.lt
      have Hrk1 : Hid (Rd w10 ak lk) := Hrk0.out.below hB (Nat.le_refl _)
      obtain ⟨lf, Hlf⟩ : ∃ l, Hid (l = encL (me eP eD R eB)) := ⟨_, rfl⟩
      rw [← Hlf.out] at hO
      have Hnf : Hid (lf.length = 32) := (by rw [Hlf.out]; exact encL_len _ : lf.length = 32)
      obtain ⟨af, cf, rfl, hcf, hnf, hrf⟩ := owb_open hO
      have Hcf : Hid ((lf.length ≤ cf ∧ cf ≤ 9223372036854775807) ∧ (af = none → lf.length = 0 ∧ cf = 0)) := ⟨hcf, hnf⟩
      have Hrf0 : Hid (Rd w10 af lf) := hrf
      clear hB hO hcf hnf hrf
      have C := challenge_v af ak am cf ck cm lf lk msg _ (HT.out.1.below HB10.out (Nat.le_refl _)) (HT.out.2.below HB10.out) Hrf0.out Hrk1.out Hrm10.out Hcf.out.1 Hck.out.1 Hcm.out.1 (by rw [Hnf.out, Hnk.out]; have := Hcm.out.2.2; omega)
      obtain ⟨KK, HK⟩ : ∃ K, Hid (K = kV lf lk msg) := ⟨_, rfl⟩
      rw [← HK.out] at C
      go_wp2_with fail
      refine C.mono ?_
      clear C
      rintro e w11 ⟨kv, rfl, h⟩
      have hB := h.bel
      have HB11 : Hid (Below w.heap.size w w11) := HB10.out.trans (hB.mono HB10.out.size)
      have Hrm11 : Hid (Rd w11 am msg) := Hrm10.out.below hB (Nat.le_refl _)
      have Hna11 : Hid (Nu w11 (.slice a0 a1 a2) A) := Hna10.out.below hB (Nat.le_refl _)
      have Hnr11 : Hid (Nu w11 (.slice r0 r1 r2) R) := Hnr10.out.below hB (Nat.le_refl _)
      have Hno9 : Hid (Nk w11 (.slice o0 o1 o2) eL 256) := Hno8.out.below hB (Nat.le_refl _)
      have Hpp7 : Hid (Pn w11 (.slice px0 px1 px2) (.slice py0 py1 py2) (me eP eD A eB)) := Hpp6.out.below hB (Nat.le_refl _)
      have Hbp6 : Hid (Bl 31 w11 w4.heap.size [.slice px0 px1 px2, .slice py0 py1 py2, .bool false]) := Hbp5.out.below hB Hbp5.out.lt
      have Hpq4 : Hid (Pn w11 (.slice qx0 qx1 qx2) (.slice qy0 qy1 qy2) (me eP eD R eB)) := Hpq3.out.below hB (Nat.le_refl _)
      have Hbq3 : Hid (Bl 31 w11 w7.heap.size [.slice qx0 qx1 qx2, .slice qy0 qy1 qy2, .bool false]) := Hbq2.out.below hB Hbq2.out.lt
      have Hrk2 : Hid (Rd w11 ak lk) := Hrk1.out.below hB (Nat.le_refl _)
      have Hrf1 : Hid (Rd w11 af lf) := Hrf0.out.below hB (Nat.le_refl _)
      obtain ⟨k0, k1, k2, rfl⟩ := h.sl
      have Hnk0 : Hid (Nk w11 (.slice k0 k1 k2) KK 256) := h.nb
      clear hB h
      have hpA : A < pw 1024 := Nat.lt_of_lt_of_le (show A < pw (bl A) from bl_lt A) (pw_mono HbA.out.1)
      have hpR : R < pw 1024 := Nat.lt_of_lt_of_le (show R < pw (bl R) from bl_lt R) (pw_mono HbA.out.2)
      go_wp2_with fail
      refine (mmulL _ _ _ KK A 256 1024 _ Hnk0.out ⟨Hna11.out, hpA⟩ Hno9.out (by decide) (by decide)).mono ?_
      rintro e w12 ⟨mv, rfl, h⟩
      have HB12 : Hid (Below w.heap.size w w12) := HB11.out.trans (h.bel.mono HB11.out.size)
      have Hrm12 : Hid (Rd w12 am msg) := Hrm11.out.below h.bel (Nat.le_refl _)
      have Hna12 : Hid (Nu w12 (.slice a0 a1 a2) A) := Hna11.out.below h.bel (Nat.le_refl _)
      have Hnr12 : Hid (Nu w12 (.slice r0 r1 r2) R) := Hnr11.out.below h.bel (Nat.le_refl _)
      have Hno10 : Hid (Nk w12 (.slice o0 o1 o2) eL 256) := Hno9.out.below h.bel (Nat.le_refl _)
      have Hpp8 : Hid (Pn w12 (.slice px0 px1 px2) (.slice py0 py1 py2) (me eP eD A eB)) := Hpp7.out.below h.bel (Nat.le_refl _)
      have Hbp7 : Hid (Bl 31 w12 w4.heap.size [.slice px0 px1 px2, .slice py0 py1 py2, .bool false]) := Hbp6.out.below h.bel Hbp6.out.lt
      have Hpq5 : Hid (Pn w12 (.slice qx0 qx1 qx2) (.slice qy0 qy1 qy2) (me eP eD R eB)) := Hpq4.out.below h.bel (Nat.le_refl _)
      have Hbq4 : Hid (Bl 31 w12 w7.heap.size [.slice qx0 qx1 qx2, .slice qy0 qy1 qy2, .bool false]) := Hbq3.out.below h.bel Hbq3.out.lt
      have Hrk3 : Hid (Rd w12 ak lk) := Hrk2.out.below h.bel (Nat.le_refl _)
      have Hrf2 : Hid (Rd w12 af lf) := Hrf1.out.below h.bel (Nat.le_refl _)
      have Hnk1 : Hid (Nk w12 (.slice k0 k1 k2) KK 256) := Hnk0.out.below h.bel (Nat.le_refl _)
      obtain ⟨m0, m1, m2, rfl⟩ := h.sl
      have Hnm0 : Hid (Nk w12 (.slice m0 m1 m2) (KK * A % eL) 256) := h.nb
      clear h
      go_wp2_with fail
      refine (maddL _ _ _ (KK * A % eL) R 256 1024 _ Hnm0.out ⟨Hnr12.out, hpR⟩ Hno10.out (by decide) (by decide)).mono ?_
      rintro e w13 ⟨sv, rfl, h⟩
      have HB13 : Hid (Below w.heap.size w w13) := HB12.out.trans (h.bel.mono HB12.out.size)
      have Hrm13 : Hid (Rd w13 am msg) := Hrm12.out.below h.bel (Nat.le_refl _)
      have Hna13 : Hid (Nu w13 (.slice a0 a1 a2) A) := Hna12.out.below h.bel (Nat.le_refl _)
      have Hnr13 : Hid (Nu w13 (.slice r0 r1 r2) R) := Hnr12.out.below h.bel (Nat.le_refl _)
      have Hno11 : Hid (Nk w13 (.slice o0 o1 o2) eL 256) := Hno10.out.below h.bel (Nat.le_refl _)
      have Hpp9 : Hid (Pn w13 (.slice px0 px1 px2) (.slice py0 py1 py2) (me eP eD A eB)) := Hpp8.out.below h.bel (Nat.le_refl _)
      have Hbp8 : Hid (Bl 31 w13 w4.heap.size [.slice px0 px1 px2, .slice py0 py1 py2, .bool false]) := Hbp7.out.below h.bel Hbp7.out.lt
      have Hpq6 : Hid (Pn w13 (.slice qx0 qx1 qx2) (.slice qy0 qy1 qy2) (me eP eD R eB)) := Hpq5.out.below h.bel (Nat.le_refl _)
      have Hbq5 : Hid (Bl 31 w13 w7.heap.size [.slice qx0 qx1 qx2, .slice qy0 qy1 qy2, .bool false]) := Hbq4.out.below h.bel Hbq4.out.lt
      have Hrk4 : Hid (Rd w13 ak lk) := Hrk3.out.below h.bel (Nat.le_refl _)
      have Hrf3 : Hid (Rd w13 af lf) := Hrf2.out.below h.bel (Nat.le_refl _)
      have Hnk2 : Hid (Nk w13 (.slice k0 k1 k2) KK 256) := Hnk1.out.below h.bel (Nat.le_refl _)
      have Hnm1 : Hid (Nk w13 (.slice m0 m1 m2) (KK * A % eL) 256) := Hnm0.out.below h.bel (Nat.le_refl _)
      obtain ⟨s0, s1, s2, rfl⟩ := h.sl
      obtain ⟨S, HS⟩ : ∃ S, Hid (S = (KK * A % eL + R) % eL) := ⟨_, rfl⟩
      rw [← HS.out] at h
      have Hns0 : Hid (Nk w13 (.slice s0 s1 s2) S 256) := h.nb
      clear h hpA hpR
      have HSL : Hid (S < eL) := (by rw [HS.out]; exact Nat.mod_lt _ (by decide +kernel) : S < eL)
      go_wp2_with (at_builtin; refine append_rdE rfl (.tmp 107) (.tmp 108) rfl w13.heap.size i hi hz hsize hby (.slice none 0 0) 0 [] rfl (Owb.nil w13 w13.heap.size) af lf.length cf lf rfl rfl Hcf.out.2 Hrf3.out (by rw [Hnf.out]; decide) (Nat.le_refl _) ?_)
      intro vx w14 ho hg
      have hB : Below w13.heap.size w13 w14 := (Below.refl _ _).grown hg (Nat.le_refl _) (fun k hk => by cases hk)
      have hO : Owb w14 w13.heap.size vx lf := by unfold Owb; simpa using ho
      have HB14 : Hid (Below w.heap.size w w14) := HB13.out.trans (hB.mono HB13.out.size)
      have Hrm14 : Hid (Rd w14 am msg) := Hrm13.out.below hB (Nat.le_refl _)
      have Hna14 : Hid (Nu w14 (.slice a0 a1 a2) A) := Hna13.out.below hB (Nat.le_refl _)
      have Hnr14 : Hid (Nu w14 (.slice r0 r1 r2) R) := Hnr13.out.below hB (Nat.le_refl _)
      have Hno12 : Hid (Nk w14 (.slice o0 o1 o2) eL 256) := Hno11.out.below hB (Nat.le_refl _)
      have Hpp10 : Hid (Pn w14 (.slice px0 px1 px2) (.slice py0 py1 py2) (me eP eD A eB)) := Hpp9.out.below hB (Nat.le_refl _)
      have Hbp9 : Hid (Bl 31 w14 w4.heap.size [.slice px0 px1 px2, .slice py0 py1 py2, .bool false]) := Hbp8.out.below hB Hbp8.out.lt
      have Hpq7 : Hid (Pn w14 (.slice qx0 qx1 qx2) (.slice qy0 qy1 qy2) (me eP eD R eB)) := Hpq6.out.below hB (Nat.le_refl _)
      have Hbq6 : Hid (Bl 31 w14 w7.heap.size [.slice qx0 qx1 qx2, .slice qy0 qy1 qy2, .bool false]) := Hbq5.out.below hB Hbq5.out.lt
      have Hrk5 : Hid (Rd w14 ak lk) := Hrk4.out.below hB (Nat.le_refl _)
      have Hrf4 : Hid (Rd w14 af lf) := Hrf3.out.below hB (Nat.le_refl _)
      have Hnk3 : Hid (Nk w14 (.slice k0 k1 k2) KK 256) := Hnk2.out.below hB (Nat.le_refl _)
      have Hnm2 : Hid (Nk w14 (.slice m0 m1 m2) (KK * A % eL) 256) := Hnm1.out.below hB (Nat.le_refl _)
      have Hns1 : Hid (Nk w14 (.slice s0 s1 s2) S 256) := Hns0.out.below hB (Nat.le_refl _)
      skip
      have Hox0 : Hid (Owb w14 w13.heap.size vx lf) := hO
      have HWx0 : Hid (Below w13.heap.size w13 w14) := hB
      clear ho hg hB hO
      go_wp2_with fail
      refine (bytes_v _ (S) _ Hns1.out.1 Hns1.out.2).mono ?_
      rintro e w15 ⟨bv', rfl, hO, hB⟩
      have HB15 : Hid (Below w.heap.size w w15) := HB14.out.trans (hB.mono HB14.out.size)
      have Hrm15 : Hid (Rd w15 am msg) := Hrm14.out.below hB (Nat.le_refl _)
      have Hna15 : Hid (Nu w15 (.slice a0 a1 a2) A) := Hna14.out.below hB (Nat.le_refl _)
      have Hnr15 : Hid (Nu w15 (.slice r0 r1 r2) R) := Hnr14.out.below hB (Nat.le_refl _)
      have Hno13 : Hid (Nk w15 (.slice o0 o1 o2) eL 256) := Hno12.out.below hB (Nat.le_refl _)
      have Hpp11 : Hid (Pn w15 (.slice px0 px1 px2) (.slice py0 py1 py2) (me eP eD A eB)) := Hpp10.out.below hB (Nat.le_refl _)
      have Hbp10 : Hid (Bl 31 w15 w4.heap.size [.slice px0 px1 px2, .slice py0 py1 py2, .bool false]) := Hbp9.out.below hB Hbp9.out.lt
      have Hpq8 : Hid (Pn w15 (.slice qx0 qx1 qx2) (.slice qy0 qy1 qy2) (me eP eD R eB)) := Hpq7.out.below hB (Nat.le_refl _)
      have Hbq7 : Hid (Bl 31 w15 w7.heap.size [.slice qx0 qx1 qx2, .slice qy0 qy1 qy2, .bool false]) := Hbq6.out.below hB Hbq6.out.lt
      have Hrk6 : Hid (Rd w15 ak lk) := Hrk5.out.below hB (Nat.le_refl _)
      have Hrf5 : Hid (Rd w15 af lf) := Hrf4.out.below hB (Nat.le_refl _)
      have Hnk4 : Hid (Nk w15 (.slice k0 k1 k2) KK 256) := Hnk3.out.below hB (Nat.le_refl _)
      have Hnm3 : Hid (Nk w15 (.slice m0 m1 m2) (KK * A % eL) 256) := Hnm2.out.below hB (Nat.le_refl _)
      have Hns2 : Hid (Nk w15 (.slice s0 s1 s2) S 256) := Hns1.out.below hB (Nat.le_refl _)
      have Hox1 : Hid (Owb w15 w13.heap.size vx lf) := Hox0.out.below hB (Nat.le_refl _)
      have HWx1 : Hid (Below w13.heap.size w13 w15) := HWx0.out.trans (hB.mono HWx0.out.size)
      obtain ⟨ahg, chg, rfl, _, hng, hrg⟩ := owb_open hO
      rw [leB_len] at hng ⊢
      have Hrh0 : Hid (Rd w15 ahg (leB 32 (S))) := hrg
      have Hnh : Hid (ahg = none → (32 : Nat) = 0 ∧ chg = 0) := hng
      clear hB hO hng hrg
      go_wp2_with (at_builtin; refine append_rdE rfl (.tmp 110) (.tmp 112) rfl w13.heap.size i hi hz hsize hby vx lf.length lf rfl Hox1.out ahg 32 chg (leB 32 (S)) rfl (leB_len _ _) Hnh.out Hrh0.out (by rw [Hnf.out]; decide) (Nat.le_trans HWx1.out.size (Nat.le_refl _)) ?_)
      intro vg w16 ho hg
      have hB : Below w13.heap.size w13 w16 := HWx1.out.grown hg HWx1.out.size (fun k hk => (Hox1.out.lt k hk).1)
      obtain ⟨lg, Hlg⟩ : ∃ l, Hid (l = lf ++ leB 32 (S)) := ⟨_, rfl⟩
      have hO : Owb w16 w13.heap.size vg lg := by rw [Hlg.out]; unfold Owb; rw [List.length_append, leB_len, List.map_append]; exact ho
      have HB16 : Hid (Below w.heap.size w w16) := HB13.out.trans (hB.mono HB13.out.size)
      have Hrm16 : Hid (Rd w16 am msg) := Hrm13.out.below hB (Nat.le_refl _)
      have Hna16 : Hid (Nu w16 (.slice a0 a1 a2) A) := Hna13.out.below hB (Nat.le_refl _)
      have Hnr16 : Hid (Nu w16 (.slice r0 r1 r2) R) := Hnr13.out.below hB (Nat.le_refl _)
      have Hno14 : Hid (Nk w16 (.slice o0 o1 o2) eL 256) := Hno11.out.below hB (Nat.le_refl _)
      have Hpp12 : Hid (Pn w16 (.slice px0 px1 px2) (.slice py0 py1 py2) (me eP eD A eB)) := Hpp9.out.below hB (Nat.le_refl _)
      have Hbp11 : Hid (Bl 31 w16 w4.heap.size [.slice px0 px1 px2, .slice py0 py1 py2, .bool false]) := Hbp8.out.below hB Hbp8.out.lt
      have Hpq9 : Hid (Pn w16 (.slice qx0 qx1 qx2) (.slice qy0 qy1 qy2) (me eP eD R eB)) := Hpq6.out.below hB (Nat.le_refl _)
      have Hbq8 : Hid (Bl 31 w16 w7.heap.size [.slice qx0 qx1 qx2, .slice qy0 qy1 qy2, .bool false]) := Hbq5.out.below hB Hbq5.out.lt
      have Hrk7 : Hid (Rd w16 ak lk) := Hrk4.out.below hB (Nat.le_refl _)
      have Hrf6 : Hid (Rd w16 af lf) := Hrf3.out.below hB (Nat.le_refl _)
      have Hnk5 : Hid (Nk w16 (.slice k0 k1 k2) KK 256) := Hnk2.out.below hB (Nat.le_refl _)
      have Hnm4 : Hid (Nk w16 (.slice m0 m1 m2) (KK * A % eL) 256) := Hnm1.out.below hB (Nat.le_refl _)
      have Hns3 : Hid (Nk w16 (.slice s0 s1 s2) S 256) := Hns0.out.below hB (Nat.le_refl _)
      obtain ⟨ag, cg, rfl, hcg, _, hrg⟩ := owb_open hO
      have Hcg : Hid (lg.length ≤ cg ∧ cg ≤ 9223372036854775807) := hcg
      have Hrg0 : Hid (Rd w16 ag lg) := hrg
      clear ho hg hB hO hcg hrg
      have HE : Hid (encL (me eP eD A eB) = lk ∧ verC (me eP eD A eB) lk msg lg = 0) := ⟨Hlk.out.symm, by rw [Hlg.out, Hlk.out, Hlf.out]; exact comp_ok KK S (by rw [HK.out, Hlf.out, Hlk.out]) HS.out⟩
      have C := verify_v ak am ag ck cm cg lk msg lg _ (HT.out.1.below HB16.out (Nat.le_refl _)) (HT.out.2.below HB16.out) Hrk7.out Hrm16.out Hrg0.out Hck.out.1 Hcm.out.1 Hcg.out (by have := Hcm.out.2.2; omega) (me eP eD A eB) (ew.mon onB A) HE.out.1
      rw [HE.out.2] at C
      go_wp2_with fail
      refine C.mono ?_
      clear C
      rintro e w17 ⟨rfl, hB⟩
      have HB17 : Hid (Below w.heap.size w w17) := HB16.out.trans (hB.mono HB16.out.size)
      have Hrm17 : Hid (Rd w17 am msg) := Hrm16.out.below hB (Nat.le_refl _)
      have Hna17 : Hid (Nu w17 (.slice a0 a1 a2) A) := Hna16.out.below hB (Nat.le_refl _)
      have Hnr17 : Hid (Nu w17 (.slice r0 r1 r2) R) := Hnr16.out.below hB (Nat.le_refl _)
      have Hno15 : Hid (Nk w17 (.slice o0 o1 o2) eL 256) := Hno14.out.below hB (Nat.le_refl _)
      have Hpp13 : Hid (Pn w17 (.slice px0 px1 px2) (.slice py0 py1 py2) (me eP eD A eB)) := Hpp12.out.below hB (Nat.le_refl _)
      have Hbp12 : Hid (Bl 31 w17 w4.heap.size [.slice px0 px1 px2, .slice py0 py1 py2, .bool false]) := Hbp11.out.below hB Hbp11.out.lt
      have Hpq10 : Hid (Pn w17 (.slice qx0 qx1 qx2) (.slice qy0 qy1 qy2) (me eP eD R eB)) := Hpq9.out.below hB (Nat.le_refl _)
      have Hbq9 : Hid (Bl 31 w17 w7.heap.size [.slice qx0 qx1 qx2, .slice qy0 qy1 qy2, .bool false]) := Hbq8.out.below hB Hbq8.out.lt
      have Hrk8 : Hid (Rd w17 ak lk) := Hrk7.out.below hB (Nat.le_refl _)
      have Hrf7 : Hid (Rd w17 af lf) := Hrf6.out.below hB (Nat.le_refl _)
      have Hnk6 : Hid (Nk w17 (.slice k0 k1 k2) KK 256) := Hnk5.out.below hB (Nat.le_refl _)
      have Hnm5 : Hid (Nk w17 (.slice m0 m1 m2) (KK * A % eL) 256) := Hnm4.out.below hB (Nat.le_refl _)
      have Hns4 : Hid (Nk w17 (.slice s0 s1 s2) S 256) := Hns3.out.below hB (Nat.le_refl _)
      have Hrg1 : Hid (Rd w17 ag lg) := Hrg0.out.below hB (Nat.le_refl _)
      clear hB
      go_wp2_with (at_builtin; refine append_rdE rfl (.tmp 119) (.tmp 120) rfl w17.heap.size i hi hz hsize hby (.slice none 0 0) 0 [] rfl (Owb.nil w17 w17.heap.size) af lf.length cf lf rfl rfl Hcf.out.2 Hrf7.out (by rw [Hnf.out]; decide) (Nat.le_refl _) ?_)
      intro vy w18 ho hg
      have hB : Below w17.heap.size w17 w18 := (Below.refl _ _).grown hg (Nat.le_refl _) (fun k hk => by cases hk)
      have hO : Owb w18 w17.heap.size vy lf := by unfold Owb; simpa using ho
      have HB18 : Hid (Below w.heap.size w w18) := HB17.out.trans (hB.mono HB17.out.size)
      have Hrm18 : Hid (Rd w18 am msg) := Hrm17.out.below hB (Nat.le_refl _)
      have Hna18 : Hid (Nu w18 (.slice a0 a1 a2) A) := Hna17.out.below hB (Nat.le_refl _)
      have Hnr18 : Hid (Nu w18 (.slice r0 r1 r2) R) := Hnr17.out.below hB (Nat.le_refl _)
      have Hno16 : Hid (Nk w18 (.slice o0 o1 o2) eL 256) := Hno15.out.below hB (Nat.le_refl _)
      have Hpp14 : Hid (Pn w18 (.slice px0 px1 px2) (.slice py0 py1 py2) (me eP eD A eB)) := Hpp13.out.below hB (Nat.le_refl _)
      have Hbp13 : Hid (Bl 31 w18 w4.heap.size [.slice px0 px1 px2, .slice py0 py1 py2, .bool false]) := Hbp12.out.below hB Hbp12.out.lt
      have Hpq11 : Hid (Pn w18 (.slice qx0 qx1 qx2) (.slice qy0 qy1 qy2) (me eP eD R eB)) := Hpq10.out.below hB (Nat.le_refl _)
      have Hbq10 : Hid (Bl 31 w18 w7.heap.size [.slice qx0 qx1 qx2, .slice qy0 qy1 qy2, .bool false]) := Hbq9.out.below hB Hbq9.out.lt
      have Hrk9 : Hid (Rd w18 ak lk) := Hrk8.out.below hB (Nat.le_refl _)
      have Hrf8 : Hid (Rd w18 af lf) := Hrf7.out.below hB (Nat.le_refl _)
      have Hnk7 : Hid (Nk w18 (.slice k0 k1 k2) KK 256) := Hnk6.out.below hB (Nat.le_refl _)
      have Hnm6 : Hid (Nk w18 (.slice m0 m1 m2) (KK * A % eL) 256) := Hnm5.out.below hB (Nat.le_refl _)
      have Hns5 : Hid (Nk w18 (.slice s0 s1 s2) S 256) := Hns4.out.below hB (Nat.le_refl _)
      have Hrg2 : Hid (Rd w18 ag lg) := Hrg1.out.below hB (Nat.le_refl _)
      skip
      have Hoy0 : Hid (Owb w18 w17.heap.size vy lf) := hO
      have HWy0 : Hid (Below w17.heap.size w17 w18) := hB
      clear ho hg hB hO
      go_wp2_with fail
      refine (nadd_v _ _ S eL 256 256 _ Hns5.out Hno16.out (by decide)).mono ?_
      rintro e w19 ⟨tv, rfl, h⟩
      have HB19 : Hid (Below w.heap.size w w19) := HB18.out.trans (h.bel.mono HB18.out.size)
      have Hrm19 : Hid (Rd w19 am msg) := Hrm18.out.below h.bel (Nat.le_refl _)
      have Hna19 : Hid (Nu w19 (.slice a0 a1 a2) A) := Hna18.out.below h.bel (Nat.le_refl _)
      have Hnr19 : Hid (Nu w19 (.slice r0 r1 r2) R) := Hnr18.out.below h.bel (Nat.le_refl _)
      have Hno17 : Hid (Nk w19 (.slice o0 o1 o2) eL 256) := Hno16.out.below h.bel (Nat.le_refl _)
      have Hpp15 : Hid (Pn w19 (.slice px0 px1 px2) (.slice py0 py1 py2) (me eP eD A eB)) := Hpp14.out.below h.bel (Nat.le_refl _)
      have Hbp14 : Hid (Bl 31 w19 w4.heap.size [.slice px0 px1 px2, .slice py0 py1 py2, .bool false]) := Hbp13.out.below h.bel Hbp13.out.lt
      have Hpq12 : Hid (Pn w19 (.slice qx0 qx1 qx2) (.slice qy0 qy1 qy2) (me eP eD R eB)) := Hpq11.out.below h.bel (Nat.le_refl _)
      have Hbq11 : Hid (Bl 31 w19 w7.heap.size [.slice qx0 qx1 qx2, .slice qy0 qy1 qy2, .bool false]) := Hbq10.out.below h.bel Hbq10.out.lt
      have Hrk10 : Hid (Rd w19 ak lk) := Hrk9.out.below h.bel (Nat.le_refl _)
      have Hrf9 : Hid (Rd w19 af lf) := Hrf8.out.below h.bel (Nat.le_refl _)
      have Hnk8 : Hid (Nk w19 (.slice k0 k1 k2) KK 256) := Hnk7.out.below h.bel (Nat.le_refl _)
      have Hnm7 : Hid (Nk w19 (.slice m0 m1 m2) (KK * A % eL) 256) := Hnm6.out.below h.bel (Nat.le_refl _)
      have Hns6 : Hid (Nk w19 (.slice s0 s1 s2) S 256) := Hns5.out.below h.bel (Nat.le_refl _)
      have Hrg3 : Hid (Rd w19 ag lg) := Hrg2.out.below h.bel (Nat.le_refl _)
      have Hoy1 : Hid (Owb w19 w17.heap.size vy lf) := Hoy0.out.below h.bel (Nat.le_refl _)
      have HWy1 : Hid (Below w17.heap.size w17 w19) := HWy0.out.trans (h.bel.mono HWy0.out.size)
      obtain ⟨t0, t1, t2, rfl⟩ := h.sl
      have Hnt0 : Hid (Nu w19 (.slice t0 t1 t2) (S + eL)) := h.nb.1
      clear h
      have HSp : Hid (S + eL < pw 256) := (Nat.lt_of_lt_of_le (Nat.add_lt_add_right HSL.out eL) (by show eL + eL ≤ 2 ^ 256; decide +kernel) : S + eL < pw 256)
      go_wp2_with fail
      refine (bytes_v _ (S + eL) _ Hnt0.out HSp.out).mono ?_
      rintro e w20 ⟨bv', rfl, hO, hB⟩
      have HB20 : Hid (Below w.heap.size w w20) := HB19.out.trans (hB.mono HB19.out.size)
      have Hrm20 : Hid (Rd w20 am msg) := Hrm19.out.below hB (Nat.le_refl _)
      have Hna20 : Hid (Nu w20 (.slice a0 a1 a2) A) := Hna19.out.below hB (Nat.le_refl _)
      have Hnr20 : Hid (Nu w20 (.slice r0 r1 r2) R) := Hnr19.out.below hB (Nat.le_refl _)
      have Hno18 : Hid (Nk w20 (.slice o0 o1 o2) eL 256) := Hno17.out.below hB (Nat.le_refl _)
      have Hpp16 : Hid (Pn w20 (.slice px0 px1 px2) (.slice py0 py1 py2) (me eP eD A eB)) := Hpp15.out.below hB (Nat.le_refl _)
      have Hbp15 : Hid (Bl 31 w20 w4.heap.size [.slice px0 px1 px2, .slice py0 py1 py2, .bool false]) := Hbp14.out.below hB Hbp14.out.lt
      have Hpq13 : Hid (Pn w20 (.slice qx0 qx1 qx2) (.slice qy0 qy1 qy2) (me eP eD R eB)) := Hpq12.out.below hB (Nat.le_refl _)
      have Hbq12 : Hid (Bl 31 w20 w7.heap.size [.slice qx0 qx1 qx2, .slice qy0 qy1 qy2, .bool false]) := Hbq11.out.below hB Hbq11.out.lt
      have Hrk11 : Hid (Rd w20 ak lk) := Hrk10.out.below hB (Nat.le_refl _)
      have Hrf10 : Hid (Rd w20 af lf) := Hrf9.out.below hB (Nat.le_refl _)
      have Hnk9 : Hid (Nk w20 (.slice k0 k1 k2) KK 256) := Hnk8.out.below hB (Nat.le_refl _)
      have Hnm8 : Hid (Nk w20 (.slice m0 m1 m2) (KK * A % eL) 256) := Hnm7.out.below hB (Nat.le_refl _)
      have Hns7 : Hid (Nk w20 (.slice s0 s1 s2) S 256) := Hns6.out.below hB (Nat.le_refl _)
      have Hrg4 : Hid (Rd w20 ag lg) := Hrg3.out.below hB (Nat.le_refl _)
      have Hoy2 : Hid (Owb w20 w17.heap.size vy lf) := Hoy1.out.below hB (Nat.le_refl _)
      have HWy2 : Hid (Below w17.heap.size w17 w20) := HWy1.out.trans (hB.mono HWy1.out.size)
      have Hnt1 : Hid (Nu w20 (.slice t0 t1 t2) (S + eL)) := Hnt0.out.below hB (Nat.le_refl _)
      obtain ⟨ahj, chj, rfl, _, hnj, hrj⟩ := owb_open hO
      rw [leB_len] at hnj ⊢
      have Hrh1 : Hid (Rd w20 ahj (leB 32 (S + eL))) := hrj
      have Hnh : Hid (ahj = none → (32 : Nat) = 0 ∧ chj = 0) := hnj
      clear hB hO hnj hrj
      go_wp2_with (at_builtin; refine append_rdE rfl (.tmp 122) (.tmp 126) rfl w17.heap.size i hi hz hsize hby vy lf.length lf rfl Hoy2.out ahj 32 chj (leB 32 (S + eL)) rfl (leB_len _ _) Hnh.out Hrh1.out (by rw [Hnf.out]; decide) (Nat.le_trans HWy2.out.size (Nat.le_refl _)) ?_)
      intro vj w21 ho hg
      have hB : Below w17.heap.size w17 w21 := HWy2.out.grown hg HWy2.out.size (fun k hk => (Hoy2.out.lt k hk).1)
      obtain ⟨lj, Hlj⟩ : ∃ l, Hid (l = lf ++ leB 32 (S + eL)) := ⟨_, rfl⟩
      have hO : Owb w21 w17.heap.size vj lj := by rw [Hlj.out]; unfold Owb; rw [List.length_append, leB_len, List.map_append]; exact ho
      have HB21 : Hid (Below w.heap.size w w21) := HB17.out.trans (hB.mono HB17.out.size)
      have Hrm21 : Hid (Rd w21 am msg) := Hrm17.out.below hB (Nat.le_refl _)
      have Hna21 : Hid (Nu w21 (.slice a0 a1 a2) A) := Hna17.out.below hB (Nat.le_refl _)
      have Hnr21 : Hid (Nu w21 (.slice r0 r1 r2) R) := Hnr17.out.below hB (Nat.le_refl _)
      have Hno19 : Hid (Nk w21 (.slice o0 o1 o2) eL 256) := Hno15.out.below hB (Nat.le_refl _)
      have Hpp17 : Hid (Pn w21 (.slice px0 px1 px2) (.slice py0 py1 py2) (me eP eD A eB)) := Hpp13.out.below hB (Nat.le_refl _)
      have Hbp16 : Hid (Bl 31 w21 w4.heap.size [.slice px0 px1 px2, .slice py0 py1 py2, .bool false]) := Hbp12.out.below hB Hbp12.out.lt
      have Hpq14 : Hid (Pn w21 (.slice qx0 qx1 qx2) (.slice qy0 qy1 qy2) (me eP eD R eB)) := Hpq10.out.below hB (Nat.le_refl _)
      have Hbq13 : Hid (Bl 31 w21 w7.heap.size [.slice qx0 qx1 qx2, .slice qy0 qy1 qy2, .bool false]) := Hbq9.out.below hB Hbq9.out.lt
      have Hrk12 : Hid (Rd w21 ak lk) := Hrk8.out.below hB (Nat.le_refl _)
      have Hrf11 : Hid (Rd w21 af lf) := Hrf7.out.below hB (Nat.le_refl _)
      have Hnk10 : Hid (Nk w21 (.slice k0 k1 k2) KK 256) := Hnk6.out.below hB (Nat.le_refl _)
      have Hnm9 : Hid (Nk w21 (.slice m0 m1 m2) (KK * A % eL) 256) := Hnm5.out.below hB (Nat.le_refl _)
      have Hns8 : Hid (Nk w21 (.slice s0 s1 s2) S 256) := Hns4.out.below hB (Nat.le_refl _)
      have Hrg5 : Hid (Rd w21 ag lg) := Hrg1.out.below hB (Nat.le_refl _)
      obtain ⟨aj, cj, rfl, hcj, _, hrj⟩ := owb_open hO
      have Hcj : Hid (lj.length ≤ cj ∧ cj ≤ 9223372036854775807) := hcj
      have Hrj0 : Hid (Rd w21 aj lj) := hrj
      clear ho hg hB hO hcj hrj
      have HE2 : Hid (verC (me eP eD A eB) lk msg lj = 91) := (by rw [Hlj.out, Hlf.out]; exact comp_no S HSL.out : verC (me eP eD A eB) lk msg lj = 91)
      have C := verify_v ak am aj ck cm cj lk msg lj _ (HT.out.1.below HB21.out (Nat.le_refl _)) (HT.out.2.below HB21.out) Hrk12.out Hrm21.out Hrj0.out Hck.out.1 Hcm.out.1 Hcj.out (by have := Hcm.out.2.2; omega) (me eP eD A eB) (ew.mon onB A) HE.out.1
      rw [HE2.out] at C
      go_wp2_with fail
      refine C.mono ?_
      clear C
      rintro e w22 ⟨rfl, hB⟩
      have HB22 : Hid (Below w.heap.size w w22) := HB21.out.trans (hB.mono HB21.out.size)
      have Hrm22 : Hid (Rd w22 am msg) := Hrm21.out.below hB (Nat.le_refl _)
      have Hna22 : Hid (Nu w22 (.slice a0 a1 a2) A) := Hna21.out.below hB (Nat.le_refl _)
      have Hnr22 : Hid (Nu w22 (.slice r0 r1 r2) R) := Hnr21.out.below hB (Nat.le_refl _)
      have Hno20 : Hid (Nk w22 (.slice o0 o1 o2) eL 256) := Hno19.out.below hB (Nat.le_refl _)
      have Hpp18 : Hid (Pn w22 (.slice px0 px1 px2) (.slice py0 py1 py2) (me eP eD A eB)) := Hpp17.out.below hB (Nat.le_refl _)
      have Hbp17 : Hid (Bl 31 w22 w4.heap.size [.slice px0 px1 px2, .slice py0 py1 py2, .bool false]) := Hbp16.out.below hB Hbp16.out.lt
      have Hpq15 : Hid (Pn w22 (.slice qx0 qx1 qx2) (.slice qy0 qy1 qy2) (me eP eD R eB)) := Hpq14.out.below hB (Nat.le_refl _)
      have Hbq14 : Hid (Bl 31 w22 w7.heap.size [.slice qx0 qx1 qx2, .slice qy0 qy1 qy2, .bool false]) := Hbq13.out.below hB Hbq13.out.lt
      have Hrk13 : Hid (Rd w22 ak lk) := Hrk12.out.below hB (Nat.le_refl _)
      have Hrf12 : Hid (Rd w22 af lf) := Hrf11.out.below hB (Nat.le_refl _)
      have Hnk11 : Hid (Nk w22 (.slice k0 k1 k2) KK 256) := Hnk10.out.below hB (Nat.le_refl _)
      have Hnm10 : Hid (Nk w22 (.slice m0 m1 m2) (KK * A % eL) 256) := Hnm9.out.below hB (Nat.le_refl _)
      have Hns9 : Hid (Nk w22 (.slice s0 s1 s2) S 256) := Hns8.out.below hB (Nat.le_refl _)
      have Hrg6 : Hid (Rd w22 ag lg) := Hrg5.out.below hB (Nat.le_refl _)
      have Hrj1 : Hid (Rd w22 aj lj) := Hrj0.out.below hB (Nat.le_refl _)
      clear hB
      go_wp2
      go_ret
      exact ⟨rfl, HB22.out⟩
    · skip
      have hR' : 1024 < bl R := by omega
      go_wp2_with fail
      refine (base_v _ (HT.out.1.below HB2.out (Nat.le_refl _))).mono ?_
      rintro e w3 ⟨v, rfl, hm, hB⟩
      have HB3 : Hid (Below w.heap.size w w3) := HB2.out.trans (hB.mono HB2.out.size)
      have Hrm3 : Hid (Rd w3 am msg) := Hrm2.out.below hB (Nat.le_refl _)
      have Hna3 : Hid (Nu w3 (.slice a0 a1 a2) A) := Hna2.out.below hB (Nat.le_refl _)
      have Hnr3 : Hid (Nu w3 (.slice r0 r1 r2) R) := Hnr2.out.below hB (Nat.le_refl _)
      have Hno1 : Hid (Nk w3 (.slice o0 o1 o2) eL 256) := Hno0.out.below hB (Nat.le_refl _)
      obtain ⟨pbx, pby, rfl, hpn⟩ := hm.pn
      obtain ⟨⟨pbx0, pbx1, pbx2, rfl⟩, ⟨pby0, pby1, pby2, rfl⟩⟩ := hpn.sl
      have Hppb0 : Hid (Pn w3 (.slice pbx0 pbx1 pbx2) (.slice pby0 pby1 pby2) eB) := hpn
      clear hpn
      clear hB hm
      go_wp2_with fail
      refine (mul_p (HT.out.1.below HB3.out (Nat.le_refl _)) Hna3.out Hppb0.out onB (by assumption)).mono ?_
      rintro e w4 ⟨v, rfl, hm, hB⟩
      have HB4 : Hid (Below w.heap.size w w4) := HB3.out.trans (hB.mono HB3.out.size)
      have Hrm4 : Hid (Rd w4 am msg) := Hrm3.out.below hB (Nat.le_refl _)
      have Hna4 : Hid (Nu w4 (.slice a0 a1 a2) A) := Hna3.out.below hB (Nat.le_refl _)
      have Hnr4 : Hid (Nu w4 (.slice r0 r1 r2) R) := Hnr3.out.below hB (Nat.le_refl _)
      have Hno2 : Hid (Nk w4 (.slice o0 o1 o2) eL 256) := Hno1.out.below hB (Nat.le_refl _)
      have Hppb1 : Hid (Pn w4 (.slice pbx0 pbx1 pbx2) (.slice pby0 pby1 pby2) eB) := Hppb0.out.below hB (Nat.le_refl _)
      obtain ⟨px, py, rfl, hpn⟩ := hm.pn
      obtain ⟨⟨px0, px1, px2, rfl⟩, ⟨py0, py1, py2, rfl⟩⟩ := hpn.sl
      have Hpp0 : Hid (Pn w4 (.slice px0 px1 px2) (.slice py0 py1 py2) (me eP eD A eB)) := hpn
      clear hpn
      clear hB hm
      have hba := alloc_below w4 (.cells #[.slice px0 px1 px2, .slice py0 py1 py2, .bool false] 31)
      have HB5 : Hid (Below w.heap.size w (w4.alloc (.cells #[.slice px0 px1 px2, .slice py0 py1 py2, .bool false] 31))) := HB4.out.trans (hba.mono HB4.out.size)
      have Hrm5 : Hid (Rd (w4.alloc (.cells #[.slice px0 px1 px2, .slice py0 py1 py2, .bool false] 31)) am msg) := Hrm4.out.below hba (Nat.le_refl _)
      have Hna5 : Hid (Nu (w4.alloc (.cells #[.slice px0 px1 px2, .slice py0 py1 py2, .bool false] 31)) (.slice a0 a1 a2) A) := Hna4.out.below hba (Nat.le_refl _)
      have Hnr5 : Hid (Nu (w4.alloc (.cells #[.slice px0 px1 px2, .slice py0 py1 py2, .bool false] 31)) (.slice r0 r1 r2) R) := Hnr4.out.below hba (Nat.le_refl _)
      have Hno3 : Hid (Nk (w4.alloc (.cells #[.slice px0 px1 px2, .slice py0 py1 py2, .bool false] 31)) (.slice o0 o1 o2) eL 256) := Hno2.out.below hba (Nat.le_refl _)
      have Hppb2 : Hid (Pn (w4.alloc (.cells #[.slice px0 px1 px2, .slice py0 py1 py2, .bool false] 31)) (.slice pbx0 pbx1 pbx2) (.slice pby0 pby1 pby2) eB) := Hppb1.out.below hba (Nat.le_refl _)
      have Hpp1 : Hid (Pn (w4.alloc (.cells #[.slice px0 px1 px2, .slice py0 py1 py2, .bool false] 31)) (.slice px0 px1 px2) (.slice py0 py1 py2) (me eP eD A eB)) := Hpp0.out.below hba (Nat.le_refl _)
      clear hba
      have Hbp0 : Hid (Bl 31 (w4.alloc (.cells #[.slice px0 px1 px2, .slice py0 py1 py2, .bool false] 31)) w4.heap.size [.slice px0 px1 px2, .slice py0 py1 py2, .bool false]) := alloc_bl w4 [.slice px0 px1 px2, .slice py0 py1 py2, .bool false] 31
      go_wp2_with fail
      generalize (w4.alloc (.cells #[.slice px0 px1 px2, .slice py0 py1 py2, .bool false] 31)) = wv5 at *
      refine (base_v _ (HT.out.1.below HB5.out (Nat.le_refl _))).mono ?_
      rintro e w6 ⟨v, rfl, hm, hB⟩
      have HB6 : Hid (Below w.heap.size w w6) := HB5.out.trans (hB.mono HB5.out.size)
      have Hrm6 : Hid (Rd w6 am msg) := Hrm5.out.below hB (Nat.le_refl _)
      have Hna6 : Hid (Nu w6 (.slice a0 a1 a2) A) := Hna5.out.below hB (Nat.le_refl _)
      have Hnr6 : Hid (Nu w6 (.slice r0 r1 r2) R) := Hnr5.out.below hB (Nat.le_refl _)
      have Hno4 : Hid (Nk w6 (.slice o0 o1 o2) eL 256) := Hno3.out.below hB (Nat.le_refl _)
      have Hpp2 : Hid (Pn w6 (.slice px0 px1 px2) (.slice py0 py1 py2) (me eP eD A eB)) := Hpp1.out.below hB (Nat.le_refl _)
      have Hbp1 : Hid (Bl 31 w6 w4.heap.size [.slice px0 px1 px2, .slice py0 py1 py2, .bool false]) := Hbp0.out.below hB Hbp0.out.lt
      obtain ⟨qbx, qby, rfl, hpn⟩ := hm.pn
      obtain ⟨⟨qbx0, qbx1, qbx2, rfl⟩, ⟨qby0, qby1, qby2, rfl⟩⟩ := hpn.sl
      have Hpqb0 : Hid (Pn w6 (.slice qbx0 qbx1 qbx2) (.slice qby0 qby1 qby2) eB) := hpn
      clear hpn
      clear hB hm
      go_wp2_with fail
      refine (mul_large _ _ _ R eX eY _ (HT.out.1.below HB6.out (Nat.le_refl _)) Hnr6.out Hpqb0.out.nx Hpqb0.out.ny false ((onV_iff _ _ _).2 ⟨rfl, onB⟩) (by assumption)).mono ?_
      rintro e w7 ⟨rfl, hB⟩
      have HB7 : Hid (Below w.heap.size w w7) := HB6.out.trans (hB.mono HB6.out.size)
      have Hrm7 : Hid (Rd w7 am msg) := Hrm6.out.below hB (Nat.le_refl _)
      have Hna7 : Hid (Nu w7 (.slice a0 a1 a2) A) := Hna6.out.below hB (Nat.le_refl _)
      have Hnr7 : Hid (Nu w7 (.slice r0 r1 r2) R) := Hnr6.out.below hB (Nat.le_refl _)
      have Hno5 : Hid (Nk w7 (.slice o0 o1 o2) eL 256) := Hno4.out.below hB (Nat.le_refl _)
      have Hpp3 : Hid (Pn w7 (.slice px0 px1 px2) (.slice py0 py1 py2) (me eP eD A eB)) := Hpp2.out.below hB (Nat.le_refl _)
      have Hbp2 : Hid (Bl 31 w7 w4.heap.size [.slice px0 px1 px2, .slice py0 py1 py2, .bool false]) := Hbp1.out.below hB Hbp1.out.lt
      have Hpqb1 : Hid (Pn w7 (.slice qbx0 qbx1 qbx2) (.slice qby0 qby1 qby2) eB) := Hpqb0.out.below hB (Nat.le_refl _)
      clear hB
      have hba := alloc_below w7 (.cells #[.slice none 0 0, .slice none 0 0, .bool false] 31)
      have HB8 : Hid (Below w.heap.size w (w7.alloc (.cells #[.slice none 0 0, .slice none 0 0, .bool false] 31))) := HB7.out.trans (hba.mono HB7.out.size)
      have Hrm8 : Hid (Rd (w7.alloc (.cells #[.slice none 0 0, .slice none 0 0, .bool false] 31)) am msg) := Hrm7.out.below hba (Nat.le_refl _)
      have Hna8 : Hid (Nu (w7.alloc (.cells #[.slice none 0 0, .slice none 0 0, .bool false] 31)) (.slice a0 a1 a2) A) := Hna7.out.below hba (Nat.le_refl _)
      have Hnr8 : Hid (Nu (w7.alloc (.cells #[.slice none 0 0, .slice none 0 0, .bool false] 31)) (.slice r0 r1 r2) R) := Hnr7.out.below hba (Nat.le_refl _)
      have Hno6 : Hid (Nk (w7.alloc (.cells #[.slice none 0 0, .slice none 0 0, .bool false] 31)) (.slice o0 o1 o2) eL 256) := Hno5.out.below hba (Nat.le_refl _)
      have Hpp4 : Hid (Pn (w7.alloc (.cells #[.slice none 0 0, .slice none 0 0, .bool false] 31)) (.slice px0 px1 px2) (.slice py0 py1 py2) (me eP eD A eB)) := Hpp3.out.below hba (Nat.le_refl _)
      have Hbp3 : Hid (Bl 31 (w7.alloc (.cells #[.slice none 0 0, .slice none 0 0, .bool false] 31)) w4.heap.size [.slice px0 px1 px2, .slice py0 py1 py2, .bool false]) := Hbp2.out.below hba Hbp2.out.lt
      have Hpqb2 : Hid (Pn (w7.alloc (.cells #[.slice none 0 0, .slice none 0 0, .bool false] 31)) (.slice qbx0 qbx1 qbx2) (.slice qby0 qby1 qby2) eB) := Hpqb1.out.below hba (Nat.le_refl _)
      clear hba
      have Hbq0 : Hid (Bl 31 (w7.alloc (.cells #[.slice none 0 0, .slice none 0 0, .bool false] 31)) w7.heap.size [.slice none 0 0, .slice none 0 0, .bool false]) := alloc_bl w7 [.slice none 0 0, .slice none 0 0, .bool false] 31
      obtain ⟨za, Hza⟩ : ∃ z : Int, Hid (z = ((bl A : Nat) : Int)) := ⟨_, rfl⟩
      obtain ⟨zr, Hzr⟩ : ∃ z : Int, Hid (z = ((bl R : Nat) : Int)) := ⟨_, rfl⟩
      have hda : decide ((1024 : Int) < za) = false := by have := Hza.out; exact decide_eq_false (by omega)
      have hdr : decide ((1024 : Int) < zr) = true := by have := Hzr.out; exact decide_eq_true (by omega)
      have HbA : Hid (bl A ≤ 1024 ∧ bl R > 1024) := ⟨by omega, by omega⟩
      clear hA hR
      go_wp2_with fail
      generalize (w7.alloc (.cells #[.slice none 0 0, .slice none 0 0, .bool false] 31)) = wv8 at *
      refine (by rw [Hza.out]; exact vbits _ A _ _ Hna8.out (by decide) : Calls Tryz.prog 24 #[_] _ fun e w' => e = .returned (.int .i64 za) ∧ w' = _).mono ?_
      rintro e wv8 ⟨rfl, rfl⟩
      go_wp2_with fail
      refine (by rw [Hzr.out]; exact vbits _ R _ _ Hnr8.out (by decide) : Calls Tryz.prog 24 #[_] _ fun e w' => e = .returned (.int .i64 zr) ∧ w' = _).mono ?_
      rintro e wv8 ⟨rfl, rfl⟩
      go_wp2_with fail
      refine (by rw [Hza.out]; exact vbits _ A _ _ Hna8.out (by decide) : Calls Tryz.prog 24 #[_] _ fun e w' => e = .returned (.int .i64 za) ∧ w' = _).mono ?_
      rintro e wv8 ⟨rfl, rfl⟩
      go_wp2_with fail
      refine (by rw [Hzr.out]; exact vbits _ R _ _ Hnr8.out (by decide) : Calls Tryz.prog 24 #[_] _ fun e w' => e = .returned (.int .i64 zr) ∧ w' = _).mono ?_
      rintro e wv8 ⟨rfl, rfl⟩
      go_wp2
      go_ret
      exact ⟨rfl, HB8.out⟩
  · by_cases hR : bl R ≤ 1024
    · skip
      have hA' : 1024 < bl A := by omega
      go_wp2_with fail
      refine (base_v _ (HT.out.1.below HB2.out (Nat.le_refl _))).mono ?_
      rintro e w3 ⟨v, rfl, hm, hB⟩
      have HB3 : Hid (Below w.heap.size w w3) := HB2.out.trans (hB.mono HB2.out.size)
      have Hrm3 : Hid (Rd w3 am msg) := Hrm2.out.below hB (Nat.le_refl _)
      have Hna3 : Hid (Nu w3 (.slice a0 a1 a2) A) := Hna2.out.below hB (Nat.le_refl _)
      have Hnr3 : Hid (Nu w3 (.slice r0 r1 r2) R) := Hnr2.out.below hB (Nat.le_refl _)
      have Hno1 : Hid (Nk w3 (.slice o0 o1 o2) eL 256) := Hno0.out.below hB (Nat.le_refl _)
      obtain ⟨pbx, pby, rfl, hpn⟩ := hm.pn
      obtain ⟨⟨pbx0, pbx1, pbx2, rfl⟩, ⟨pby0, pby1, pby2, rfl⟩⟩ := hpn.sl
      have Hppb0 : Hid (Pn w3 (.slice pbx0 pbx1 pbx2) (.slice pby0 pby1 pby2) eB) := hpn
      clear hpn
      clear hB hm
      go_wp2_with fail
      refine (mul_large _ _ _ A eX eY _ (HT.out.1.below HB3.out (Nat.le_refl _)) Hna3.out Hppb0.out.nx Hppb0.out.ny false ((onV_iff _ _ _).2 ⟨rfl, onB⟩) (by assumption)).mono ?_
      rintro e w4 ⟨rfl, hB⟩
      have HB4 : Hid (Below w.heap.size w w4) := HB3.out.trans (hB.mono HB3.out.size)
      have Hrm4 : Hid (Rd w4 am msg) := Hrm3.out.below hB (Nat.le_refl _)
      have Hna4 : Hid (Nu w4 (.slice a0 a1 a2) A) := Hna3.out.below hB (Nat.le_refl _)
      have Hnr4 : Hid (Nu w4 (.slice r0 r1 r2) R) := Hnr3.out.below hB (Nat.le_refl _)
      have Hno2 : Hid (Nk w4 (.slice o0 o1 o2) eL 256) := Hno1.out.below hB (Nat.le_refl _)
      have Hppb1 : Hid (Pn w4 (.slice pbx0 pbx1 pbx2) (.slice pby0 pby1 pby2) eB) := Hppb0.out.below hB (Nat.le_refl _)
      clear hB
      have hba := alloc_below w4 (.cells #[.slice none 0 0, .slice none 0 0, .bool false] 31)
      have HB5 : Hid (Below w.heap.size w (w4.alloc (.cells #[.slice none 0 0, .slice none 0 0, .bool false] 31))) := HB4.out.trans (hba.mono HB4.out.size)
      have Hrm5 : Hid (Rd (w4.alloc (.cells #[.slice none 0 0, .slice none 0 0, .bool false] 31)) am msg) := Hrm4.out.below hba (Nat.le_refl _)
      have Hna5 : Hid (Nu (w4.alloc (.cells #[.slice none 0 0, .slice none 0 0, .bool false] 31)) (.slice a0 a1 a2) A) := Hna4.out.below hba (Nat.le_refl _)
      have Hnr5 : Hid (Nu (w4.alloc (.cells #[.slice none 0 0, .slice none 0 0, .bool false] 31)) (.slice r0 r1 r2) R) := Hnr4.out.below hba (Nat.le_refl _)
      have Hno3 : Hid (Nk (w4.alloc (.cells #[.slice none 0 0, .slice none 0 0, .bool false] 31)) (.slice o0 o1 o2) eL 256) := Hno2.out.below hba (Nat.le_refl _)
      have Hppb2 : Hid (Pn (w4.alloc (.cells #[.slice none 0 0, .slice none 0 0, .bool false] 31)) (.slice pbx0 pbx1 pbx2) (.slice pby0 pby1 pby2) eB) := Hppb1.out.below hba (Nat.le_refl _)
      clear hba
      have Hbp0 : Hid (Bl 31 (w4.alloc (.cells #[.slice none 0 0, .slice none 0 0, .bool false] 31)) w4.heap.size [.slice none 0 0, .slice none 0 0, .bool false]) := alloc_bl w4 [.slice none 0 0, .slice none 0 0, .bool false] 31
      go_wp2_with fail
      generalize (w4.alloc (.cells #[.slice none 0 0, .slice none 0 0, .bool false] 31)) = wv5 at *
      refine (base_v _ (HT.out.1.below HB5.out (Nat.le_refl _))).mono ?_
      rintro e w6 ⟨v, rfl, hm, hB⟩
      have HB6 : Hid (Below w.heap.size w w6) := HB5.out.trans (hB.mono HB5.out.size)
      have Hrm6 : Hid (Rd w6 am msg) := Hrm5.out.below hB (Nat.le_refl _)
      have Hna6 : Hid (Nu w6 (.slice a0 a1 a2) A) := Hna5.out.below hB (Nat.le_refl _)
      have Hnr6 : Hid (Nu w6 (.slice r0 r1 r2) R) := Hnr5.out.below hB (Nat.le_refl _)
      have Hno4 : Hid (Nk w6 (.slice o0 o1 o2) eL 256) := Hno3.out.below hB (Nat.le_refl _)
      have Hbp1 : Hid (Bl 31 w6 w4.heap.size [.slice none 0 0, .slice none 0 0, .bool false]) := Hbp0.out.below hB Hbp0.out.lt
      obtain ⟨qbx, qby, rfl, hpn⟩ := hm.pn
      obtain ⟨⟨qbx0, qbx1, qbx2, rfl⟩, ⟨qby0, qby1, qby2, rfl⟩⟩ := hpn.sl
      have Hpqb0 : Hid (Pn w6 (.slice qbx0 qbx1 qbx2) (.slice qby0 qby1 qby2) eB) := hpn
      clear hpn
      clear hB hm
      go_wp2_with fail
      refine (mul_p (HT.out.1.below HB6.out (Nat.le_refl _)) Hnr6.out Hpqb0.out onB (by assumption)).mono ?_
      rintro e w7 ⟨v, rfl, hm, hB⟩
      have HB7 : Hid (Below w.heap.size w w7) := HB6.out.trans (hB.mono HB6.out.size)
      have Hrm7 : Hid (Rd w7 am msg) := Hrm6.out.below hB (Nat.le_refl _)
      have Hna7 : Hid (Nu w7 (.slice a0 a1 a2) A) := Hna6.out.below hB (Nat.le_refl _)
      have Hnr7 : Hid (Nu w7 (.slice r0 r1 r2) R) := Hnr6.out.below hB (Nat.le_refl _)
      have Hno5 : Hid (Nk w7 (.slice o0 o1 o2) eL 256) := Hno4.out.below hB (Nat.le_refl _)
      have Hbp2 : Hid (Bl 31 w7 w4.heap.size [.slice none 0 0, .slice none 0 0, .bool false]) := Hbp1.out.below hB Hbp1.out.lt
      have Hpqb1 : Hid (Pn w7 (.slice qbx0 qbx1 qbx2) (.slice qby0 qby1 qby2) eB) := Hpqb0.out.below hB (Nat.le_refl _)
      obtain ⟨qx, qy, rfl, hpn⟩ := hm.pn
      obtain ⟨⟨qx0, qx1, qx2, rfl⟩, ⟨qy0, qy1, qy2, rfl⟩⟩ := hpn.sl
      have Hpq0 : Hid (Pn w7 (.slice qx0 qx1 qx2) (.slice qy0 qy1 qy2) (me eP eD R eB)) := hpn
      clear hpn
      clear hB hm
      have hba := alloc_below w7 (.cells #[.slice qx0 qx1 qx2, .slice qy0 qy1 qy2, .bool false] 31)
      have HB8 : Hid (Below w.heap.size w (w7.alloc (.cells #[.slice qx0 qx1 qx2, .slice qy0 qy1 qy2, .bool false] 31))) := HB7.out.trans (hba.mono HB7.out.size)
      have Hrm8 : Hid (Rd (w7.alloc (.cells #[.slice qx0 qx1 qx2, .slice qy0 qy1 qy2, .bool false] 31)) am msg) := Hrm7.out.below hba (Nat.le_refl _)
      have Hna8 : Hid (Nu (w7.alloc (.cells #[.slice qx0 qx1 qx2, .slice qy0 qy1 qy2, .bool false] 31)) (.slice a0 a1 a2) A) := Hna7.out.below hba (Nat.le_refl _)
      have Hnr8 : Hid (Nu (w7.alloc (.cells #[.slice qx0 qx1 qx2, .slice qy0 qy1 qy2, .bool false] 31)) (.slice r0 r1 r2) R) := Hnr7.out.below hba (Nat.le_refl _)
      have Hno6 : Hid (Nk (w7.alloc (.cells #[.slice qx0 qx1 qx2, .slice qy0 qy1 qy2, .bool false] 31)) (.slice o0 o1 o2) eL 256) := Hno5.out.below hba (Nat.le_refl _)
      have Hbp3 : Hid (Bl 31 (w7.alloc (.cells #[.slice qx0 qx1 qx2, .slice qy0 qy1 qy2, .bool false] 31)) w4.heap.size [.slice none 0 0, .slice none 0 0, .bool false]) := Hbp2.out.below hba Hbp2.out.lt
      have Hpqb2 : Hid (Pn (w7.alloc (.cells #[.slice qx0 qx1 qx2, .slice qy0 qy1 qy2, .bool false] 31)) (.slice qbx0 qbx1 qbx2) (.slice qby0 qby1 qby2) eB) := Hpqb1.out.below hba (Nat.le_refl _)
      have Hpq1 : Hid (Pn (w7.alloc (.cells #[.slice qx0 qx1 qx2, .slice qy0 qy1 qy2, .bool false] 31)) (.slice qx0 qx1 qx2) (.slice qy0 qy1 qy2) (me eP eD R eB)) := Hpq0.out.below hba (Nat.le_refl _)
      clear hba
      have Hbq0 : Hid (Bl 31 (w7.alloc (.cells #[.slice qx0 qx1 qx2, .slice qy0 qy1 qy2, .bool false] 31)) w7.heap.size [.slice qx0 qx1 qx2, .slice qy0 qy1 qy2, .bool false]) := alloc_bl w7 [.slice qx0 qx1 qx2, .slice qy0 qy1 qy2, .bool false] 31
      obtain ⟨za, Hza⟩ : ∃ z : Int, Hid (z = ((bl A : Nat) : Int)) := ⟨_, rfl⟩
      obtain ⟨zr, Hzr⟩ : ∃ z : Int, Hid (z = ((bl R : Nat) : Int)) := ⟨_, rfl⟩
      have hda : decide ((1024 : Int) < za) = true := by have := Hza.out; exact decide_eq_true (by omega)
      have hdr : decide ((1024 : Int) < zr) = false := by have := Hzr.out; exact decide_eq_false (by omega)
      have HbA : Hid (bl A > 1024 ∧ bl R ≤ 1024) := ⟨by omega, by omega⟩
      clear hA hR
      go_wp2_with fail
      generalize (w7.alloc (.cells #[.slice qx0 qx1 qx2, .slice qy0 qy1 qy2, .bool false] 31)) = wv8 at *
      refine (by rw [Hza.out]; exact vbits _ A _ _ Hna8.out (by decide) : Calls Tryz.prog 24 #[_] _ fun e w' => e = .returned (.int .i64 za) ∧ w' = _).mono ?_
      rintro e wv8 ⟨rfl, rfl⟩
      go_wp2_with fail
      refine (by rw [Hza.out]; exact vbits _ A _ _ Hna8.out (by decide) : Calls Tryz.prog 24 #[_] _ fun e w' => e = .returned (.int .i64 za) ∧ w' = _).mono ?_
      rintro e wv8 ⟨rfl, rfl⟩
      go_wp2_with fail
      refine (by rw [Hzr.out]; exact vbits _ R _ _ Hnr8.out (by decide) : Calls Tryz.prog 24 #[_] _ fun e w' => e = .returned (.int .i64 zr) ∧ w' = _).mono ?_
      rintro e wv8 ⟨rfl, rfl⟩
      go_wp2
      go_ret
      exact ⟨rfl, HB8.out⟩
    · skip
      have hA' : 1024 < bl A := by omega
      have hR' : 1024 < bl R := by omega
      go_wp2_with fail
      refine (base_v _ (HT.out.1.below HB2.out (Nat.le_refl _))).mono ?_
      rintro e w3 ⟨v, rfl, hm, hB⟩
      have HB3 : Hid (Below w.heap.size w w3) := HB2.out.trans (hB.mono HB2.out.size)
      have Hrm3 : Hid (Rd w3 am msg) := Hrm2.out.below hB (Nat.le_refl _)
      have Hna3 : Hid (Nu w3 (.slice a0 a1 a2) A) := Hna2.out.below hB (Nat.le_refl _)
      have Hnr3 : Hid (Nu w3 (.slice r0 r1 r2) R) := Hnr2.out.below hB (Nat.le_refl _)
      have Hno1 : Hid (Nk w3 (.slice o0 o1 o2) eL 256) := Hno0.out.below hB (Nat.le_refl _)
      obtain ⟨pbx, pby, rfl, hpn⟩ := hm.pn
      obtain ⟨⟨pbx0, pbx1, pbx2, rfl⟩, ⟨pby0, pby1, pby2, rfl⟩⟩ := hpn.sl
      have Hppb0 : Hid (Pn w3 (.slice pbx0 pbx1 pbx2) (.slice pby0 pby1 pby2) eB) := hpn
      clear hpn
      clear hB hm
      go_wp2_with fail
      refine (mul_large _ _ _ A eX eY _ (HT.out.1.below HB3.out (Nat.le_refl _)) Hna3.out Hppb0.out.nx Hppb0.out.ny false ((onV_iff _ _ _).2 ⟨rfl, onB⟩) (by assumption)).mono ?_
      rintro e w4 ⟨rfl, hB⟩
      have HB4 : Hid (Below w.heap.size w w4) := HB3.out.trans (hB.mono HB3.out.size)
      have Hrm4 : Hid (Rd w4 am msg) := Hrm3.out.below hB (Nat.le_refl _)
      have Hna4 : Hid (Nu w4 (.slice a0 a1 a2) A) := Hna3.out.below hB (Nat.le_refl _)
      have Hnr4 : Hid (Nu w4 (.slice r0 r1 r2) R) := Hnr3.out.below hB (Nat.le_refl _)
      have Hno2 : Hid (Nk w4 (.slice o0 o1 o2) eL 256) := Hno1.out.below hB (Nat.le_refl _)
      have Hppb1 : Hid (Pn w4 (.slice pbx0 pbx1 pbx2) (.slice pby0 pby1 pby2) eB) := Hppb0.out.below hB (Nat.le_refl _)
      clear hB
      have hba := alloc_below w4 (.cells #[.slice none 0 0, .slice none 0 0, .bool false] 31)
      have HB5 : Hid (Below w.heap.size w (w4.alloc (.cells #[.slice none 0 0, .slice none 0 0, .bool false] 31))) := HB4.out.trans (hba.mono HB4.out.size)
      have Hrm5 : Hid (Rd (w4.alloc (.cells #[.slice none 0 0, .slice none 0 0, .bool false] 31)) am msg) := Hrm4.out.below hba (Nat.le_refl _)
      have Hna5 : Hid (Nu (w4.alloc (.cells #[.slice none 0 0, .slice none 0 0, .bool false] 31)) (.slice a0 a1 a2) A) := Hna4.out.below hba (Nat.le_refl _)
      have Hnr5 : Hid (Nu (w4.alloc (.cells #[.slice none 0 0, .slice none 0 0, .bool false] 31)) (.slice r0 r1 r2) R) := Hnr4.out.below hba (Nat.le_refl _)
      have Hno3 : Hid (Nk (w4.alloc (.cells #[.slice none 0 0, .slice none 0 0, .bool false] 31)) (.slice o0 o1 o2) eL 256) := Hno2.out.below hba (Nat.le_refl _)
      have Hppb2 : Hid (Pn (w4.alloc (.cells #[.slice none 0 0, .slice none 0 0, .bool false] 31)) (.slice pbx0 pbx1 pbx2) (.slice pby0 pby1 pby2) eB) := Hppb1.out.below hba (Nat.le_refl _)
      clear hba
      have Hbp0 : Hid (Bl 31 (w4.alloc (.cells #[.slice none 0 0, .slice none 0 0, .bool false] 31)) w4.heap.size [.slice none 0 0, .slice none 0 0, .bool false]) := alloc_bl w4 [.slice none 0 0, .slice none 0 0, .bool false] 31
      go_wp2_with fail
      generalize (w4.alloc (.cells #[.slice none 0 0, .slice none 0 0, .bool false] 31)) = wv5 at *
      refine (base_v _ (HT.out.1.below HB5.out (Nat.le_refl _))).mono ?_
      rintro e w6 ⟨v, rfl, hm, hB⟩
      have HB6 : Hid (Below w.heap.size w w6) := HB5.out.trans (hB.mono HB5.out.size)
      have Hrm6 : Hid (Rd w6 am msg) := Hrm5.out.below hB (Nat.le_refl _)
      have Hna6 : Hid (Nu w6 (.slice a0 a1 a2) A) := Hna5.out.below hB (Nat.le_refl _)
      have Hnr6 : Hid (Nu w6 (.slice r0 r1 r2) R) := Hnr5.out.below hB (Nat.le_refl _)
      have Hno4 : Hid (Nk w6 (.slice o0 o1 o2) eL 256) := Hno3.out.below hB (Nat.le_refl _)
      have Hbp1 : Hid (Bl 31 w6 w4.heap.size [.slice none 0 0, .slice none 0 0, .bool false]) := Hbp0.out.below hB Hbp0.out.lt
      obtain ⟨qbx, qby, rfl, hpn⟩ := hm.pn
      obtain ⟨⟨qbx0, qbx1, qbx2, rfl⟩, ⟨qby0, qby1, qby2, rfl⟩⟩ := hpn.sl
      have Hpqb0 : Hid (Pn w6 (.slice qbx0 qbx1 qbx2) (.slice qby0 qby1 qby2) eB) := hpn
      clear hpn
      clear hB hm
      go_wp2_with fail
      refine (mul_large _ _ _ R eX eY _ (HT.out.1.below HB6.out (Nat.le_refl _)) Hnr6.out Hpqb0.out.nx Hpqb0.out.ny false ((onV_iff _ _ _).2 ⟨rfl, onB⟩) (by assumption)).mono ?_
      rintro e w7 ⟨rfl, hB⟩
      have HB7 : Hid (Below w.heap.size w w7) := HB6.out.trans (hB.mono HB6.out.size)
      have Hrm7 : Hid (Rd w7 am msg) := Hrm6.out.below hB (Nat.le_refl _)
      have Hna7 : Hid (Nu w7 (.slice a0 a1 a2) A) := Hna6.out.below hB (Nat.le_refl _)
      have Hnr7 : Hid (Nu w7 (.slice r0 r1 r2) R) := Hnr6.out.below hB (Nat.le_refl _)
      have Hno5 : Hid (Nk w7 (.slice o0 o1 o2) eL 256) := Hno4.out.below hB (Nat.le_refl _)
      have Hbp2 : Hid (Bl 31 w7 w4.heap.size [.slice none 0 0, .slice none 0 0, .bool false]) := Hbp1.out.below hB Hbp1.out.lt
      have Hpqb1 : Hid (Pn w7 (.slice qbx0 qbx1 qbx2) (.slice qby0 qby1 qby2) eB) := Hpqb0.out.below hB (Nat.le_refl _)
      clear hB
      have hba := alloc_below w7 (.cells #[.slice none 0 0, .slice none 0 0, .bool false] 31)
      have HB8 : Hid (Below w.heap.size w (w7.alloc (.cells #[.slice none 0 0, .slice none 0 0, .bool false] 31))) := HB7.out.trans (hba.mono HB7.out.size)
      have Hrm8 : Hid (Rd (w7.alloc (.cells #[.slice none 0 0, .slice none 0 0, .bool false] 31)) am msg) := Hrm7.out.below hba (Nat.le_refl _)
      have Hna8 : Hid (Nu (w7.alloc (.cells #[.slice none 0 0, .slice none 0 0, .bool false] 31)) (.slice a0 a1 a2) A) := Hna7.out.below hba (Nat.le_refl _)
      have Hnr8 : Hid (Nu (w7.alloc (.cells #[.slice none 0 0, .slice none 0 0, .bool false] 31)) (.slice r0 r1 r2) R) := Hnr7.out.below hba (Nat.le_refl _)
      have Hno6 : Hid (Nk (w7.alloc (.cells #[.slice none 0 0, .slice none 0 0, .bool false] 31)) (.slice o0 o1 o2) eL 256) := Hno5.out.below hba (Nat.le_refl _)
      have Hbp3 : Hid (Bl 31 (w7.alloc (.cells #[.slice none 0 0, .slice none 0 0, .bool false] 31)) w4.heap.size [.slice none 0 0, .slice none 0 0, .bool false]) := Hbp2.out.below hba Hbp2.out.lt
      have Hpqb2 : Hid (Pn (w7.alloc (.cells #[.slice none 0 0, .slice none 0 0, .bool false] 31)) (.slice qbx0 qbx1 qbx2) (.slice qby0 qby1 qby2) eB) := Hpqb1.out.below hba (Nat.le_refl _)
      clear hba
      have Hbq0 : Hid (Bl 31 (w7.alloc (.cells #[.slice none 0 0, .slice none 0 0, .bool false] 31)) w7.heap.size [.slice none 0 0, .slice none 0 0, .bool false]) := alloc_bl w7 [.slice none 0 0, .slice none 0 0, .bool false] 31
      obtain ⟨za, Hza⟩ : ∃ z : Int, Hid (z = ((bl A : Nat) : Int)) := ⟨_, rfl⟩
      obtain ⟨zr, Hzr⟩ : ∃ z : Int, Hid (z = ((bl R : Nat) : Int)) := ⟨_, rfl⟩
      have hda : decide ((1024 : Int) < za) = true := by have := Hza.out; exact decide_eq_true (by omega)
      have hdr : decide ((1024 : Int) < zr) = true := by have := Hzr.out; exact decide_eq_true (by omega)
      have HbA : Hid (bl A > 1024 ∧ bl R > 1024) := ⟨by omega, by omega⟩
      clear hA hR
      go_wp2_with fail
      generalize (w7.alloc (.cells #[.slice none 0 0, .slice none 0 0, .bool false] 31)) = wv8 at *
      refine (by rw [Hza.out]; exact vbits _ A _ _ Hna8.out (by decide) : Calls Tryz.prog 24 #[_] _ fun e w' => e = .returned (.int .i64 za) ∧ w' = _).mono ?_
      rintro e wv8 ⟨rfl, rfl⟩
      go_wp2_with fail
      refine (by rw [Hza.out]; exact vbits _ A _ _ Hna8.out (by decide) : Calls Tryz.prog 24 #[_] _ fun e w' => e = .returned (.int .i64 za) ∧ w' = _).mono ?_
      rintro e wv8 ⟨rfl, rfl⟩
      go_wp2_with fail
      refine (by rw [Hzr.out]; exact vbits _ R _ _ Hnr8.out (by decide) : Calls Tryz.prog 24 #[_] _ fun e w' => e = .returned (.int .i64 zr) ∧ w' = _).mono ?_
      rintro e wv8 ⟨rfl, rfl⟩
      go_wp2
      go_ret
      exact ⟨rfl, HB8.out⟩
end Go.Proofs.YtjpjepfmphlneaaGreatDoor
