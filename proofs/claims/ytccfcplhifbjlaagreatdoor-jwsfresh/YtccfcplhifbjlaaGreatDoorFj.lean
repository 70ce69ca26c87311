import Derived.Test.YtccfcplhifbjlaaGreatDoorFi
namespace Go.Proofs.YtccfcplhifbjlaaGreatDoor
open Go.RowKit
set_option maxRecDepth 100000

/-- One of three. -/
def p3 {α : Type} (a b c : α) (j : Nat) : α := match j with | 0 => a | 1 => b | _ => c

theorem owb_none {w : World} {B0 n c : Nat} {a : Option Addr} {l : List UInt8} (h : Owb w B0 (.slice a n c) l) : a = none → n = 0 ∧ c = 0 := by
  rintro rfl
  rcases h.2 with ⟨e, _⟩ | ⟨g, cap, cur, e, _⟩
  · injection e with e1 e2 e3
    exact ⟨e2, e3⟩
  · injection e with e1 e2 e3
    cases e1

theorem F1.hi {N0 N1 : Nat} {w3 W : World} {A : Nat → Option Addr} {n C : Nat → Nat} {i k : Nat} (h : F1 N0 N1 w3 W A n C i k) : Hi N0 N1 w3 W := by
  obtain ⟨L, hv, _⟩ := h
  exact hv.hi

set_option maxRecDepth 100000 in
set_option maxHeartbeats 40000000 in
theorem fresh_any (t : List UInt8) (w : World) (T : Sha.Tb w) :
    Calls Tryz.prog 8 #[.string ⟨t.toArray⟩] w fun e w' => e = .returned (.bool true) ∧ Below w.heap.size w w' := by
  have CA := alive_any w T
  have CD : Hid (∀ w, Calls Tryz.prog 14 #[.string ⟨t.toArray⟩] w fun e w' => ∃ v1 v2 v3, e = .returned (.tuple #[v1, v2, v3, .int .i64 ((dcF t).2 : Nat)]) ∧
    Owb w' w.heap.size v1 (dcF t).1.1 ∧ Owb w' w.heap.size v2 (dcF t).1.2.1 ∧ Owb w' w.heap.size v3 (dcF t).1.2.2 ∧ Below w.heap.size w w' ∧ Apt v1 v2 ∧ Apt v1 v3 ∧ Apt v2 v3) := jdecode_any t
  have hsz := dcF_sz t
  obtain ⟨D, hD⟩ : ∃ D, dcF t = D := ⟨_, rfl⟩
  rw [hD] at hsz CD
  clear hD T
  obtain ⟨⟨L1, L2, L3⟩, N⟩ := D
  simp only at hsz CD
  obtain ⟨s1, s2, s3⟩ := hsz
  have e4 : ((N : Int) != (N : Int)) = false := by simp
  go_enter Tryz.func8, Tryz.ntmps8
  go_wp2_with fail
  refine CA.mono ?_
  clear CA
  rintro e w1 ⟨rfl, B1⟩
  have HB1 : Hid (Below w.heap.size w w1) := B1
  clear B1
  have C1 := CD.out w1
  go_wp2_with fail
  refine C1.mono ?_
  clear C1
  rintro e wa ⟨v1, v2, v3, rfl, o1, o2, o3, Ba, t1, t2, t3⟩
  obtain ⟨f1, k1, e1⟩ : ∃ a c, v1 = .slice a L1.length c := by obtain ⟨a, c, e, _⟩ := o1.nb; exact ⟨a, c, e⟩
  obtain ⟨f2, k2, e2⟩ : ∃ a c, v2 = .slice a L2.length c := by obtain ⟨a, c, e, _⟩ := o2.nb; exact ⟨a, c, e⟩
  obtain ⟨f3, k3, e3⟩ : ∃ a c, v3 = .slice a L3.length c := by obtain ⟨a, c, e, _⟩ := o3.nb; exact ⟨a, c, e⟩
  subst e1; subst e2; subst e3
  have HV : Hid (Owb wa w1.heap.size (.slice f1 L1.length k1) L1 ∧ Owb wa w1.heap.size (.slice f2 L2.length k2) L2 ∧ Owb wa w1.heap.size (.slice f3 L3.length k3) L3) := ⟨o1, o2, o3⟩
  have HA : Hid (Apt (.slice f1 L1.length k1) (.slice f2 L2.length k2) ∧ Apt (.slice f1 L1.length k1) (.slice f3 L3.length k3) ∧ Apt (.slice f2 L2.length k2) (.slice f3 L3.length k3)) := ⟨t1, t2, t3⟩
  have HBa : Hid (Below w1.heap.size w1 wa) := Ba
  clear o1 o2 o3 t1 t2 t3 Ba
  have C2 := CD.out wa
  go_wp2_with fail
  refine C2.mono ?_
  clear C2
  rintro e wb ⟨v1, v2, v3, rfl, o1, o2, o3, Bb, t1, t2, t3⟩
  obtain ⟨g1, i1, e1⟩ : ∃ a c, v1 = .slice a L1.length c := by obtain ⟨a, c, e, _⟩ := o1.nb; exact ⟨a, c, e⟩
  obtain ⟨g2, i2, e2⟩ : ∃ a c, v2 = .slice a L2.length c := by obtain ⟨a, c, e, _⟩ := o2.nb; exact ⟨a, c, e⟩
  obtain ⟨g3, i3, e3⟩ : ∃ a c, v3 = .slice a L3.length c := by obtain ⟨a, c, e, _⟩ := o3.nb; exact ⟨a, c, e⟩
  subst e1; subst e2; subst e3
  have HX : Hid (Owb wb wa.heap.size (.slice g1 L1.length i1) L1 ∧ Owb wb wa.heap.size (.slice g2 L2.length i2) L2 ∧ Owb wb wa.heap.size (.slice g3 L3.length i3) L3) := ⟨o1, o2, o3⟩
  have HVb : Hid (Owb wb w1.heap.size (.slice f1 L1.length k1) L1 ∧ Owb wb w1.heap.size (.slice f2 L2.length k2) L2 ∧ Owb wb w1.heap.size (.slice f3 L3.length k3) L3) := ⟨HV.out.1.below Bb (Nat.le_refl _), HV.out.2.1.below Bb (Nat.le_refl _), HV.out.2.2.below Bb (Nat.le_refl _)⟩
  have HBb : Hid (Below wa.heap.size wa wb) := Bb
  have n1 : g1 = none → L1.length = 0 ∧ i1 = 0 := owb_none o1
  have n2 : g2 = none → L2.length = 0 ∧ i2 = 0 := owb_none o2
  have n3 : g3 = none → L3.length = 0 ∧ i3 = 0 := owb_none o3
  clear o1 o2 o3 t1 t2 t3 Bb
  have S1 : Calls Tryz.prog 16 #[.slice f1 L1.length k1, .slice g1 L1.length i1] wb fun e w' => e = .returned (.bool true) ∧ ∃ q, w' = wb.drewN q := by
    have := lsame_any f1 g1 k1 i1 L1 L1 wb (owb_rd HVb.out.1) (owb_rd HX.out.1) (by omega)
    rwa [decide_eq_true rfl] at this
  have S2 : Hid (∀ q, Calls Tryz.prog 16 #[.slice f2 L2.length k2, .slice g2 L2.length i2] (wb.drewN q) fun e w' => e = .returned (.bool true) ∧ ∃ q', w' = (wb.drewN q).drewN q') := fun q => by
    have := lsame_any f2 g2 k2 i2 L2 L2 (wb.drewN q) (owb_rd HVb.out.2.1) (owb_rd HX.out.2.1) (by omega)
    rwa [decide_eq_true rfl] at this
  have S3 : Hid (∀ q, Calls Tryz.prog 16 #[.slice f3 L3.length k3, .slice g3 L3.length i3] (wb.drewN q) fun e w' => e = .returned (.bool true) ∧ ∃ q', w' = (wb.drewN q).drewN q') := fun q => by
    have := lsame_any f3 g3 k3 i3 L3 L3 (wb.drewN q) (owb_rd HVb.out.2.2) (owb_rd HX.out.2.2) (by omega)
    rwa [decide_eq_true rfl] at this
  go_wp2_with fail
  refine S1.mono ?_
  clear S1
  rintro e wx ⟨rfl, qa, rfl⟩
  go_wp2_with fail
  refine (S2.out _).mono ?_
  clear S2
  rintro e wx ⟨rfl, qb, rfl⟩
  rw [World.drewN_drewN]
  go_wp2_with fail
  refine (S3.out _).mono ?_
  clear S3
  rintro e wx ⟨rfl, qc, rfl⟩
  rw [World.drewN_drewN]
  obtain ⟨wc, hwc⟩ : ∃ wc, wb.drewN (qa + qb + qc) = wc := ⟨_, rfl⟩
  have HXc : Hid (Owb wc wa.heap.size (.slice g1 L1.length i1) L1 ∧ Owb wc wa.heap.size (.slice g2 L2.length i2) L2 ∧ Owb wc wa.heap.size (.slice g3 L3.length i3) L3) := by rw [← hwc]; exact HX.out
  have HVc : Hid (Owb wc w1.heap.size (.slice f1 L1.length k1) L1 ∧ Owb wc w1.heap.size (.slice f2 L2.length k2) L2 ∧ Owb wc w1.heap.size (.slice f3 L3.length k3) L3) := by rw [← hwc]; exact HVb.out
  have HBc : Hid (Below wa.heap.size wa wc) := by rw [← hwc]; exact below_drewN HBb.out _
  have HVl : Hid (∀ v, v = Value.slice f1 L1.length k1 ∨ v = Value.slice f2 L2.length k2 ∨ v = Value.slice f3 L3.length k3 → ∀ g, v.ownBlock = some g → w1.heap.size ≤ g ∧ g < wa.heap.size) := fun v h g e => by
    rcases h with rfl | rfl | rfl
    · exact HV.out.1.lt g e
    · exact HV.out.2.1.lt g e
    · exact HV.out.2.2.lt g e
  rw [hwc]
  clear hwc HX HVb HBb HV
  have hn0 : Hid (Owb wc wc.heap.size (.slice none 0 0) []) := Owb.nil _ _
  go_upto_region 9 with (at_builtin; refine append_rdb rfl (.tmp 67) (.tmp 68) rfl wc.heap.size _ [] rfl hn0.out g1 L1.length i1 L1 rfl rfl n1 (owb_rd HXc.out.1) (by rw [List.length_nil]; omega) (Nat.le_refl _) ?_; intro va wd h5 h6)
  rw [List.nil_append] at h5
  have HU1 : Hid (Owb wd wc.heap.size va L1) := h5
  have b1 : Below wc.heap.size wc wd := grown_below h6 (fun g e => by cases e) (Nat.le_refl _)
  have HXd : Hid (Owb wd wa.heap.size (.slice g1 L1.length i1) L1 ∧ Owb wd wa.heap.size (.slice g2 L2.length i2) L2 ∧ Owb wd wa.heap.size (.slice g3 L3.length i3) L3) := ⟨HXc.out.1.below b1 (Nat.le_refl _), HXc.out.2.1.below b1 (Nat.le_refl _), HXc.out.2.2.below b1 (Nat.le_refl _)⟩
  have HVd : Hid (Owb wd w1.heap.size (.slice f1 L1.length k1) L1 ∧ Owb wd w1.heap.size (.slice f2 L2.length k2) L2 ∧ Owb wd w1.heap.size (.slice f3 L3.length k3) L3) := ⟨HVc.out.1.below b1 (Nat.le_refl _), HVc.out.2.1.below b1 (Nat.le_refl _), HVc.out.2.2.below b1 (Nat.le_refl _)⟩
  have HBd : Hid (Below wa.heap.size wa wd) := HBc.out.trans (b1.mono HBc.out.size)
  have hsd : wa.heap.size ≤ wc.heap.size := HBc.out.size
  clear h5 h6 hn0 HXc HVc HBc b1
  obtain ⟨r1, j1, er1⟩ : ∃ a c, va = .slice a L1.length c := by obtain ⟨a, c, e, _⟩ := HU1.out.nb; exact ⟨a, c, e⟩
  subst er1
  have hn0 : Hid (Owb wd wd.heap.size (.slice none 0 0) []) := Owb.nil _ _
  go_upto_region 10 with (at_builtin; refine append_rdb rfl (.tmp 70) (.tmp 71) rfl wd.heap.size _ [] rfl hn0.out g2 L2.length i2 L2 rfl rfl n2 (owb_rd HXd.out.2.1) (by rw [List.length_nil]; omega) (Nat.le_refl _) ?_; intro va we h5 h6)
  rw [List.nil_append] at h5
  have b1 : Below wd.heap.size wd we := grown_below h6 (fun g e => by cases e) (Nat.le_refl _)
  have hse : wa.heap.size ≤ wd.heap.size := HBd.out.size
  have HU2 : Hid (Owb we wa.heap.size (.slice r1 L1.length j1) L1 ∧ Owb we wa.heap.size va L2) := ⟨(HU1.out.below b1 (Nat.le_refl _)).base hsd, h5.base hse⟩
  have HXe : Hid (Owb we wa.heap.size (.slice g1 L1.length i1) L1 ∧ Owb we wa.heap.size (.slice g2 L2.length i2) L2 ∧ Owb we wa.heap.size (.slice g3 L3.length i3) L3) := ⟨HXd.out.1.below b1 (Nat.le_refl _), HXd.out.2.1.below b1 (Nat.le_refl _), HXd.out.2.2.below b1 (Nat.le_refl _)⟩
  have HVe : Hid (Owb we w1.heap.size (.slice f1 L1.length k1) L1 ∧ Owb we w1.heap.size (.slice f2 L2.length k2) L2 ∧ Owb we w1.heap.size (.slice f3 L3.length k3) L3) := ⟨HVd.out.1.below b1 (Nat.le_refl _), HVd.out.2.1.below b1 (Nat.le_refl _), HVd.out.2.2.below b1 (Nat.le_refl _)⟩
  have HBe : Hid (Below wa.heap.size wa we) := HBd.out.trans (b1.mono HBd.out.size)
  clear h5 h6 hn0 HXd HVd HBd b1 HU1
  obtain ⟨r2, j2, er2⟩ : ∃ a c, va = .slice a L2.length c := by obtain ⟨a, c, e, _⟩ := HU2.out.2.nb; exact ⟨a, c, e⟩
  subst er2
  have hn0 : Hid (Owb we we.heap.size (.slice none 0 0) []) := Owb.nil _ _
  go_upto_region 11 with (at_builtin; refine append_rdb rfl (.tmp 73) (.tmp 74) rfl we.heap.size _ [] rfl hn0.out g3 L3.length i3 L3 rfl rfl n3 (owb_rd HXe.out.2.2) (by rw [List.length_nil]; omega) (Nat.le_refl _) ?_; intro va wf h5 h6)
  rw [List.nil_append] at h5
  have b1 : Below we.heap.size we wf := grown_below h6 (fun g e => by cases e) (Nat.le_refl _)
  have hsf : wa.heap.size ≤ we.heap.size := HBe.out.size
  have HBf : Hid (Below wa.heap.size wa wf) := HBe.out.trans (b1.mono HBe.out.size)
  obtain ⟨r3, j3, er3⟩ : ∃ a c, va = .slice a L3.length c := by obtain ⟨a, c, e, _⟩ := h5.nb; exact ⟨a, c, e⟩
  subst er3
  have HKf : Hid (KF wa.heap.size wf (.slice g1 L1.length i1) (.slice g2 L2.length i2) (.slice g3 L3.length i3) (.slice r1 L1.length j1) (.slice r2 L2.length j2) (.slice r3 L3.length j3) L1 L2 L3) :=
    ⟨HXe.out.1.below b1 (Nat.le_refl _), HXe.out.2.1.below b1 (Nat.le_refl _), HXe.out.2.2.below b1 (Nat.le_refl _), HU2.out.1.below b1 (Nat.le_refl _), HU2.out.2.below b1 (Nat.le_refl _), h5.base hsf⟩
  have HVf : Hid (Owb wf w1.heap.size (.slice f1 L1.length k1) L1 ∧ Owb wf w1.heap.size (.slice f2 L2.length k2) L2 ∧ Owb wf w1.heap.size (.slice f3 L3.length k3) L3) := ⟨HVe.out.1.below b1 (Nat.le_refl _), HVe.out.2.1.below b1 (Nat.le_refl _), HVe.out.2.2.below b1 (Nat.le_refl _)⟩
  clear h5 h6 hn0 HXe HVe HBe b1 HU2 hse hsd hsf n1 n2 n3
  go_upto_region 12 with fail
  obtain ⟨gl, hgl⟩ : ∃ gl, wf.heap.size = gl := ⟨_, rfl⟩
  obtain ⟨w3, hw3⟩ : ∃ w3, wf.alloc (.cells #[.slice f1 L1.length k1, .slice f2 L2.length k2, .slice f3 L3.length k3] 30) = w3 := ⟨_, rfl⟩
  have HLl : Hid (Bl 30 w3 gl [.slice f1 L1.length k1, .slice f2 L2.length k2, .slice f3 L3.length k3] ∧ wa.heap.size ≤ gl) := by
    rw [← hw3, ← hgl]
    exact ⟨alloc_bl wf [.slice f1 L1.length k1, .slice f2 L2.length k2, .slice f3 L3.length k3] 30, HBf.out.size⟩
  have hb3 : Below wf.heap.size wf w3 := by rw [← hw3]; exact alloc_below wf _
  have HB3 : Hid (Below wa.heap.size wa w3) := HBf.out.trans (hb3.mono HBf.out.size)
  have HK3 : Hid (KF wa.heap.size w3 (.slice g1 L1.length i1) (.slice g2 L2.length i2) (.slice g3 L3.length i3) (.slice r1 L1.length j1) (.slice r2 L2.length j2) (.slice r3 L3.length j3) L1 L2 L3) := HKf.out.below hb3
  obtain ⟨A, n, C, HF0, HC, hn, HWn⟩ : ∃ A n C, Hid (F1 w1.heap.size wa.heap.size w3 w3 A n C 0 0) ∧ Hid (∀ W, Hi w1.heap.size wa.heap.size w3 W → ∀ i, i < 3 → W.cell? ⟨gl, i, none⟩ = some (.slice (A i) (n i) (C i))) ∧ (∀ i, n i ≤ 100000000) ∧ True := by
    refine ⟨p3 f1 f2 f3, p3 L1.length L2.length L3.length, p3 k1 k2 k3, ⟨p3 L1 L2 L3, ⟨Hi.refl _ _ _, fun j hj => ?_, fun j hj => ?_, fun j k hj hk e => ?_, HB3.out.size⟩, fun j hj => by omega, fun q hq => by omega⟩, fun W hW i hi => ?_, fun i => ?_, trivial⟩
    · match j, hj with
      | 0, _ => exact HVf.out.1.below hb3 (Nat.le_refl _)
      | 1, _ => exact HVf.out.2.1.below hb3 (Nat.le_refl _)
      | 2, _ => exact HVf.out.2.2.below hb3 (Nat.le_refl _)
    · match j, hj with
      | 0, _ => exact HVl.out _ (.inl rfl)
      | 1, _ => exact HVl.out _ (.inr (.inl rfl))
      | 2, _ => exact HVl.out _ (.inr (.inr rfl))
    · match j, hj, k, hk with
      | 0, _, 1, _ => exact HA.out.1
      | 0, _, 2, _ => exact HA.out.2.1
      | 1, _, 2, _ => exact HA.out.2.2
      | 1, _, 0, _ => exact fun g h1 h2 => HA.out.1 g h2 h1
      | 2, _, 0, _ => exact fun g h1 h2 => HA.out.2.1 g h2 h1
      | 2, _, 1, _ => exact fun g h1 h2 => HA.out.2.2 g h2 h1
      | 0, _, 0, _ => exact absurd rfl e
      | 1, _, 1, _ => exact absurd rfl e
      | 2, _, 2, _ => exact absurd rfl e
    · have hb := hW.bl HLl.out.1 HLl.out.2
      match i, hi with
      | 0, _ => exact hb.cell 0 (by simp)
      | 1, _ => exact hb.cell 1 (by simp)
      | 2, _ => exact hb.cell 2 (by simp)
    · match i with
      | 0 => exact s1
      | 1 => exact s2
      | _ + 2 => exact s3
  rw [hw3, hgl]
  clear hw3 HLl hb3 HKf HVf HVl HA HBf hgl HWn
  go_wp2
  go_loopw [15] (fun s wr => ∃ i : Nat, s = .int .i64 (i : Int) ∧ i ≤ 3 ∧ Hid (F1 w1.heap.size wa.heap.size w3 wr A n C i 0)) (fun s _ => 3 - (intOf s).toNat)
  case atStart => exact ⟨0, rfl, by omega, HF0⟩
  case round =>
    clear HF0
    obtain ⟨i, rfl, hi, HF⟩ := hrel
    by_cases hlt : i < 3
    · go_wp2
      go_loopw [16] (fun s wz => ∃ k : Nat, s = .int .i64 (k : Int) ∧ k ≤ n i ∧ Hid (F1 w1.heap.size wa.heap.size w3 wz A n C i k)) (fun s _ => n i - (intOf s).toNat)
      case atStart => exact ⟨0, rfl, by omega, HF⟩
      case round =>
        clear HF
        obtain ⟨k, rfl, hk, HF⟩ := hrel
        have c0 : wr.cell? ⟨gl, i, none⟩ = some (.slice (A i) (n i) (C i)) := HC.out _ HF.out.hi i hlt
        have hni := hn i
        by_cases hlk : k < n i
        · obtain ⟨g, x, eA, hc1, hc2, k0, f0, HF2⟩ := HF.out.step hlt hlk
          rw [mB_val hlt] at HF2
          have HF3 : Hid (F1 w1.heap.size wa.heap.size w3 (wr.setCell ⟨g, k, none⟩ (.int .u8 (1 + (i : Int)))) A n C i (k + 1)) := HF2
          rw [eA] at c0
          clear HF2 eA HF
          go_wp2
          go_roundw
          case rel => exact ⟨k + 1, by go_num, by omega, HF3⟩
          case measure => simp [intOf]; omega
        · have d1 : decide ((k : Int) < (n i : Int)) = false := decide_eq_false (by omega)
          have HF2 : Hid (F1 w1.heap.size wa.heap.size w3 wr A n C (i + 1) 0) := HF.out.next hlt (by omega)
          clear HF
          go_wp2
          go_roundw
          case rel => exact ⟨i + 1, by go_num, by omega, HF2⟩
          case measure => simp [intOf]; omega
    · have HG0 : Hid (F2 w1.heap.size wa.heap.size w3 wr A n C [] (.slice none 0 0)) := ⟨by have e : i = 3 := (by omega); have h := HF.out; rw [e] at h; exact h.done, OL.nil _ _, fun j x hx => by simp at hx⟩
      clear HF
      go_wp2
      clear hlt hi
      go_loopw [17, 18] (fun s17 s18 wr => ∃ (i : Nat) (M : List Value), s18 = .int .i64 (i : Int) ∧ i ≤ 3 ∧ i = M.length ∧ Hid (F2 w1.heap.size wa.heap.size w3 wr A n C M s17)) (fun _ s _ => 3 - (intOf s).toNat)
      case atStart => exact ⟨0, [], rfl, by omega, rfl, HG0⟩
      case round =>
        clear HG0
        obtain ⟨i, M, rfl, hi, hM, HG⟩ := hrel
        obtain ⟨al, cl, el⟩ := HG.out.l.sl
        subst el
        have HMl : Hid (i = M.length) := hM
        clear hM
        obtain ⟨w6, hw6⟩ : ∃ w6, w6 = wr := ⟨_, rfl⟩
        subst hw6
        by_cases hlt : i < 3
        · have c0 : w6.cell? ⟨gl, i, none⟩ = some (.slice (A i) (n i) (C i)) := HC.out _ HG.out.f.hi i hlt
          have hni := hn i
          have d0 : decide ((i : Int) < 3) = true := decide_eq_true (by omega)
          have hz : 11 + (i : Int) = ((nB i).toNat : Int) := (nB_val hlt).symm
          have HM0 : Hid (Mr w6 w6 (.slice (A i) (n i) (C i)) (.slice (A i) (n i) (C i)) (List.replicate (n i) (mB i)) (List.replicate 0 (nB i))) := Mr.start (HG.out.f.o i hlt)
          go_wp2
          go_loopw [19, 20] (fun s19 s20 wz => ∃ k : Nat, s20 = .int .i64 (k : Int) ∧ k ≤ 70 ∧ Hid (Mr w6 wz (.slice (A i) (n i) (C i)) s19 (List.replicate (n i) (mB i)) (List.replicate k (nB i)))) (fun _ s _ => 70 - (intOf s).toNat)
          case atStart => exact ⟨0, rfl, by omega, HM0⟩
          case round =>
            clear HM0
            obtain ⟨k, rfl, hk, HM⟩ := hrel
            obtain ⟨a6, c6, e6⟩ : ∃ a c, u19 = .slice a (n i + k) c := by obtain ⟨a, c, e, _⟩ := HM.out.m.nb; exact ⟨a, c, by simpa using e⟩
            subst e6
            by_cases hlk : k < 70
            · go_wp2_with (at_builtin; (try rw [hz]); refine append_mr rfl (.tmp 118) (.tmp 122) rfl _ _ (List.replicate (n i) (mB i)) (List.replicate k (nB i)) (nB i) rfl HM.out rfl (by simp; omega) ?_; intro v7 w7 h7)
              have HM7 : Hid (Mr w6 w7 (.slice (A i) (n i) (C i)) v7 (List.replicate (n i) (mB i)) (List.replicate (k + 1) (nB i))) := (by rw [← List.replicate_succ'] at h7; exact h7 : Mr w6 w7 (.slice (A i) (n i) (C i)) v7 (List.replicate (n i) (mB i)) (List.replicate (k + 1) (nB i)))
              clear h7 HM
              go_wp2
              go_roundw
              case rel => exact ⟨k + 1, by go_num, by omega, HM7⟩
              case measure => simp [intOf]; omega
            · obtain rfl : k = 70 := by omega
              obtain ⟨w7, hw7⟩ : ∃ w7, w7 = wr := ⟨_, rfl⟩
              subst hw7
              have HG7 : Hid (F2 w1.heap.size wa.heap.size w3 w7 A n C M (.slice al M.length cl)) := HG.out.grow HMl.out hlt HM.out
              have HM7 : Hid (Owb w7 0 (.slice a6 (n i + 70) c6) (List.replicate (n i) (mB i) ++ List.replicate 70 (nB i)) ∧ ((Value.slice a6 (n i + 70) c6).ownBlock = (Value.slice (A i) (n i) (C i)).ownBlock ∨ ∃ g, (Value.slice a6 (n i + 70) c6).ownBlock = some g ∧ wa.heap.size ≤ g)) := ⟨HM.out.m, HM.out.k.imp id fun ⟨g, e, h⟩ => ⟨g, e, by have h1 := HG.out.f.hi.size; have h2 := HG.out.f.s; omega⟩⟩
              have hsz : w3.heap.size ≤ w7.heap.size := HG7.out.f.hi.size
              clear HM HG hlk hk
              go_wp2_with (at_builtin; refine append_ol rfl (.tmp 124) (.tmp 126) rfl w3.heap.size _ M a6 (n i + 70) c6 rfl HG7.out.l rfl (by have := HMl.out; omega) hsz ?_; intro v8 w8 h8 h9)
              have HG8 : Hid (F2 w1.heap.size wa.heap.size w3 w8 A n C (M ++ [.slice a6 (n i + 70) c6]) v8) := HG7.out.app HMl.out HM7.out.1 HM7.out.2 (alloc_below w7 _) h9 h8
              clear h8 h9 HG7 HM7 hsz
              go_wp2
              go_roundw
              case rel => exact ⟨i + 1, _, by go_num, by omega, by have := HMl.out; simp; omega, HG8⟩
              case measure => simp [intOf]; omega
        · have hM3 : M.length = 3 := by have := HMl.out; omega
          clear HMl
          obtain ⟨gL, cL, eL, hL1, hL2, hLc⟩ := HG.out.l.cell (by omega)
          rw [hM3] at eL hL1
          rw [hM3]
          injection eL with eL1 _ eL2
          subst eL1; subst eL2
          have HLc : Hid (∀ j m, M[j]? = some m → w6.cell? ⟨gL, j, none⟩ = some m) := hLc
          have HM3 : Hid (M.length = 3) := hM3
          clear hLc hM3
          go_wp2
          clear hlt hi
          go_loopw [21] (fun s wr => ∃ i q : Nat, s = .int .i64 (i : Int) ∧ i ≤ 3 ∧ wr = w6.drewN q) (fun s _ => 3 - (intOf s).toNat)
          case atStart => exact ⟨0, 0, rfl, by omega, rfl⟩
          case round =>
            obtain ⟨i, q, rfl, hi, rfl⟩ := hrel
            by_cases hlt : i < 3
            · obtain ⟨gm, cm, eM, hm1, hm2, hma, hmb⟩ := HG.out.row HM3.out hlt
              have c0 : w6.cell? ⟨gl, i, none⟩ = some (.slice (A i) (n i) (C i)) := HC.out _ HG.out.f.hi i hlt
              have c1 : w6.cell? ⟨gL, i, none⟩ = some (.slice (some ⟨gm, 0, none⟩) (n i + 70) cm) := HLc.out i _ eM
              have HMa : Hid (∀ k, k < n i → w6.cell? ⟨gm, k, none⟩ = some (.int .u8 (1 + (i : Int)))) := hma
              have HMb : Hid (∀ k, n i ≤ k → k < n i + 70 → w6.cell? ⟨gm, k, none⟩ = some (.int .u8 (11 + (i : Int)))) := hmb
              have hni := hn i
              clear eM hma hmb
              go_wp2
              go_loopw [22] (fun s wr => ∃ k q : Nat, s = .int .i64 (k : Int) ∧ k ≤ n i + 70 ∧ wr = w6.drewN q) (fun s _ => n i + 70 - (intOf s).toNat)
              case atStart => exact ⟨0, _, rfl, by omega, rfl⟩
              case round =>
                obtain ⟨k, q2, rfl, hk, rfl⟩ := hrel
                by_cases hlk : k < n i + 70
                · by_cases hkl : k < n i
                  · have x1 := HMa.out k hkl
                    obtain ⟨gv, eA, hc1, hc2, x2⟩ := HG.out.f.row hlt hkl
                    rw [eA] at c0
                    have q1 : ((1 + (i : Int)) != (1 + (i : Int))) = false := by simp
                    have d2 : decide ((k : Int) ≥ (n i : Int)) = false := decide_eq_false (by omega)
                    have d3 : decide ((k : Int) < (n i : Int)) = true := decide_eq_true (by omega)
                    have d4 : decide ((n i : Int) ≤ (k : Int)) = false := decide_eq_false (by omega)
                    have d5 : decide (k < n i) = true := decide_eq_true hkl
                    have d6 : decide (n i ≤ k) = false := decide_eq_false (by omega)
                    clear eA
                    go_wp2
                    go_roundw
                    case rel => exact ⟨k + 1, _, by go_num, by omega, rfl⟩
                    case measure => simp [intOf]; omega
                  · have x1 := HMb.out k (by omega) hlk
                    have q1 : ((11 + (i : Int)) != (11 + (i : Int))) = false := by simp
                    have d1 : decide ((k : Int) < (n i : Int)) = false := decide_eq_false (by omega)
                    have d2 : decide ((k : Int) ≥ (n i : Int)) = true := decide_eq_true (by omega)
                    have d4 : decide ((n i : Int) ≤ (k : Int)) = true := decide_eq_true (by omega)
                    have d5 : decide (k < n i) = false := decide_eq_false hkl
                    have d6 : decide (n i ≤ k) = true := decide_eq_true (by omega)
                    go_wp2
                    go_roundw
                    case rel => exact ⟨k + 1, _, by go_num, by omega, rfl⟩
                    case measure => simp [intOf]; omega
                · have d1 : decide ((k : Int) < (n i : Int) + 70) = false := decide_eq_false (by omega)
                  go_wp2
                  go_roundw
                  case rel => exact ⟨i + 1, _, by go_num, by omega, rfl⟩
                  case measure => simp [intOf]; omega
            · clear HLc HM3
              obtain ⟨w7, hw7⟩ : ∃ w7, w7 = w6.drewN q := ⟨_, rfl⟩
              have HF7 : Hid (FM w1.heap.size wa.heap.size w3 w7 A n C) := by rw [hw7]; exact HG.out.f.drewN q
              rw [← hw7]
              clear hw7 HG
              have HK7 : Hid (KF wa.heap.size w7 (.slice g1 L1.length i1) (.slice g2 L2.length i2) (.slice g3 L3.length i3) (.slice r1 L1.length j1) (.slice r2 L2.length j2) (.slice r3 L3.length j3) L1 L2 L3) := HK3.out.hi HF7.out.hi
              have S0 : Calls Tryz.prog 16 #[.slice g1 L1.length i1, .slice r1 L1.length j1] w7 fun e w' => e = .returned (.bool true) ∧ ∃ q, w' = w7.drewN q := by
                have := lsame_any g1 r1 i1 j1 L1 L1 w7 (owb_rd HK7.out.x) (owb_rd HK7.out.u) (by omega)
                rwa [decide_eq_true rfl] at this
              have S1 : Hid (∀ q, Calls Tryz.prog 16 #[.slice g2 L2.length i2, .slice r2 L2.length j2] (w7.drewN q) fun e w' => e = .returned (.bool true) ∧ ∃ q', w' = (w7.drewN q).drewN q') := fun q => by
                have := lsame_any g2 r2 i2 j2 L2 L2 (w7.drewN q) (owb_rd (HK7.out.y.drewN q)) (owb_rd (HK7.out.v.drewN q)) (by omega)
                rwa [decide_eq_true rfl] at this
              have S2 : Hid (∀ q, Calls Tryz.prog 16 #[.slice g3 L3.length i3, .slice r3 L3.length j3] (w7.drewN q) fun e w' => e = .returned (.bool true) ∧ ∃ q', w' = (w7.drewN q).drewN q') := fun q => by
                have := lsame_any g3 r3 i3 j3 L3 L3 (w7.drewN q) (owb_rd (HK7.out.z.drewN q)) (owb_rd (HK7.out.w.drewN q)) (by omega)
                rwa [decide_eq_true rfl] at this
              go_wp2_with fail
              refine S0.mono ?_
              clear S0
              rintro e wx ⟨rfl, qS0, rfl⟩
              go_wp2_with fail
              refine (S1.out _).mono ?_
              clear S1
              rintro e wx ⟨rfl, qS1, rfl⟩
              rw [World.drewN_drewN]
              go_wp2_with fail
              refine (S2.out _).mono ?_
              clear S2
              rintro e wx ⟨rfl, qS2, rfl⟩
              rw [World.drewN_drewN]
              clear hlt hi
              obtain ⟨w8, hw8⟩ : ∃ w8, w8 = w7.drewN (qS0 + qS1 + qS2) := ⟨_, rfl⟩
              have HF8 : Hid (FM w1.heap.size wa.heap.size w3 w8 A n C) := by rw [hw8]; exact HF7.out.drewN _
              rw [← hw8]
              clear hw8 HF7 HK7
              have C3 := CD.out w8
              go_wp2_with fail
              refine C3.mono ?_
              clear C3
              rintro e w9 ⟨v1, v2, v3, rfl, o1, o2, o3, B9, t1, t2, t3⟩
              obtain ⟨h1, m1, e1⟩ : ∃ a c, v1 = .slice a L1.length c := by obtain ⟨a, c, e, _⟩ := o1.nb; exact ⟨a, c, e⟩
              obtain ⟨h2, m2, e2⟩ : ∃ a c, v2 = .slice a L2.length c := by obtain ⟨a, c, e, _⟩ := o2.nb; exact ⟨a, c, e⟩
              obtain ⟨h3, m3, e3⟩ : ∃ a c, v3 = .slice a L3.length c := by obtain ⟨a, c, e, _⟩ := o3.nb; exact ⟨a, c, e⟩
              subst e1; subst e2; subst e3
              have HP : Hid (Owb w9 w8.heap.size (.slice h1 L1.length m1) L1 ∧ Owb w9 w8.heap.size (.slice h2 L2.length m2) L2 ∧ Owb w9 w8.heap.size (.slice h3 L3.length m3) L3) := ⟨o1, o2, o3⟩
              have HF9 : Hid (FM w1.heap.size wa.heap.size w3 w9 A n C) := HF8.out.below B9
              have HK9 : Hid (KF wa.heap.size w9 (.slice g1 L1.length i1) (.slice g2 L2.length i2) (.slice g3 L3.length i3) (.slice r1 L1.length j1) (.slice r2 L2.length j2) (.slice r3 L3.length j3) L1 L2 L3) := HK3.out.hi HF9.out.hi
              clear o1 o2 o3 t1 t2 t3 B9 HF8 HK3
              go_wp2
              go_loopw [28] (fun s wr => ∃ i q : Nat, s = .int .i64 (i : Int) ∧ i ≤ 3 ∧ wr = w9.drewN q) (fun s _ => 3 - (intOf s).toNat)
              case atStart => exact ⟨0, 0, rfl, by omega, rfl⟩
              case round =>
                obtain ⟨i, q, rfl, hi, rfl⟩ := hrel
                by_cases hlt : i < 3
                · have c0 : w9.cell? ⟨gl, i, none⟩ = some (.slice (A i) (n i) (C i)) := HC.out _ HF9.out.hi i hlt
                  have hni := hn i
                  have d0 : decide ((i : Int) < 3) = true := decide_eq_true (by omega)
                  go_wp2
                  go_loopw [29] (fun s wr => ∃ k q : Nat, s = .int .i64 (k : Int) ∧ k ≤ n i ∧ wr = w9.drewN q) (fun s _ => n i - (intOf s).toNat)
                  case atStart => exact ⟨0, _, rfl, by omega, rfl⟩
                  case round =>
                    obtain ⟨k, q2, rfl, hk, rfl⟩ := hrel
                    by_cases hkl : k < n i
                    · obtain ⟨gv, eA, hc1, hc2, x2⟩ := HF9.out.row hlt hkl
                      rw [eA] at c0
                      have q1 : ((1 + (i : Int)) != (1 + (i : Int))) = false := by simp
                      have d1 : decide ((k : Int) < (n i : Int)) = true := decide_eq_true (by omega)
                      clear eA
                      go_wp2
                      go_roundw
                      case rel => exact ⟨k + 1, _, by go_num, by omega, rfl⟩
                      case measure => simp [intOf]; omega
                    · have d1 : decide ((k : Int) < (n i : Int)) = false := decide_eq_false (by omega)
                      go_wp2
                      go_roundw
                      case rel => exact ⟨i + 1, _, by go_num, by omega, rfl⟩
                      case measure => simp [intOf]; omega
                · have d0 : decide ((i : Int) < 3) = false := decide_eq_false (by omega)
                  have HBz : Hid (Below w.heap.size w w9) := HB1.out.trans ((HF9.out.hi.to (HBa.out.trans (HB3.out.mono HBa.out.size)) (by have h1 := HBa.out.size; have h2 := HB3.out.size; omega)).mono HB1.out.size)
                  clear HF9 HC HBa HB3 HB1
                  obtain ⟨wz, hwz⟩ : ∃ wz, wz = w9.drewN q := ⟨_, rfl⟩
                  have HPz : Hid (Owb wz w8.heap.size (.slice h1 L1.length m1) L1 ∧ Owb wz w8.heap.size (.slice h2 L2.length m2) L2 ∧ Owb wz w8.heap.size (.slice h3 L3.length m3) L3) := by rw [hwz]; exact HP.out
                  have HKz : Hid (KF wa.heap.size wz (.slice g1 L1.length i1) (.slice g2 L2.length i2) (.slice g3 L3.length i3) (.slice r1 L1.length j1) (.slice r2 L2.length j2) (.slice r3 L3.length j3) L1 L2 L3) := by rw [hwz]; exact HK9.out.below (below_drewN (Below.refl _ _) _)
                  have HBe : Hid (Below w.heap.size w wz) := by rw [hwz]; exact below_drewN HBz.out _
                  rw [← hwz]
                  clear hwz HP HK9 HBz
                  have e5 : ((N : Int) == (N : Int)) = true := by simp
                  have S0 : Calls Tryz.prog 16 #[.slice h1 L1.length m1, .slice r1 L1.length j1] wz fun e w' => e = .returned (.bool true) ∧ ∃ q, w' = wz.drewN q := by
                    have := lsame_any h1 r1 m1 j1 L1 L1 wz (owb_rd HPz.out.1) (owb_rd HKz.out.u) (by omega)
                    rwa [decide_eq_true rfl] at this
                  have S1 : Hid (∀ q, Calls Tryz.prog 16 #[.slice h2 L2.length m2, .slice r2 L2.length j2] (wz.drewN q) fun e w' => e = .returned (.bool true) ∧ ∃ q', w' = (wz.drewN q).drewN q') := fun q => by
                    have := lsame_any h2 r2 m2 j2 L2 L2 (wz.drewN q) (owb_rd (HPz.out.2.1.drewN q)) (owb_rd (HKz.out.v.drewN q)) (by omega)
                    rwa [decide_eq_true rfl] at this
                  have S2 : Hid (∀ q, Calls Tryz.prog 16 #[.slice h3 L3.length m3, .slice r3 L3.length j3] (wz.drewN q) fun e w' => e = .returned (.bool true) ∧ ∃ q', w' = (wz.drewN q).drewN q') := fun q => by
                    have := lsame_any h3 r3 m3 j3 L3 L3 (wz.drewN q) (owb_rd (HPz.out.2.2.drewN q)) (owb_rd (HKz.out.w.drewN q)) (by omega)
                    rwa [decide_eq_true rfl] at this
                  have S3 : Hid (∀ q, Calls Tryz.prog 16 #[.slice g1 L1.length i1, .slice r1 L1.length j1] (wz.drewN q) fun e w' => e = .returned (.bool true) ∧ ∃ q', w' = (wz.drewN q).drewN q') := fun q => by
                    have := lsame_any g1 r1 i1 j1 L1 L1 (wz.drewN q) (owb_rd (HKz.out.x.drewN q)) (owb_rd (HKz.out.u.drewN q)) (by omega)
                    rwa [decide_eq_true rfl] at this
                  have S4 : Hid (∀ q, Calls Tryz.prog 16 #[.slice g2 L2.length i2, .slice r2 L2.length j2] (wz.drewN q) fun e w' => e = .returned (.bool true) ∧ ∃ q', w' = (wz.drewN q).drewN q') := fun q => by
                    have := lsame_any g2 r2 i2 j2 L2 L2 (wz.drewN q) (owb_rd (HKz.out.y.drewN q)) (owb_rd (HKz.out.v.drewN q)) (by omega)
                    rwa [decide_eq_true rfl] at this
                  have S5 : Hid (∀ q, Calls Tryz.prog 16 #[.slice g3 L3.length i3, .slice r3 L3.length j3] (wz.drewN q) fun e w' => e = .returned (.bool true) ∧ ∃ q', w' = (wz.drewN q).drewN q') := fun q => by
                    have := lsame_any g3 r3 i3 j3 L3 L3 (wz.drewN q) (owb_rd (HKz.out.z.drewN q)) (owb_rd (HKz.out.w.drewN q)) (by omega)
                    rwa [decide_eq_true rfl] at this
                  go_wp2_with fail
                  refine S0.mono ?_
                  clear S0
                  rintro e wx ⟨rfl, qS0, rfl⟩
                  go_wp2_with fail
                  refine (S1.out _).mono ?_
                  clear S1
                  rintro e wx ⟨rfl, qS1, rfl⟩
                  rw [World.drewN_drewN]
                  go_wp2_with fail
                  refine (S2.out _).mono ?_
                  clear S2
                  rintro e wx ⟨rfl, qS2, rfl⟩
                  rw [World.drewN_drewN]
                  go_wp2_with fail
                  refine (S3.out _).mono ?_
                  clear S3
                  rintro e wx ⟨rfl, qS3, rfl⟩
                  rw [World.drewN_drewN]
                  go_wp2_with fail
                  refine (S4.out _).mono ?_
                  clear S4
                  rintro e wx ⟨rfl, qS4, rfl⟩
                  rw [World.drewN_drewN]
                  go_wp2_with fail
                  refine (S5.out _).mono ?_
                  clear S5
                  rintro e wx ⟨rfl, qS5, rfl⟩
                  rw [World.drewN_drewN]
                  go_wp2
                  go_ret
                  exact ⟨rfl, below_drewN HBe.out _⟩

end Go.Proofs.YtccfcplhifbjlaaGreatDoor
