import Derived.Test.YtccfcplhifbjlaaGreatDoorTal
import Derived.Test.YtccfcplhifbjlaaGreatDoorTm
namespace Go.Proofs.YtccfcplhifbjlaaGreatDoor
open Go.RowKit Go.Shelf
set_option maxRecDepth 100000

set_option maxHeartbeats 40000000 in
theorem onespell_any (t o : List UInt8) (a1 a2 a3 : Option Addr) (c1 c2 c3 : Nat) (h p s : List UInt8) (w : World) (T : Sha.Tb w) (r1 : Rd w a1 h) (r2 : Rd w a2 p) (r3 : Rd w a3 s) (k1 : h.length ≤ c1) (k2 : p.length ≤ c2) (k3 : s.length ≤ c3) (l1 : h.length ≤ 140737488355328) (l2 : p.length ≤ 140737488355328) (l3 : s.length ≤ 140737488355328) :
    Calls Tryz.prog 5 #[.string ⟨t.toArray⟩, .string ⟨o.toArray⟩, .slice a1 h.length c1, .slice a2 p.length c2, .slice a3 s.length c3] w fun e w' => e = .returned (.bool true) ∧ Below w.heap.size w w' := by
  have CA := alive_any w T
  have CD : Hid (∀ t w, Calls Tryz.prog 14 #[.string ⟨t.toArray⟩] w fun e w' => ∃ v1 v2 v3, e = .returned (.tuple #[v1, v2, v3, .int .i64 ((dcF t).2 : Nat)]) ∧
    Owb w' w.heap.size v1 (dcF t).1.1 ∧ Owb w' w.heap.size v2 (dcF t).1.2.1 ∧ Owb w' w.heap.size v3 (dcF t).1.2.2 ∧ Below w.heap.size w w') := fun t w => (jdecode_any t w).mono fun e w' ⟨v1, v2, v3, e1, o1, o2, o3, b, _⟩ => ⟨v1, v2, v3, e1, o1, o2, o3, b⟩
  have HR : Hid (∀ w', Below w.heap.size w w' → Rd w' a1 h ∧ Rd w' a2 p ∧ Rd w' a3 s) := fun w' hb => ⟨r1.below hb (Nat.le_refl _), r2.below hb (Nat.le_refl _), r3.below hb (Nat.le_refl _)⟩
  have HSM : Hid (¬ 65536 < sgN h + 1 + sgN p + 1 + sgN s → h.length ≤ 65536 ∧ p.length ≤ 65536 ∧ s.length ≤ 65536) := fun hq => by unfold sgN at hq; omega
  clear T r1 r2 r3
  go_enter Tryz.func5, Tryz.ntmps5
  go_wp2_with fail
  refine CA.mono ?_
  clear CA
  rintro e w1 ⟨rfl, B1⟩
  have HB1 : Hid (Below w.heap.size w w1) := B1
  clear B1
  have C1 := CD.out t w1
  by_cases hz : (dcF t).2 = 0
  · obtain ⟨y1, y2, y3, hD⟩ : ∃ y1 y2 y3, dcF t = ((y1, y2, y3), 0) := ⟨(dcF t).1.1, (dcF t).1.2.1, (dcF t).1.2.2, by rw [← hz]⟩
    have hM := cm_dc hD
    have hle := db_le t
    rw [hD] at C1 hle
    simp only at C1 hle
    obtain ⟨m1, m2, m3⟩ := hle
    go_wp2_with fail
    refine C1.mono ?_
    clear C1 hz
    rintro e w2 ⟨v1, v2, v3, rfl, o1, o2, o3, B2⟩
    obtain ⟨f1, j1, rfl, n1, q1⟩ := o1.nb
    obtain ⟨f2, j2, rfl, n2, q2⟩ := o2.nb
    obtain ⟨f3, j3, rfl, n3, q3⟩ := o3.nb
    have K0 := compact_any f1 f2 f3 j1 j2 j3 y1 y2 y3 w2 q1 q2 q3 n1 n2 n3 (by omega) (by omega) (by omega)
    rw [hM] at K0
    simp only at K0
    have HB2 : Hid (Below w.heap.size w w2) := HB1.out.trans (B2.mono HB1.out.size)
    have HY : Hid (∀ w', Below w2.heap.size w2 w' → Rd w' f1 y1 ∧ Rd w' f2 y2 ∧ Rd w' f3 y3) := fun w' hb => ⟨q1.below hb (Nat.le_refl _), q2.below hb (Nat.le_refl _), q3.below hb (Nat.le_refl _)⟩
    clear B2 HB1 o1 o2 o3 q1 q2 q3 n1 n2 n3
    go_wp2_with fail
    refine K0.mono ?_
    clear K0
    rintro e w3 ⟨rfl, B3⟩
    have tne : (t != t) = false := by simp
    have HB3 : Hid (Below w.heap.size w w3) := HB2.out.trans (B3.mono HB2.out.size)
    have HY3 : Hid (∀ w', Below w3.heap.size w3 w' → Rd w' f1 y1 ∧ Rd w' f2 y2 ∧ Rd w' f3 y3) := fun w' hb => HY.out w' (B3.trans (hb.mono B3.size))
    clear B3 HB2 HY
    have C2 := CD.out o w3
    have HTO0 : dcF o = ((y1, y2, y3), 0) → t = o := fun e => by
      have h1 := cm_dc e
      rw [hM] at h1
      simp only [Prod.mk.injEq, and_true] at h1
      exact h1
    clear hM hD
    by_cases hz : (dcF o).2 = 0
    · obtain ⟨z1, z2, z3, hD⟩ : ∃ z1 z2 z3, dcF o = ((z1, z2, z3), 0) := ⟨(dcF o).1.1, (dcF o).1.2.1, (dcF o).1.2.2, by rw [← hz]⟩
      have HTO : Hid (y1 = z1 ∧ y2 = z2 ∧ y3 = z3 → t = o) := fun hh => HTO0 (by rw [hh.1, hh.2.1, hh.2.2]; exact hD)
      rw [hD] at C2
      simp only at C2
      clear hz hD HTO0
      go_wp2_with fail
      refine C2.mono ?_
      clear C2
      rintro e wf ⟨v1, v2, v3, rfl, o1, o2, o3, Bf⟩
      obtain ⟨g1, i1, rfl, _, q1⟩ := o1.nb
      obtain ⟨g2, i2, rfl, _, q2⟩ := o2.nb
      obtain ⟨g3, i3, rfl, _, q3⟩ := o3.nb
      have HB : Hid (Below w.heap.size w wf) := HB3.out.trans (Bf.mono HB3.out.size)
      have HQ : Hid (∀ w', Below wf.heap.size wf w' → Rd w' f1 y1 ∧ Rd w' f2 y2 ∧ Rd w' f3 y3 ∧ Rd w' g1 z1 ∧ Rd w' g2 z2 ∧ Rd w' g3 z3) := fun w' hb => by
        obtain ⟨x1, x2, x3⟩ := HY3.out w' (Bf.trans (hb.mono Bf.size))
        exact ⟨x1, x2, x3, q1.below hb (Nat.le_refl _), q2.below hb (Nat.le_refl _), q3.below hb (Nat.le_refl _)⟩
      clear Bf HB3 HY3 o1 o2 o3 q1 q2 q3
      have S1 := lsame_any f1 g1 j1 i1 y1 z1 wf (HQ.out _ (Below.refl _ _)).1 (HQ.out _ (Below.refl _ _)).2.2.2.1 (by omega)
      go_wp2_with fail
      refine S1.mono ?_
      clear S1
      by_cases q1 : y1 = z1
      · rw [decide_eq_true q1]
        rintro e wg ⟨rfl, qx, rfl⟩
        have HQ2 : Hid (∀ w', Below (wf.drewN qx).heap.size (wf.drewN qx) w' → Rd w' f1 y1 ∧ Rd w' f2 y2 ∧ Rd w' f3 y3 ∧ Rd w' g1 z1 ∧ Rd w' g2 z2 ∧ Rd w' g3 z3) := fun w' hb => HQ.out w' ((below_drewN (Below.refl _ _) qx).trans hb)
        have HB2 : Hid (Below w.heap.size w (wf.drewN qx)) := below_drewN HB.out qx
        clear HQ HB
        generalize wf.drewN qx = wf at *
        have HQ := HQ2
        have HB := HB2
        clear HQ2 HB2
        have S2 := lsame_any f2 g2 j2 i2 y2 z2 wf (HQ.out _ (Below.refl _ _)).2.1 (HQ.out _ (Below.refl _ _)).2.2.2.2.1 (by omega)
        go_wp2_with fail
        refine S2.mono ?_
        clear S2
        by_cases q2 : y2 = z2
        · rw [decide_eq_true q2]
          rintro e wg ⟨rfl, qx, rfl⟩
          have HQ2 : Hid (∀ w', Below (wf.drewN qx).heap.size (wf.drewN qx) w' → Rd w' f1 y1 ∧ Rd w' f2 y2 ∧ Rd w' f3 y3 ∧ Rd w' g1 z1 ∧ Rd w' g2 z2 ∧ Rd w' g3 z3) := fun w' hb => HQ.out w' ((below_drewN (Below.refl _ _) qx).trans hb)
          have HB2 : Hid (Below w.heap.size w (wf.drewN qx)) := below_drewN HB.out qx
          clear HQ HB
          generalize wf.drewN qx = wf at *
          have HQ := HQ2
          have HB := HB2
          clear HQ2 HB2
          have S3 := lsame_any f3 g3 j3 i3 y3 z3 wf (HQ.out _ (Below.refl _ _)).2.2.1 (HQ.out _ (Below.refl _ _)).2.2.2.2.2 (by omega)
          go_wp2_with fail
          refine S3.mono ?_
          clear S3
          by_cases q3 : y3 = z3
          · rw [decide_eq_true q3]
            rintro e wg ⟨rfl, qx, rfl⟩
            have HB2 : Hid (Below w.heap.size w (wf.drewN qx)) := below_drewN HB.out qx
            have hto : t = o := HTO.out ⟨q1, q2, q3⟩
            have hto2 : (t != o) = false := by rw [hto]; simp
            clear HQ HB q1 q2 q3
            generalize wf.drewN qx = wf at *
            have HB := HB2
            clear HB2
            have K1 := compact_any a1 a2 a3 c1 c2 c3 h p s wf (HR.out _ HB.out).1 (HR.out _ HB.out).2.1 (HR.out _ HB.out).2.2 k1 k2 k3 l1 l2 l3
            go_wp2_with fail
            refine K1.mono ?_
            clear K1
            rintro e wc ⟨rfl, Bc⟩
            have HBc : Hid (Below w.heap.size w wc) := HB.out.trans (Bc.mono HB.out.size)
            clear Bc HB
            by_cases hq : 65536 < sgN h + 1 + sgN p + 1 + sgN s
            · have HM : cmF h p s = ([], 10) := if_pos hq
              have hbig := cm_large hq
              have hbig2 : decide (65528 < ((h.length : Int) + p.length + s.length) * 4 / 3) = true := decide_eq_true hbig
              rw [HM]
              clear HM hbig hq CD
              go_wp2
              go_ret
              exact ⟨rfl, HBc.out⟩
            · obtain ⟨tk, HM⟩ : ∃ tk, cmF h p s = (tk, 0) := ⟨_, if_neg hq⟩
              obtain ⟨HD2, htl⟩ := dc_cm HM
              have C9 := CD.out tk wc
              rw [HD2] at C9
              rw [HM]
              clear HM HD2 CD
              simp only at C9 ⊢
              have hd2 : decide ((tk.length : Int) ≤ 65536) = true := decide_eq_true (by omega)
              have hsm : h.length ≤ 65536 ∧ p.length ≤ 65536 ∧ s.length ≤ 65536 := HSM.out hq
              go_wp2_with fail
              refine C9.mono ?_
              clear C9
              rintro e wd ⟨u1, u2, u3, rfl, o1, o2, o3, Bd⟩
              obtain ⟨f4, j4, rfl, _, q1⟩ := o1.nb
              obtain ⟨f5, j5, rfl, _, q2⟩ := o2.nb
              obtain ⟨f6, j6, rfl, _, q3⟩ := o3.nb
              have HBd : Hid (Below w.heap.size w wd) := HBc.out.trans (Bd.mono HBc.out.size)
              obtain ⟨y1, y2, y3⟩ := HR.out wd HBd.out
              have S1 : Calls Tryz.prog 16 #[.slice f4 h.length j4, .slice a1 h.length c1] wd fun e w' => e = .returned (.bool true) ∧ ∃ q, w' = wd.drewN q := by
                have := lsame_any f4 a1 j4 c1 h h wd q1 y1 (by omega)
                rwa [decide_eq_true rfl] at this
              have S2 : Hid (∀ q, Calls Tryz.prog 16 #[.slice f5 p.length j5, .slice a2 p.length c2] (wd.drewN q) fun e w' => e = .returned (.bool true) ∧ ∃ q', w' = (wd.drewN q).drewN q') := fun q => by
                have := lsame_any f5 a2 j5 c2 p p (wd.drewN q) q2 y2 (by omega)
                rwa [decide_eq_true rfl] at this
              have S3 : Hid (∀ q, Calls Tryz.prog 16 #[.slice f6 s.length j6, .slice a3 s.length c3] (wd.drewN q) fun e w' => e = .returned (.bool true) ∧ ∃ q', w' = (wd.drewN q).drewN q') := fun q => by
                have := lsame_any f6 a3 j6 c3 s s (wd.drewN q) q3 y3 (by omega)
                rwa [decide_eq_true rfl] at this
              clear o1 o2 o3 q1 q2 q3 y1 y2 y3 Bd HBc
              go_wp2_with fail
              refine S1.mono ?_
              clear S1
              rintro e we ⟨rfl, qa, rfl⟩
              go_wp2_with fail
              refine (S2.out _).mono ?_
              clear S2
              rintro e we ⟨rfl, qb, rfl⟩
              go_wp2_with fail
              refine (S3.out _).mono ?_
              clear S3
              rintro e we ⟨rfl, qc, rfl⟩
              go_wp2
              go_ret
              exact ⟨rfl, below_drewN HBd.out _⟩
          · rw [decide_eq_false q3]
            rintro e wg ⟨rfl, qx, rfl⟩
            have HB2 : Hid (Below w.heap.size w (wf.drewN qx)) := below_drewN HB.out qx
            clear HQ HB
            generalize wf.drewN qx = wf at *
            have HB := HB2
            clear HB2
            have K1 := compact_any a1 a2 a3 c1 c2 c3 h p s wf (HR.out _ HB.out).1 (HR.out _ HB.out).2.1 (HR.out _ HB.out).2.2 k1 k2 k3 l1 l2 l3
            go_wp2_with fail
            refine K1.mono ?_
            clear K1
            rintro e wc ⟨rfl, Bc⟩
            have HBc : Hid (Below w.heap.size w wc) := HB.out.trans (Bc.mono HB.out.size)
            clear Bc HB
            by_cases hq : 65536 < sgN h + 1 + sgN p + 1 + sgN s
            · have HM : cmF h p s = ([], 10) := if_pos hq
              have hbig := cm_large hq
              have hbig2 : decide (65528 < ((h.length : Int) + p.length + s.length) * 4 / 3) = true := decide_eq_true hbig
              rw [HM]
              clear HM hbig hq CD
              go_wp2
              go_ret
              exact ⟨rfl, HBc.out⟩
            · obtain ⟨tk, HM⟩ : ∃ tk, cmF h p s = (tk, 0) := ⟨_, if_neg hq⟩
              obtain ⟨HD2, htl⟩ := dc_cm HM
              have C9 := CD.out tk wc
              rw [HD2] at C9
              rw [HM]
              clear HM HD2 CD
              simp only at C9 ⊢
              have hd2 : decide ((tk.length : Int) ≤ 65536) = true := decide_eq_true (by omega)
              have hsm : h.length ≤ 65536 ∧ p.length ≤ 65536 ∧ s.length ≤ 65536 := HSM.out hq
              go_wp2_with fail
              refine C9.mono ?_
              clear C9
              rintro e wd ⟨u1, u2, u3, rfl, o1, o2, o3, Bd⟩
              obtain ⟨f4, j4, rfl, _, q1⟩ := o1.nb
              obtain ⟨f5, j5, rfl, _, q2⟩ := o2.nb
              obtain ⟨f6, j6, rfl, _, q3⟩ := o3.nb
              have HBd : Hid (Below w.heap.size w wd) := HBc.out.trans (Bd.mono HBc.out.size)
              obtain ⟨y1, y2, y3⟩ := HR.out wd HBd.out
              have S1 : Calls Tryz.prog 16 #[.slice f4 h.length j4, .slice a1 h.length c1] wd fun e w' => e = .returned (.bool true) ∧ ∃ q, w' = wd.drewN q := by
                have := lsame_any f4 a1 j4 c1 h h wd q1 y1 (by omega)
                rwa [decide_eq_true rfl] at this
              have S2 : Hid (∀ q, Calls Tryz.prog 16 #[.slice f5 p.length j5, .slice a2 p.length c2] (wd.drewN q) fun e w' => e = .returned (.bool true) ∧ ∃ q', w' = (wd.drewN q).drewN q') := fun q => by
                have := lsame_any f5 a2 j5 c2 p p (wd.drewN q) q2 y2 (by omega)
                rwa [decide_eq_true rfl] at this
              have S3 : Hid (∀ q, Calls Tryz.prog 16 #[.slice f6 s.length j6, .slice a3 s.length c3] (wd.drewN q) fun e w' => e = .returned (.bool true) ∧ ∃ q', w' = (wd.drewN q).drewN q') := fun q => by
                have := lsame_any f6 a3 j6 c3 s s (wd.drewN q) q3 y3 (by omega)
                rwa [decide_eq_true rfl] at this
              clear o1 o2 o3 q1 q2 q3 y1 y2 y3 Bd HBc
              go_wp2_with fail
              refine S1.mono ?_
              clear S1
              rintro e we ⟨rfl, qa, rfl⟩
              go_wp2_with fail
              refine (S2.out _).mono ?_
              clear S2
              rintro e we ⟨rfl, qb, rfl⟩
              go_wp2_with fail
              refine (S3.out _).mono ?_
              clear S3
              rintro e we ⟨rfl, qc, rfl⟩
              go_wp2
              go_ret
              exact ⟨rfl, below_drewN HBd.out _⟩
        · rw [decide_eq_false q2]
          rintro e wg ⟨rfl, qx, rfl⟩
          have HB2 : Hid (Below w.heap.size w (wf.drewN qx)) := below_drewN HB.out qx
          clear HQ HB
          generalize wf.drewN qx = wf at *
          have HB := HB2
          clear HB2
          have K1 := compact_any a1 a2 a3 c1 c2 c3 h p s wf (HR.out _ HB.out).1 (HR.out _ HB.out).2.1 (HR.out _ HB.out).2.2 k1 k2 k3 l1 l2 l3
          go_wp2_with fail
          refine K1.mono ?_
          clear K1
          rintro e wc ⟨rfl, Bc⟩
          have HBc : Hid (Below w.heap.size w wc) := HB.out.trans (Bc.mono HB.out.size)
          clear Bc HB
          by_cases hq : 65536 < sgN h + 1 + sgN p + 1 + sgN s
          · have HM : cmF h p s = ([], 10) := if_pos hq
            have hbig := cm_large hq
            have hbig2 : decide (65528 < ((h.length : Int) + p.length + s.length) * 4 / 3) = true := decide_eq_true hbig
            rw [HM]
            clear HM hbig hq CD
            go_wp2
            go_ret
            exact ⟨rfl, HBc.out⟩
          · obtain ⟨tk, HM⟩ : ∃ tk, cmF h p s = (tk, 0) := ⟨_, if_neg hq⟩
            obtain ⟨HD2, htl⟩ := dc_cm HM
            have C9 := CD.out tk wc
            rw [HD2] at C9
            rw [HM]
            clear HM HD2 CD
            simp only at C9 ⊢
            have hd2 : decide ((tk.length : Int) ≤ 65536) = true := decide_eq_true (by omega)
            have hsm : h.length ≤ 65536 ∧ p.length ≤ 65536 ∧ s.length ≤ 65536 := HSM.out hq
            go_wp2_with fail
            refine C9.mono ?_
            clear C9
            rintro e wd ⟨u1, u2, u3, rfl, o1, o2, o3, Bd⟩
            obtain ⟨f4, j4, rfl, _, q1⟩ := o1.nb
            obtain ⟨f5, j5, rfl, _, q2⟩ := o2.nb
            obtain ⟨f6, j6, rfl, _, q3⟩ := o3.nb
            have HBd : Hid (Below w.heap.size w wd) := HBc.out.trans (Bd.mono HBc.out.size)
            obtain ⟨y1, y2, y3⟩ := HR.out wd HBd.out
            have S1 : Calls Tryz.prog 16 #[.slice f4 h.length j4, .slice a1 h.length c1] wd fun e w' => e = .returned (.bool true) ∧ ∃ q, w' = wd.drewN q := by
              have := lsame_any f4 a1 j4 c1 h h wd q1 y1 (by omega)
              rwa [decide_eq_true rfl] at this
            have S2 : Hid (∀ q, Calls Tryz.prog 16 #[.slice f5 p.length j5, .slice a2 p.length c2] (wd.drewN q) fun e w' => e = .returned (.bool true) ∧ ∃ q', w' = (wd.drewN q).drewN q') := fun q => by
              have := lsame_any f5 a2 j5 c2 p p (wd.drewN q) q2 y2 (by omega)
              rwa [decide_eq_true rfl] at this
            have S3 : Hid (∀ q, Calls Tryz.prog 16 #[.slice f6 s.length j6, .slice a3 s.length c3] (wd.drewN q) fun e w' => e = .returned (.bool true) ∧ ∃ q', w' = (wd.drewN q).drewN q') := fun q => by
              have := lsame_any f6 a3 j6 c3 s s (wd.drewN q) q3 y3 (by omega)
              rwa [decide_eq_true rfl] at this
            clear o1 o2 o3 q1 q2 q3 y1 y2 y3 Bd HBc
            go_wp2_with fail
            refine S1.mono ?_
            clear S1
            rintro e we ⟨rfl, qa, rfl⟩
            go_wp2_with fail
            refine (S2.out _).mono ?_
            clear S2
            rintro e we ⟨rfl, qb, rfl⟩
            go_wp2_with fail
            refine (S3.out _).mono ?_
            clear S3
            rintro e we ⟨rfl, qc, rfl⟩
            go_wp2
            go_ret
            exact ⟨rfl, below_drewN HBd.out _⟩
      · rw [decide_eq_false q1]
        rintro e wg ⟨rfl, qx, rfl⟩
        have HB2 : Hid (Below w.heap.size w (wf.drewN qx)) := below_drewN HB.out qx
        clear HQ HB
        generalize wf.drewN qx = wf at *
        have HB := HB2
        clear HB2
        have K1 := compact_any a1 a2 a3 c1 c2 c3 h p s wf (HR.out _ HB.out).1 (HR.out _ HB.out).2.1 (HR.out _ HB.out).2.2 k1 k2 k3 l1 l2 l3
        go_wp2_with fail
        refine K1.mono ?_
        clear K1
        rintro e wc ⟨rfl, Bc⟩
        have HBc : Hid (Below w.heap.size w wc) := HB.out.trans (Bc.mono HB.out.size)
        clear Bc HB
        by_cases hq : 65536 < sgN h + 1 + sgN p + 1 + sgN s
        · have HM : cmF h p s = ([], 10) := if_pos hq
          have hbig := cm_large hq
          have hbig2 : decide (65528 < ((h.length : Int) + p.length + s.length) * 4 / 3) = true := decide_eq_true hbig
          rw [HM]
          clear HM hbig hq CD
          go_wp2
          go_ret
          exact ⟨rfl, HBc.out⟩
        · obtain ⟨tk, HM⟩ : ∃ tk, cmF h p s = (tk, 0) := ⟨_, if_neg hq⟩
          obtain ⟨HD2, htl⟩ := dc_cm HM
          have C9 := CD.out tk wc
          rw [HD2] at C9
          rw [HM]
          clear HM HD2 CD
          simp only at C9 ⊢
          have hd2 : decide ((tk.length : Int) ≤ 65536) = true := decide_eq_true (by omega)
          have hsm : h.length ≤ 65536 ∧ p.length ≤ 65536 ∧ s.length ≤ 65536 := HSM.out hq
          go_wp2_with fail
          refine C9.mono ?_
          clear C9
          rintro e wd ⟨u1, u2, u3, rfl, o1, o2, o3, Bd⟩
          obtain ⟨f4, j4, rfl, _, q1⟩ := o1.nb
          obtain ⟨f5, j5, rfl, _, q2⟩ := o2.nb
          obtain ⟨f6, j6, rfl, _, q3⟩ := o3.nb
          have HBd : Hid (Below w.heap.size w wd) := HBc.out.trans (Bd.mono HBc.out.size)
          obtain ⟨y1, y2, y3⟩ := HR.out wd HBd.out
          have S1 : Calls Tryz.prog 16 #[.slice f4 h.length j4, .slice a1 h.length c1] wd fun e w' => e = .returned (.bool true) ∧ ∃ q, w' = wd.drewN q := by
            have := lsame_any f4 a1 j4 c1 h h wd q1 y1 (by omega)
            rwa [decide_eq_true rfl] at this
          have S2 : Hid (∀ q, Calls Tryz.prog 16 #[.slice f5 p.length j5, .slice a2 p.length c2] (wd.drewN q) fun e w' => e = .returned (.bool true) ∧ ∃ q', w' = (wd.drewN q).drewN q') := fun q => by
            have := lsame_any f5 a2 j5 c2 p p (wd.drewN q) q2 y2 (by omega)
            rwa [decide_eq_true rfl] at this
          have S3 : Hid (∀ q, Calls Tryz.prog 16 #[.slice f6 s.length j6, .slice a3 s.length c3] (wd.drewN q) fun e w' => e = .returned (.bool true) ∧ ∃ q', w' = (wd.drewN q).drewN q') := fun q => by
            have := lsame_any f6 a3 j6 c3 s s (wd.drewN q) q3 y3 (by omega)
            rwa [decide_eq_true rfl] at this
          clear o1 o2 o3 q1 q2 q3 y1 y2 y3 Bd HBc
          go_wp2_with fail
          refine S1.mono ?_
          clear S1
          rintro e we ⟨rfl, qa, rfl⟩
          go_wp2_with fail
          refine (S2.out _).mono ?_
          clear S2
          rintro e we ⟨rfl, qb, rfl⟩
          go_wp2_with fail
          refine (S3.out _).mono ?_
          clear S3
          rintro e we ⟨rfl, qc, rfl⟩
          go_wp2
          go_ret
          exact ⟨rfl, below_drewN HBd.out _⟩
    · have hz2 : (((dcF o).2 : Nat) : Int) ≠ 0 := by omega
      generalize dcF o = D at *
      obtain ⟨⟨z1, z2, z3⟩, n⟩ := D
      simp only at C2 hz2
      have hz3 : ((n : Int) == 0) = false := by simpa using hz2
      go_wp2_with fail
      refine C2.mono ?_
      clear C2 hz hz2 HTO0
      rintro e wf ⟨v1, v2, v3, rfl, o1, o2, o3, Bf⟩
      obtain ⟨g1, i1, rfl, _, q1⟩ := o1.nb
      obtain ⟨g2, i2, rfl, _, q2⟩ := o2.nb
      obtain ⟨g3, i3, rfl, _, q3⟩ := o3.nb
      have HB : Hid (Below w.heap.size w wf) := HB3.out.trans (Bf.mono HB3.out.size)
      clear Bf HB3 HY3 o1 o2 o3 q1 q2 q3
      have K1 := compact_any a1 a2 a3 c1 c2 c3 h p s wf (HR.out _ HB.out).1 (HR.out _ HB.out).2.1 (HR.out _ HB.out).2.2 k1 k2 k3 l1 l2 l3
      go_wp2_with fail
      refine K1.mono ?_
      clear K1
      rintro e wc ⟨rfl, Bc⟩
      have HBc : Hid (Below w.heap.size w wc) := HB.out.trans (Bc.mono HB.out.size)
      clear Bc HB
      by_cases hq : 65536 < sgN h + 1 + sgN p + 1 + sgN s
      · have HM : cmF h p s = ([], 10) := if_pos hq
        have hbig := cm_large hq
        have hbig2 : decide (65528 < ((h.length : Int) + p.length + s.length) * 4 / 3) = true := decide_eq_true hbig
        rw [HM]
        clear HM hbig hq CD
        go_wp2
        go_ret
        exact ⟨rfl, HBc.out⟩
      · obtain ⟨tk, HM⟩ : ∃ tk, cmF h p s = (tk, 0) := ⟨_, if_neg hq⟩
        obtain ⟨HD2, htl⟩ := dc_cm HM
        have C9 := CD.out tk wc
        rw [HD2] at C9
        rw [HM]
        clear HM HD2 CD
        simp only at C9 ⊢
        have hd2 : decide ((tk.length : Int) ≤ 65536) = true := decide_eq_true (by omega)
        have hsm : h.length ≤ 65536 ∧ p.length ≤ 65536 ∧ s.length ≤ 65536 := HSM.out hq
        go_wp2_with fail
        refine C9.mono ?_
        clear C9
        rintro e wd ⟨u1, u2, u3, rfl, o1, o2, o3, Bd⟩
        obtain ⟨f4, j4, rfl, _, q1⟩ := o1.nb
        obtain ⟨f5, j5, rfl, _, q2⟩ := o2.nb
        obtain ⟨f6, j6, rfl, _, q3⟩ := o3.nb
        have HBd : Hid (Below w.heap.size w wd) := HBc.out.trans (Bd.mono HBc.out.size)
        obtain ⟨y1, y2, y3⟩ := HR.out wd HBd.out
        have S1 : Calls Tryz.prog 16 #[.slice f4 h.length j4, .slice a1 h.length c1] wd fun e w' => e = .returned (.bool true) ∧ ∃ q, w' = wd.drewN q := by
          have := lsame_any f4 a1 j4 c1 h h wd q1 y1 (by omega)
          rwa [decide_eq_true rfl] at this
        have S2 : Hid (∀ q, Calls Tryz.prog 16 #[.slice f5 p.length j5, .slice a2 p.length c2] (wd.drewN q) fun e w' => e = .returned (.bool true) ∧ ∃ q', w' = (wd.drewN q).drewN q') := fun q => by
          have := lsame_any f5 a2 j5 c2 p p (wd.drewN q) q2 y2 (by omega)
          rwa [decide_eq_true rfl] at this
        have S3 : Hid (∀ q, Calls Tryz.prog 16 #[.slice f6 s.length j6, .slice a3 s.length c3] (wd.drewN q) fun e w' => e = .returned (.bool true) ∧ ∃ q', w' = (wd.drewN q).drewN q') := fun q => by
          have := lsame_any f6 a3 j6 c3 s s (wd.drewN q) q3 y3 (by omega)
          rwa [decide_eq_true rfl] at this
        clear o1 o2 o3 q1 q2 q3 y1 y2 y3 Bd HBc
        go_wp2_with fail
        refine S1.mono ?_
        clear S1
        rintro e we ⟨rfl, qa, rfl⟩
        go_wp2_with fail
        refine (S2.out _).mono ?_
        clear S2
        rintro e we ⟨rfl, qb, rfl⟩
        go_wp2_with fail
        refine (S3.out _).mono ?_
        clear S3
        rintro e we ⟨rfl, qc, rfl⟩
        go_wp2
        go_ret
        exact ⟨rfl, below_drewN HBd.out _⟩
  · obtain ⟨n, hD, hn⟩ := dc_no hz
    rw [hD] at C1
    simp only at C1
    clear hz hD
    go_wp2_with fail
    refine C1.mono ?_
    clear C1
    rintro e wf ⟨v1, v2, v3, rfl, o1, o2, o3, Bf⟩
    obtain ⟨g1, i1, rfl, _, q1⟩ := o1.nb
    obtain ⟨g2, i2, rfl, _, q2⟩ := o2.nb
    obtain ⟨g3, i3, rfl, _, q3⟩ := o3.nb
    have HB : Hid (Below w.heap.size w wf) := HB1.out.trans (Bf.mono HB1.out.size)
    clear Bf HB1 o1 o2 o3 q1 q2 q3
    rcases hn with rfl | rfl | rfl | rfl | rfl
    all_goals
      have K1 := compact_any a1 a2 a3 c1 c2 c3 h p s wf (HR.out _ HB.out).1 (HR.out _ HB.out).2.1 (HR.out _ HB.out).2.2 k1 k2 k3 l1 l2 l3
      go_wp2_with fail
      refine K1.mono ?_
      clear K1
      rintro e wc ⟨rfl, Bc⟩
      have HBc : Hid (Below w.heap.size w wc) := HB.out.trans (Bc.mono HB.out.size)
      clear Bc HB
      by_cases hq : 65536 < sgN h + 1 + sgN p + 1 + sgN s
      · have HM : cmF h p s = ([], 10) := if_pos hq
        have hbig := cm_large hq
        have hbig2 : decide (65528 < ((h.length : Int) + p.length + s.length) * 4 / 3) = true := decide_eq_true hbig
        rw [HM]
        clear HM hbig hq CD
        go_wp2
        go_ret
        exact ⟨rfl, HBc.out⟩
      · obtain ⟨tk, HM⟩ : ∃ tk, cmF h p s = (tk, 0) := ⟨_, if_neg hq⟩
        obtain ⟨HD2, htl⟩ := dc_cm HM
        have C9 := CD.out tk wc
        rw [HD2] at C9
        rw [HM]
        clear HM HD2 CD
        simp only at C9 ⊢
        have hd2 : decide ((tk.length : Int) ≤ 65536) = true := decide_eq_true (by omega)
        have hsm : h.length ≤ 65536 ∧ p.length ≤ 65536 ∧ s.length ≤ 65536 := HSM.out hq
        go_wp2_with fail
        refine C9.mono ?_
        clear C9
        rintro e wd ⟨u1, u2, u3, rfl, o1, o2, o3, Bd⟩
        obtain ⟨f4, j4, rfl, _, q1⟩ := o1.nb
        obtain ⟨f5, j5, rfl, _, q2⟩ := o2.nb
        obtain ⟨f6, j6, rfl, _, q3⟩ := o3.nb
        have HBd : Hid (Below w.heap.size w wd) := HBc.out.trans (Bd.mono HBc.out.size)
        obtain ⟨y1, y2, y3⟩ := HR.out wd HBd.out
        have S1 : Calls Tryz.prog 16 #[.slice f4 h.length j4, .slice a1 h.length c1] wd fun e w' => e = .returned (.bool true) ∧ ∃ q, w' = wd.drewN q := by
          have := lsame_any f4 a1 j4 c1 h h wd q1 y1 (by omega)
          rwa [decide_eq_true rfl] at this
        have S2 : Hid (∀ q, Calls Tryz.prog 16 #[.slice f5 p.length j5, .slice a2 p.length c2] (wd.drewN q) fun e w' => e = .returned (.bool true) ∧ ∃ q', w' = (wd.drewN q).drewN q') := fun q => by
          have := lsame_any f5 a2 j5 c2 p p (wd.drewN q) q2 y2 (by omega)
          rwa [decide_eq_true rfl] at this
        have S3 : Hid (∀ q, Calls Tryz.prog 16 #[.slice f6 s.length j6, .slice a3 s.length c3] (wd.drewN q) fun e w' => e = .returned (.bool true) ∧ ∃ q', w' = (wd.drewN q).drewN q') := fun q => by
          have := lsame_any f6 a3 j6 c3 s s (wd.drewN q) q3 y3 (by omega)
          rwa [decide_eq_true rfl] at this
        clear o1 o2 o3 q1 q2 q3 y1 y2 y3 Bd HBc
        go_wp2_with fail
        refine S1.mono ?_
        clear S1
        rintro e we ⟨rfl, qa, rfl⟩
        go_wp2_with fail
        refine (S2.out _).mono ?_
        clear S2
        rintro e we ⟨rfl, qb, rfl⟩
        go_wp2_with fail
        refine (S3.out _).mono ?_
        clear S3
        rintro e we ⟨rfl, qc, rfl⟩
        go_wp2
        go_ret
        exact ⟨rfl, below_drewN HBd.out _⟩

end Go.Proofs.YtccfcplhifbjlaaGreatDoor
