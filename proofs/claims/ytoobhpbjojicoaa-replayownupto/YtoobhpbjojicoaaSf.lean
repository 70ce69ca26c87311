import Derived.Test.YtoobhpbjojicoaaSe
namespace Go.Proofs.Ytoobhpbjojicoaa
open Go.RowKit Go.Maps
set_option maxRecDepth 100000

set_option maxHeartbeats 40000000 in
theorem own_any (aos : Option Addr) (cos : Nat) (os : List Stp) (am : Option Addr) (cm : Nat) (ms : List Stp) (w : World) (hro0 : RdO w aos os) (hol : os.length ≤ 10000000) (hos0 : ∀ s ∈ os, StpOk s) (hrm0 : RdO w am ms) (_ : ms.length ≤ 10000000) (hms0 : ∀ s ∈ ms, StpOk s) :
    Calls Try.prog 3 #[.slice aos os.length cos, .slice am ms.length cm] w fun e w' => e = .returned (.bool true) ∧ Below w.heap.size w w' := by
  have hro : Hid (RdO w aos os) := hro0
  have hos : Hid (∀ s ∈ os, StpOk s) := hos0
  have hrm : Hid (RdO w am ms) := hrm0
  have hms : Hid (∀ s ∈ ms, StpOk s) := hms0
  clear hro0 hos0 hrm0 hms0
  go_enter Try.func3, Try.ntmps3
  go_wp2_with fail
  refine (started_any w).mono ?_
  rintro e w1 ⟨rfl, hbel1⟩
  have hb1 : Hid (Below w.heap.size w w1) := hbel1
  clear hbel1
  go_wp2_with fail
  refine (new_any w1).mono ?_
  rintro e w2 ⟨ba, ma, rfl, hB2', hbel2, hba', hma'⟩
  have hs1 := hb1.out.size
  have hba : w.heap.size ≤ ba := by omega
  have hma : w.heap.size ≤ ma := by omega
  have hN0 : Hid (Bok w2 ba ma ⟨false, 0, []⟩) := hB2'
  have hb2 : Hid (Below w.heap.size w w2) := hb1.out.trans (hbel2.mono hb1.out.size)
  clear hB2' hbel2 hba' hma' hs1 hb1
  go_wp2_with fail
  refine (new_any w2).mono ?_
  rintro e w3 ⟨bl, ml, rfl, hB3', hbel3, hbl', hml'⟩
  have hs2 := hb2.out.size
  have hbl : w.heap.size ≤ bl := by omega
  have hml : w.heap.size ≤ ml := by omega
  have hN1 : Hid (Bok w3 bl ml ⟨false, 0, []⟩) := hB3'
  have hb3 : Hid (Below w.heap.size w w3) := hb2.out.trans (hbel3.mono hb2.out.size)
  have lt_ba_bl := hN0.out.lt
  have lt_ma_bl := hN0.out.lt2
  have hN0y : Hid (Bok w3 ba ma ⟨false, 0, []⟩) := hN0.out.below hbel3 hN0.out.lt hN0.out.lt2
  clear hN0
  have hN0x : Hid (Bok w3 ba ma ⟨false, 0, []⟩) := hN0y
  clear hN0y
  have s1_ba_bl : ba ≠ bl := by omega
  have s2_ba_bl : ba ≠ ml := by omega
  have s3_ba_bl : ma ≠ bl := by omega
  have s4_ba_bl : ma ≠ ml := by omega
  clear lt_ba_bl lt_ma_bl
  clear hB3' hbel3 hbl' hml' hs2 hb2
  go_wp2_with fail
  refine (new_any w3).mono ?_
  rintro e w4 ⟨bb, mb, rfl, hB4', hbel4, hbb', hmb'⟩
  have hs3 := hb3.out.size
  have hbb : w.heap.size ≤ bb := by omega
  have hmb : w.heap.size ≤ mb := by omega
  have hN2 : Hid (Bok w4 bb mb ⟨false, 0, []⟩) := hB4'
  have hb4 : Hid (Below w.heap.size w w4) := hb3.out.trans (hbel4.mono hb3.out.size)
  have lt_ba_bb := hN0x.out.lt
  have lt_ma_bb := hN0x.out.lt2
  have hN0y : Hid (Bok w4 ba ma ⟨false, 0, []⟩) := hN0x.out.below hbel4 hN0x.out.lt hN0x.out.lt2
  clear hN0x
  have hN0x : Hid (Bok w4 ba ma ⟨false, 0, []⟩) := hN0y
  clear hN0y
  have s1_ba_bb : ba ≠ bb := by omega
  have s2_ba_bb : ba ≠ mb := by omega
  have s3_ba_bb : ma ≠ bb := by omega
  have s4_ba_bb : ma ≠ mb := by omega
  clear lt_ba_bb lt_ma_bb
  have lt_bl_bb := hN1.out.lt
  have lt_ml_bb := hN1.out.lt2
  have hN1y : Hid (Bok w4 bl ml ⟨false, 0, []⟩) := hN1.out.below hbel4 hN1.out.lt hN1.out.lt2
  clear hN1
  have hN1x : Hid (Bok w4 bl ml ⟨false, 0, []⟩) := hN1y
  clear hN1y
  have s1_bl_bb : bl ≠ bb := by omega
  have s2_bl_bb : bl ≠ mb := by omega
  have s3_bl_bb : ml ≠ bb := by omega
  have s4_bl_bb : ml ≠ mb := by omega
  clear lt_bl_bb lt_ml_bb
  clear hB4' hbel4 hbb' hmb' hs3 hb3
  go_wp2_with fail
  go_loopw [8] (fun s wr => ∃ (k : Nat) (A D : Bk), s = .int .i64 (k : Int) ∧ k ≤ os.length ∧ Bok wr ba ma A ∧ Bok wr bl ml A ∧ Bok wr bb mb D ∧ BkOk A ∧ BkOk D ∧ Below w.heap.size w wr) (fun s _ => os.length - (intOf s).toNat)
  case atStart => exact ⟨0, ⟨false, 0, []⟩, ⟨false, 0, []⟩, rfl, Nat.zero_le _, hN0x.out, hN1x.out, hN2.out, bk0_ok, bk0_ok, hb4.out⟩
  case round =>
    obtain ⟨k, A, D, rfl, hk, hA', hL', hD', hKA', hKD', hbel'⟩ := hrel
    have hA9 : Hid (Bok wr ba ma A) := hA'
    have hL9 : Hid (Bok wr bl ml A) := hL'
    have hD9 : Hid (Bok wr bb mb D) := hD'
    have hKA : Hid (BkOk A) := hKA'
    have hKD : Hid (BkOk D) := hKD'
    have hb9 : Hid (Below w.heap.size w wr) := hbel'
    clear hA' hL' hD' hKA' hKD' hbel' hN0x hN1x hN2 hb4
    by_cases hlt : k < os.length
    · obtain ⟨g, off, hao, _, o0, o1, o2, o3⟩ := (hro.out.below hb9.out (Nat.le_refl _)).at' hlt
      subst hao
      have hst := stp_at hos.out hlt
      generalize os.getD k stp0 = s at o0 o1 o2 o3 hst
      obtain ⟨sk, sj, su, sn⟩ := s
      simp only at o0 o1 o2 o3
      have hsj : Hid (StpOk ⟨sk, sj, su, sn⟩) := hst
      clear hst
      go_upto_region 12 with fail
      obtain ⟨wN, hwN⟩ : ∃ wN, wr.alloc (Obj.cells #[.int .i64 sk, .string ⟨sj.toArray⟩, .int .i64 su, .int .i64 sn] 27) = wN := ⟨_, rfl⟩
      have bN : Below wr.heap.size wr wN := hwN ▸ alloc_below _ _
      have cN0 : Bl 27 wN wr.heap.size [.int .i64 sk, .string ⟨sj.toArray⟩, .int .i64 su, .int .i64 sn] := by rw [← hwN]; exact alloc_bl wr [_, _, _, _] _
      have hAN : Hid (Bok wN ba ma A) := hA9.out.below bN hA9.out.lt hA9.out.lt2
      have hLN : Hid (Bok wN bl ml A) := hL9.out.below bN hL9.out.lt hL9.out.lt2
      have hDN : Hid (Bok wN bb mb D) := hD9.out.below bN hD9.out.lt hD9.out.lt2
      have hbN : Hid (Below w.heap.size w wN) := hb9.out.trans (bN.mono hb9.out.size)
      have m1 := hA9.out.lt
      have m2 := hA9.out.lt2
      have m3 := hL9.out.lt
      have m4 := hL9.out.lt2
      have m5 := hD9.out.lt
      have m6 := hD9.out.lt2
      obtain ⟨nb, hnb⟩ : ∃ nb, wr.heap.size = nb := ⟨_, rfl⟩
      rw [hwN]
      rw [hnb] at m1 m2 m3 m4 m5 m6 cN0 ⊢
      have cN : Hid (Bl 27 wN nb [.int .i64 sk, .string ⟨sj.toArray⟩, .int .i64 su, .int .i64 sn]) := cN0
      have c0 := cN0.cell 0 (by simp)
      have c1 := cN0.cell 1 (by simp)
      have c2 := cN0.cell 2 (by simp)
      have c3 := cN0.cell 3 (by simp)
      simp only [List.getElem_cons_zero, List.getElem_cons_succ] at c0 c1 c2 c3
      clear hwN hnb bN cN0 o0 o1 o2 o3 hA9 hL9 hD9 hb9
      by_cases hlm : k < ms.length
      · obtain ⟨gm, offm, ham, _, p0, p1, p2, p3⟩ := (hrm.out.below hbN.out (Nat.le_refl _)).at' hlm
        subst ham
        have hst := stp_at hms.out hlm
        generalize ms.getD k stp0 = s at p0 p1 p2 p3 hst
        obtain ⟨tk, tj, tu, tn⟩ := s
        simp only at p0 p1 p2 p3
        have htj : Hid (StpOk ⟨tk, tj, tu, tn⟩) := hst
        clear hst
        by_cases ht1 : tk = 1
        · subst ht1
          go_wp2_with fail
          refine wp_region_tail 16 (by kernel_rfl) (by kernel_rfl) ?_
          simp only [List.take_succ_cons, List.take_zero, List.drop_succ_cons, List.drop_zero]
          repeat (first | go_big_quiet_skip | (go_big_quiet_want; go_big_quiet_op; go_big_quiet_on))
          refine wpQuiet_nil ?_
          go_wp2_with fail
          refine (take_any bb mb D tj tu tn (wN.drewN 1) ⟨hDN.out.cells, hDN.out.own, hDN.out.ne⟩ hKD.out htj.out.u).mono ?_
          rintro e w8 ⟨rfl, hD8, hc8⟩
          have hK8 : Hid (BkOk (takeF D tj tu tn).2) := takeF_ok hKD.out _ _ _ htj.out.u htj.out.n
          obtain ⟨D2, hD2⟩ : ∃ c, (takeF D tj tu tn).2 = c := ⟨_, rfl⟩
          obtain ⟨cd8, hcd8⟩ : ∃ c, (takeF D tj tu tn).1 = c := ⟨_, rfl⟩
          rw [hD2] at hD8 hK8
          rw [hcd8]
          clear hD2 hcd8
          have hDe : Hid (Bok w8 bb mb D2) := hD8
          have hAe : Hid (Bok w8 ba ma A) := (show Bok (wN.drewN 1) ba ma A from ⟨hAN.out.cells, hAN.out.own, hAN.out.ne⟩).chf hc8 (by rintro (e | e); exact s1_ba_bb e; exact s2_ba_bb e) (by rintro (e | e); exact s3_ba_bb e; exact s4_ba_bb e)
          have hLe : Hid (Bok w8 bl ml A) := (show Bok (wN.drewN 1) bl ml A from ⟨hLN.out.cells, hLN.out.own, hLN.out.ne⟩).chf hc8 (by rintro (e | e); exact s1_bl_bb e; exact s2_bl_bb e) (by rintro (e | e); exact s3_bl_bb e; exact s4_bl_bb e)
          have hbe : Hid (Below w.heap.size w w8) := chf_new (below_drewN hbN.out 1) hc8 (by rintro k (rfl | rfl) <;> assumption)
          have cN8 : Hid (Bl 27 w8 nb [.int .i64 sk, .string ⟨sj.toArray⟩, .int .i64 su, .int .i64 sn]) := (show Bl 27 (wN.drewN 1) nb _ from cN.out).chf hc8 (by rintro (e | e) <;> omega)
          clear hD8 hc8 hAN hLN hDN hbN cN c0 c1 c2 c3 hKD p0 p1 p2 p3
          have hKD : Hid (BkOk D2) := hK8.out
          have cN := cN8
          have c0 := cN8.out.cell 0 (by simp)
          have c1 := cN8.out.cell 1 (by simp)
          have c2 := cN8.out.cell 2 (by simp)
          have c3 := cN8.out.cell 3 (by simp)
          simp only [List.getElem_cons_zero, List.getElem_cons_succ] at c0 c1 c2 c3
          clear cN8 hK8
          by_cases hk1 : sk = 1
          · subst hk1
            have T1 := take_any ba ma A sj su sn w8 hAe.out hKA.out hsj.out.u
            have hK2 : Hid (BkOk (takeF A sj su sn).2) := takeF_ok hKA.out _ _ _ hsj.out.u hsj.out.n
            obtain ⟨cd, hcd⟩ : ∃ c, (takeF A sj su sn).1 = c := ⟨_, rfl⟩
            obtain ⟨A2, hA2⟩ : ∃ c, (takeF A sj su sn).2 = c := ⟨_, rfl⟩
            have T2 : Hid (∀ w', Bok w' bl ml A → Calls Try.prog 12 #[.pointer (some ⟨bl, 0, none⟩), .string ⟨sj.toArray⟩, .int .i64 su, .int .i64 sn] w' fun e wx => e = .returned (.int .i64 (takeF A sj su sn).1) ∧ Bok wx bl ml (takeF A sj su sn).2 ∧ Chf (fun k => k = bl ∨ k = ml) w' wx) := fun w' h => take_any bl ml A sj su sn w' h hKA.out hsj.out.u
            rw [hcd, hA2] at T1 T2
            rw [hA2] at hK2
            clear hcd hA2
            go_wp2_with fail
            refine T1.mono ?_
            rintro e wt ⟨rfl, hAt', hct⟩
            have hAt : Hid (Bok wt ba ma A2) := hAt'
            have hLt : Hid (Bok wt bl ml A) := hLe.out.chf hct (by rintro (e | e); exact s1_ba_bl e.symm; exact s3_ba_bl e.symm) (by rintro (e | e); exact s2_ba_bl e.symm; exact s4_ba_bl e.symm)
            have hDt : Hid (Bok wt bb mb D2) := hDe.out.chf hct (by rintro (e | e); exact s1_ba_bb e.symm; exact s3_ba_bb e.symm) (by rintro (e | e); exact s2_ba_bb e.symm; exact s4_ba_bb e.symm)
            have hbt : Hid (Below w.heap.size w wt) := chf_new hbe.out hct (by rintro k (rfl | rfl) <;> assumption)
            have cNt : Hid (Bl 27 wt nb [.int .i64 1, .string ⟨sj.toArray⟩, .int .i64 su, .int .i64 sn]) := cN.out.chf hct (by rintro (e | e) <;> omega)
            clear hAt' hct T1 hAe hLe hDe hbe cN c0 c1 c2 c3
            have c0 := cNt.out.cell 0 (by simp)
            have c1 := cNt.out.cell 1 (by simp)
            have c2 := cNt.out.cell 2 (by simp)
            have c3 := cNt.out.cell 3 (by simp)
            simp only [List.getElem_cons_zero, List.getElem_cons_succ] at c0 c1 c2 c3
            go_wp2_with fail
            refine (T2.out wt hLt.out).mono ?_
            rintro e wu ⟨rfl, hLu', hcu⟩
            have hLe : Hid (Bok wu bl ml A2) := hLu'
            have hAe : Hid (Bok wu ba ma A2) := hAt.out.chf hcu (by rintro (e | e); exact s1_ba_bl e; exact s2_ba_bl e) (by rintro (e | e); exact s3_ba_bl e; exact s4_ba_bl e)
            have hDe : Hid (Bok wu bb mb D2) := hDt.out.chf hcu (by rintro (e | e); exact s1_bl_bb e.symm; exact s3_bl_bb e.symm) (by rintro (e | e); exact s2_bl_bb e.symm; exact s4_bl_bb e.symm)
            have hbe : Hid (Below w.heap.size w wu) := chf_new hbt.out hcu (by rintro k (rfl | rfl) <;> assumption)
            clear hLu' hcu T2 hAt hLt hDt hbt cNt c0 c1 c2 c3 hKA
            have hKA : Hid (BkOk A2) := hK2.out
            have hil := imgF_length hKA.out
            have hi23 := imgF_23 A2
            have him0 := imgF_head A2
            have I2 : Hid (∀ w', Bok w' ba ma A2 → Calls Try.prog 13 #[.pointer (some ⟨ba, 0, none⟩)] w' fun e wx => ∃ v', e = .returned v' ∧ OBb w'.heap.size w' wx v' (imgF A2)) := fun w' h => image_any ba ma A2 w' h hKA.out
            have I3 : Hid (∀ w', Bok w' bl ml A2 → Calls Try.prog 13 #[.pointer (some ⟨bl, 0, none⟩)] w' fun e wx => ∃ v', e = .returned v' ∧ OBb w'.heap.size w' wx v' (imgF A2)) := fun w' h => image_any bl ml A2 w' h hKA.out
            obtain ⟨im, him⟩ : ∃ im, imgF A2 = im := ⟨_, rfl⟩
            rw [him] at hil hi23 him0 I2 I3
            clear him
            have him0h : Hid (im.getD 0 0 = 82) := him0
            clear him0
            go_wp2_with fail
            refine (I2.out wu hAe.out).mono ?_
            rintro e wa ⟨v1, rfl, hob1⟩
            obtain ⟨g1, c1, rfl, hg1, hg1', hcc1, _⟩ := hob1.own.addr (by omega)
            have hAa : Hid (Bok wa ba ma A2) := hAe.out.below hob1.bel hAe.out.lt hAe.out.lt2
            have hLa : Hid (Bok wa bl ml A2) := hLe.out.below hob1.bel hLe.out.lt hLe.out.lt2
            have hDa : Hid (Bok wa bb mb D2) := hDe.out.below hob1.bel hDe.out.lt hDe.out.lt2
            have hba : Hid (Below w.heap.size w wa) := hbe.out.trans (hob1.bel.mono hbe.out.size)
            have hO1 : Hid (Owb wa w.heap.size (.slice (some ⟨g1, 0, none⟩) im.length c1) im) := hob1.own.base hbe.out.size
            clear hob1 hAe hLe hDe hbe hg1
            go_wp2_with fail
            refine (I2.out wa hAa.out).mono ?_
            rintro e wb ⟨v2, rfl, hob2⟩
            obtain ⟨g2, c2, rfl, hg2, hg2', hcc2, _⟩ := hob2.own.addr (by omega)
            have hAb : Hid (Bok wb ba ma A2) := hAa.out.below hob2.bel hAa.out.lt hAa.out.lt2
            have hLb : Hid (Bok wb bl ml A2) := hLa.out.below hob2.bel hLa.out.lt hLa.out.lt2
            have hDb : Hid (Bok wb bb mb D2) := hDa.out.below hob2.bel hDa.out.lt hDa.out.lt2
            have hbb_ : Hid (Below w.heap.size w wb) := hba.out.trans (hob2.bel.mono hba.out.size)
            have hO1b : Hid (Owb wb w.heap.size (.slice (some ⟨g1, 0, none⟩) im.length c1) im) := hO1.out.below hob2.bel (Nat.le_refl _)
            have hO2b : Hid (Owb wb w.heap.size (.slice (some ⟨g2, 0, none⟩) im.length c2) im) := hob2.own.base hba.out.size
            clear hob2 hAa hLa hDa hba hO1
            go_wp2_with fail
            refine (I3.out wb hLb.out).mono ?_
            rintro e wc ⟨v3, rfl, hob3⟩
            obtain ⟨g3, c3, rfl, hg3, hg3', hcc3, _⟩ := hob3.own.addr (by omega)
            have H5 : Hid (Own5 w wc (.slice (some ⟨g1, 0, none⟩) im.length c1) (.slice (some ⟨g2, 0, none⟩) im.length c2) (.slice (some ⟨g3, 0, none⟩) im.length c3) im im ba ma bl ml bb mb A2 D2) := ⟨hO1b.out.below hob3.bel (Nat.le_refl _), hO2b.out.below hob3.bel (Nat.le_refl _), hob3.own.base hbb_.out.size, hAb.out.below hob3.bel hAb.out.lt hAb.out.lt2, hLb.out.below hob3.bel hLb.out.lt hLb.out.lt2, hDb.out.below hob3.bel hDb.out.lt hDb.out.lt2, hbb_.out.trans (hob3.bel.mono hbb_.out.size)⟩
            have hx2 : Hid (∀ g, (Value.slice (some ⟨g1, 0, none⟩) im.length c1).ownBlock = some g → (Value.slice (some ⟨g2, 0, none⟩) im.length c2).ownBlock ≠ some g) := fun g e1 e2 => by
              simp only [Value.ownBlock, Option.some.injEq] at e1 e2; omega
            have hx3 : Hid (∀ g, (Value.slice (some ⟨g1, 0, none⟩) im.length c1).ownBlock = some g → (Value.slice (some ⟨g3, 0, none⟩) im.length c3).ownBlock ≠ some g) := fun g e1 e2 => by
              simp only [Value.ownBlock, Option.some.injEq] at e1 e2; omega
            clear hob3 hAb hLb hDb hbb_ hO1b hO2b I3 hg1' hg2 hg2' hg3 hg3'
            go_wp2_with fail
            go_loopw [14] (fun s wx => ∃ j : Nat, s = .int .i64 (j : Int) ∧ j ≤ im.length ∧ Own5 w wx (.slice (some ⟨g1, 0, none⟩) im.length c1) (.slice (some ⟨g2, 0, none⟩) im.length c2) (.slice (some ⟨g3, 0, none⟩) im.length c3) (List.replicate j 1 ++ im.drop j) im ba ma bl ml bb mb A2 D2) (fun s _ => im.length - (intOf s).toNat)
            case atStart => exact ⟨0, rfl, Nat.zero_le _, H5.out⟩
            case round =>
              obtain ⟨j, rfl, hj, H'⟩ := hrel
              have H6 : Hid (Own5 w wr (.slice (some ⟨g1, 0, none⟩) im.length c1) (.slice (some ⟨g2, 0, none⟩) im.length c2) (.slice (some ⟨g3, 0, none⟩) im.length c3) (List.replicate j 1 ++ im.drop j) im ba ma bl ml bb mb A2 D2) := H'
              clear H' H5
              by_cases hlj : j < im.length
              · obtain ⟨d0, d1⟩ := H6.out.l.at (j := j) (by simp; omega)
                have hji : (j : Int) < (im.length : Int) := by omega
                have HN : Hid (∀ wz, wz = wr.setCell ⟨g1, j, none⟩ (.int .u8 1) → Own5 w wz (.slice (some ⟨g1, 0, none⟩) im.length c1) (.slice (some ⟨g2, 0, none⟩) im.length c2) (.slice (some ⟨g3, 0, none⟩) im.length c3) (List.replicate (j + 1) 1 ++ im.drop (j + 1)) im ba ma bl ml bb mb A2 D2) := fun wz hz => by
                  subst hz
                  have h1 := H6.out.l.set j 1
                  rw [over_set im hlj] at h1
                  exact H6.out.step (Chf.set (f := fun k => (Value.slice (some ⟨g1, 0, none⟩) im.length c1).ownBlock = some k) (g := g1) (Chf.refl _ wr) (.inl rfl) _) h1 hx2.out hx3.out
                generalize ((List.replicate j 1 ++ im.drop j).getD j 0).toNat = z at d0
                clear H6
                go_wp2_with fail
                go_roundw
                case rel => exact ⟨j + 1, by go_num, by omega, HN.out _ rfl⟩
                case measure => simp [intOf]; omega
              · obtain rfl : j = im.length := by omega
                have H7 : Hid (Own5 w wr (.slice (some ⟨g1, 0, none⟩) im.length c1) (.slice (some ⟨g2, 0, none⟩) im.length c2) (.slice (some ⟨g3, 0, none⟩) im.length c3) (List.replicate im.length 1) im ba ma bl ml bb mb A2 D2) := by
                  have := H6.out
                  rw [List.drop_length, List.append_nil] at this
                  exact this
                clear H6
                rename World => wL
                go_wp2_with fail
                go_loopw [15, 16] (fun s15 s wx => ∃ j : Nat, s = .int .i64 (j : Int) ∧ j ≤ 80 ∧ Own5 w wx s15 (.slice (some ⟨g2, 0, none⟩) im.length c2) (.slice (some ⟨g3, 0, none⟩) im.length c3) (List.replicate im.length 1 ++ List.replicate j 2) im ba ma bl ml bb mb A2 D2) (fun _ s _ => 80 - (intOf s).toNat)
                case atStart => exact ⟨0, rfl, Nat.zero_le _, by rw [List.replicate_zero, List.append_nil]; exact H7.out⟩
                case round =>
                  obtain ⟨j, rfl, hj, H'⟩ := hrel
                  have H8 : Hid (Own5 w wr _ (.slice (some ⟨g2, 0, none⟩) im.length c2) (.slice (some ⟨g3, 0, none⟩) im.length c3) (List.replicate im.length 1 ++ List.replicate j 2) im ba ma bl ml bb mb A2 D2) := H'
                  clear H' H7
                  by_cases hlj : j < 80
                  · have hln : (List.replicate im.length (1 : UInt8) ++ List.replicate j 2).length ≤ 1000000000 := by simp; omega
                    have hln0 : 0 < (List.replicate im.length (1 : UInt8) ++ List.replicate j 2).length := by simp; omega
                    have hne : (List.replicate im.length (1 : UInt8) ++ List.replicate j 2).getD 0 0 ≠ im.getD 0 0 := by rw [over_head _ _ (by omega), him0h.out]; decide
                    have hsn : Hid (List.replicate im.length (1 : UInt8) ++ List.replicate j 2 ++ [2] = List.replicate im.length (1 : UInt8) ++ List.replicate (j + 1) 2) := by show _ = _; rw [List.append_assoc, ← List.replicate_succ']
                    generalize List.replicate im.length (1 : UInt8) ++ List.replicate j 2 = xs at H8 hln hln0 hne hsn
                    have hneh : Hid (xs.getD 0 0 ≠ im.getD 0 0) := hne
                    clear hne
                    go_wp2_with (at_builtin; refine append_own5 rfl _ _ rfl _ (.slice (some ⟨g2, 0, none⟩) im.length c2) (.slice (some ⟨g3, 0, none⟩) im.length c3) xs im ba ma bl ml bb mb A2 D2 2 rfl H8.out rfl hln hln0 (by omega) hneh.out ?_; intro v' w' H9)
                    go_roundw
                    case rel => exact ⟨j + 1, by go_num, by omega, by rw [← hsn.out]; exact H9⟩
                    case measure => simp [intOf]; omega
                  · obtain rfl : j = 80 := by omega
                    obtain ⟨a15, c15, e15, _⟩ := H8.out.l.nb
                    subst e15
                    have hl80 : (List.replicate im.length (1 : UInt8) ++ List.replicate 80 2).length = im.length + 80 := by simp
                    rw [hl80] at H8 ⊢
                    clear hl80
                    have SM := same_any (some ⟨g2, 0, none⟩) (some ⟨g3, 0, none⟩) c2 c3 im im wr (by obtain ⟨_, _, e, _, _, _, h⟩ := H8.out.k.addr (by omega); cases e; exact h) (by obtain ⟨_, _, e, _, _, _, h⟩ := H8.out.w.addr (by omega); cases e; exact h) (by omega)
                    rw [decide_eq_true rfl] at SM
                    have HA : Hid (Bok wr ba ma A2) := H8.out.a
                    have HL : Hid (Bok wr bl ml A2) := H8.out.al
                    have HD : Hid (Bok wr bb mb D2) := H8.out.b
                    have HW : Hid (Owb wr w.heap.size (.slice (some ⟨g3, 0, none⟩) im.length c3) im) := H8.out.w
                    have HB : Hid (Below w.heap.size w wr) := H8.out.bel
                    clear H8
                    go_wp2_with fail
                    refine SM.mono ?_
                    rintro e wd ⟨rfl, q1, rfl⟩
                    clear SM
                    go_wp2_with fail
                    refine (I2.out (wr.drewN q1) ⟨HA.out.cells, HA.out.own, HA.out.ne⟩).mono ?_
                    rintro e we ⟨v5, rfl, hob5⟩
                    obtain ⟨a5, c5, rfl, hc5, hr5⟩ := hob5.own.nb
                    have HAe : Hid (Bok we ba ma A2) := (show Bok (wr.drewN q1) ba ma A2 from ⟨HA.out.cells, HA.out.own, HA.out.ne⟩).below hob5.bel HA.out.lt HA.out.lt2
                    have HLe : Hid (Bok we bl ml A2) := (show Bok (wr.drewN q1) bl ml A2 from ⟨HL.out.cells, HL.out.own, HL.out.ne⟩).below hob5.bel HL.out.lt HL.out.lt2
                    have HDe : Hid (Bok we bb mb D2) := (show Bok (wr.drewN q1) bb mb D2 from ⟨HD.out.cells, HD.out.own, HD.out.ne⟩).below hob5.bel HD.out.lt HD.out.lt2
                    have HWe : Hid (Owb we w.heap.size (.slice (some ⟨g3, 0, none⟩) im.length c3) im) := (show Owb (wr.drewN q1) w.heap.size (.slice (some ⟨g3, 0, none⟩) im.length c3) im from HW.out).below hob5.bel (Nat.le_refl _)
                    have HBe : Hid (Below w.heap.size w we) := (below_drewN HB.out q1).trans (hob5.bel.mono HB.out.size)
                    have SN := same_any a5 (some ⟨g3, 0, none⟩) c5 c3 im im we hr5 (by obtain ⟨_, _, e, _, _, _, h⟩ := HWe.out.addr (by omega); cases e; exact h) (by omega)
                    rw [decide_eq_true rfl] at SN
                    clear hob5 hr5 HA HL HD HW HB
                    go_wp2_with fail
                    refine SN.mono ?_
                    rintro e wf ⟨rfl, q2, rfl⟩
                    clear SN
                    go_wp2_with fail
                    exact ⟨⟨k + 1, A2, D2, by go_num, by omega, ⟨HAe.out.cells, HAe.out.own, HAe.out.ne⟩, ⟨HLe.out.cells, HLe.out.own, HLe.out.ne⟩, ⟨HDe.out.cells, HDe.out.own, HDe.out.ne⟩, hKA.out, hKD.out, below_drewN HBe.out _⟩, by simp [intOf]; omega⟩
          · have qk : (sk == 1) = false := by simpa using hk1
            clear c1 c2 c3
            have hil := imgF_length hKA.out
            have hi23 := imgF_23 A
            have him0 := imgF_head A
            have I2 : Hid (∀ w', Bok w' ba ma A → Calls Try.prog 13 #[.pointer (some ⟨ba, 0, none⟩)] w' fun e wx => ∃ v', e = .returned v' ∧ OBb w'.heap.size w' wx v' (imgF A)) := fun w' h => image_any ba ma A w' h hKA.out
            have I3 : Hid (∀ w', Bok w' bl ml A → Calls Try.prog 13 #[.pointer (some ⟨bl, 0, none⟩)] w' fun e wx => ∃ v', e = .returned v' ∧ OBb w'.heap.size w' wx v' (imgF A)) := fun w' h => image_any bl ml A w' h hKA.out
            obtain ⟨im, him⟩ : ∃ im, imgF A = im := ⟨_, rfl⟩
            rw [him] at hil hi23 him0 I2 I3
            clear him
            have him0h : Hid (im.getD 0 0 = 82) := him0
            clear him0
            go_wp2_with fail
            refine (I2.out w8 hAe.out).mono ?_
            rintro e wa ⟨v1, rfl, hob1⟩
            obtain ⟨g1, c1, rfl, hg1, hg1', hcc1, _⟩ := hob1.own.addr (by omega)
            have hAa : Hid (Bok wa ba ma A) := hAe.out.below hob1.bel hAe.out.lt hAe.out.lt2
            have hLa : Hid (Bok wa bl ml A) := hLe.out.below hob1.bel hLe.out.lt hLe.out.lt2
            have hDa : Hid (Bok wa bb mb D2) := hDe.out.below hob1.bel hDe.out.lt hDe.out.lt2
            have hba : Hid (Below w.heap.size w wa) := hbe.out.trans (hob1.bel.mono hbe.out.size)
            have hO1 : Hid (Owb wa w.heap.size (.slice (some ⟨g1, 0, none⟩) im.length c1) im) := hob1.own.base hbe.out.size
            clear hob1 hAe hLe hDe hbe hg1
            go_wp2_with fail
            refine (I2.out wa hAa.out).mono ?_
            rintro e wb ⟨v2, rfl, hob2⟩
            obtain ⟨g2, c2, rfl, hg2, hg2', hcc2, _⟩ := hob2.own.addr (by omega)
            have hAb : Hid (Bok wb ba ma A) := hAa.out.below hob2.bel hAa.out.lt hAa.out.lt2
            have hLb : Hid (Bok wb bl ml A) := hLa.out.below hob2.bel hLa.out.lt hLa.out.lt2
            have hDb : Hid (Bok wb bb mb D2) := hDa.out.below hob2.bel hDa.out.lt hDa.out.lt2
            have hbb_ : Hid (Below w.heap.size w wb) := hba.out.trans (hob2.bel.mono hba.out.size)
            have hO1b : Hid (Owb wb w.heap.size (.slice (some ⟨g1, 0, none⟩) im.length c1) im) := hO1.out.below hob2.bel (Nat.le_refl _)
            have hO2b : Hid (Owb wb w.heap.size (.slice (some ⟨g2, 0, none⟩) im.length c2) im) := hob2.own.base hba.out.size
            clear hob2 hAa hLa hDa hba hO1
            go_wp2_with fail
            refine (I3.out wb hLb.out).mono ?_
            rintro e wc ⟨v3, rfl, hob3⟩
            obtain ⟨g3, c3, rfl, hg3, hg3', hcc3, _⟩ := hob3.own.addr (by omega)
            have H5 : Hid (Own5 w wc (.slice (some ⟨g1, 0, none⟩) im.length c1) (.slice (some ⟨g2, 0, none⟩) im.length c2) (.slice (some ⟨g3, 0, none⟩) im.length c3) im im ba ma bl ml bb mb A D2) := ⟨hO1b.out.below hob3.bel (Nat.le_refl _), hO2b.out.below hob3.bel (Nat.le_refl _), hob3.own.base hbb_.out.size, hAb.out.below hob3.bel hAb.out.lt hAb.out.lt2, hLb.out.below hob3.bel hLb.out.lt hLb.out.lt2, hDb.out.below hob3.bel hDb.out.lt hDb.out.lt2, hbb_.out.trans (hob3.bel.mono hbb_.out.size)⟩
            have hx2 : Hid (∀ g, (Value.slice (some ⟨g1, 0, none⟩) im.length c1).ownBlock = some g → (Value.slice (some ⟨g2, 0, none⟩) im.length c2).ownBlock ≠ some g) := fun g e1 e2 => by
              simp only [Value.ownBlock, Option.some.injEq] at e1 e2; omega
            have hx3 : Hid (∀ g, (Value.slice (some ⟨g1, 0, none⟩) im.length c1).ownBlock = some g → (Value.slice (some ⟨g3, 0, none⟩) im.length c3).ownBlock ≠ some g) := fun g e1 e2 => by
              simp only [Value.ownBlock, Option.some.injEq] at e1 e2; omega
            clear hob3 hAb hLb hDb hbb_ hO1b hO2b I3 hg1' hg2 hg2' hg3 hg3'
            go_wp2_with fail
            go_loopw [14] (fun s wx => ∃ j : Nat, s = .int .i64 (j : Int) ∧ j ≤ im.length ∧ Own5 w wx (.slice (some ⟨g1, 0, none⟩) im.length c1) (.slice (some ⟨g2, 0, none⟩) im.length c2) (.slice (some ⟨g3, 0, none⟩) im.length c3) (List.replicate j 1 ++ im.drop j) im ba ma bl ml bb mb A D2) (fun s _ => im.length - (intOf s).toNat)
            case atStart => exact ⟨0, rfl, Nat.zero_le _, H5.out⟩
            case round =>
              obtain ⟨j, rfl, hj, H'⟩ := hrel
              have H6 : Hid (Own5 w wr (.slice (some ⟨g1, 0, none⟩) im.length c1) (.slice (some ⟨g2, 0, none⟩) im.length c2) (.slice (some ⟨g3, 0, none⟩) im.length c3) (List.replicate j 1 ++ im.drop j) im ba ma bl ml bb mb A D2) := H'
              clear H' H5
              by_cases hlj : j < im.length
              · obtain ⟨d0, d1⟩ := H6.out.l.at (j := j) (by simp; omega)
                have hji : (j : Int) < (im.length : Int) := by omega
                have HN : Hid (∀ wz, wz = wr.setCell ⟨g1, j, none⟩ (.int .u8 1) → Own5 w wz (.slice (some ⟨g1, 0, none⟩) im.length c1) (.slice (some ⟨g2, 0, none⟩) im.length c2) (.slice (some ⟨g3, 0, none⟩) im.length c3) (List.replicate (j + 1) 1 ++ im.drop (j + 1)) im ba ma bl ml bb mb A D2) := fun wz hz => by
                  subst hz
                  have h1 := H6.out.l.set j 1
                  rw [over_set im hlj] at h1
                  exact H6.out.step (Chf.set (f := fun k => (Value.slice (some ⟨g1, 0, none⟩) im.length c1).ownBlock = some k) (g := g1) (Chf.refl _ wr) (.inl rfl) _) h1 hx2.out hx3.out
                generalize ((List.replicate j 1 ++ im.drop j).getD j 0).toNat = z at d0
                clear H6
                go_wp2_with fail
                go_roundw
                case rel => exact ⟨j + 1, by go_num, by omega, HN.out _ rfl⟩
                case measure => simp [intOf]; omega
              · obtain rfl : j = im.length := by omega
                have H7 : Hid (Own5 w wr (.slice (some ⟨g1, 0, none⟩) im.length c1) (.slice (some ⟨g2, 0, none⟩) im.length c2) (.slice (some ⟨g3, 0, none⟩) im.length c3) (List.replicate im.length 1) im ba ma bl ml bb mb A D2) := by
                  have := H6.out
                  rw [List.drop_length, List.append_nil] at this
                  exact this
                clear H6
                rename World => wL
                go_wp2_with fail
                go_loopw [15, 16] (fun s15 s wx => ∃ j : Nat, s = .int .i64 (j : Int) ∧ j ≤ 80 ∧ Own5 w wx s15 (.slice (some ⟨g2, 0, none⟩) im.length c2) (.slice (some ⟨g3, 0, none⟩) im.length c3) (List.replicate im.length 1 ++ List.replicate j 2) im ba ma bl ml bb mb A D2) (fun _ s _ => 80 - (intOf s).toNat)
                case atStart => exact ⟨0, rfl, Nat.zero_le _, by rw [List.replicate_zero, List.append_nil]; exact H7.out⟩
                case round =>
                  obtain ⟨j, rfl, hj, H'⟩ := hrel
                  have H8 : Hid (Own5 w wr _ (.slice (some ⟨g2, 0, none⟩) im.length c2) (.slice (some ⟨g3, 0, none⟩) im.length c3) (List.replicate im.length 1 ++ List.replicate j 2) im ba ma bl ml bb mb A D2) := H'
                  clear H' H7
                  by_cases hlj : j < 80
                  · have hln : (List.replicate im.length (1 : UInt8) ++ List.replicate j 2).length ≤ 1000000000 := by simp; omega
                    have hln0 : 0 < (List.replicate im.length (1 : UInt8) ++ List.replicate j 2).length := by simp; omega
                    have hne : (List.replicate im.length (1 : UInt8) ++ List.replicate j 2).getD 0 0 ≠ im.getD 0 0 := by rw [over_head _ _ (by omega), him0h.out]; decide
                    have hsn : Hid (List.replicate im.length (1 : UInt8) ++ List.replicate j 2 ++ [2] = List.replicate im.length (1 : UInt8) ++ List.replicate (j + 1) 2) := by show _ = _; rw [List.append_assoc, ← List.replicate_succ']
                    generalize List.replicate im.length (1 : UInt8) ++ List.replicate j 2 = xs at H8 hln hln0 hne hsn
                    have hneh : Hid (xs.getD 0 0 ≠ im.getD 0 0) := hne
                    clear hne
                    go_wp2_with (at_builtin; refine append_own5 rfl _ _ rfl _ (.slice (some ⟨g2, 0, none⟩) im.length c2) (.slice (some ⟨g3, 0, none⟩) im.length c3) xs im ba ma bl ml bb mb A D2 2 rfl H8.out rfl hln hln0 (by omega) hneh.out ?_; intro v' w' H9)
                    go_roundw
                    case rel => exact ⟨j + 1, by go_num, by omega, by rw [← hsn.out]; exact H9⟩
                    case measure => simp [intOf]; omega
                  · obtain rfl : j = 80 := by omega
                    obtain ⟨a15, c15, e15, _⟩ := H8.out.l.nb
                    subst e15
                    have hl80 : (List.replicate im.length (1 : UInt8) ++ List.replicate 80 2).length = im.length + 80 := by simp
                    rw [hl80] at H8 ⊢
                    clear hl80
                    have SM := same_any (some ⟨g2, 0, none⟩) (some ⟨g3, 0, none⟩) c2 c3 im im wr (by obtain ⟨_, _, e, _, _, _, h⟩ := H8.out.k.addr (by omega); cases e; exact h) (by obtain ⟨_, _, e, _, _, _, h⟩ := H8.out.w.addr (by omega); cases e; exact h) (by omega)
                    rw [decide_eq_true rfl] at SM
                    have HA : Hid (Bok wr ba ma A) := H8.out.a
                    have HL : Hid (Bok wr bl ml A) := H8.out.al
                    have HD : Hid (Bok wr bb mb D2) := H8.out.b
                    have HW : Hid (Owb wr w.heap.size (.slice (some ⟨g3, 0, none⟩) im.length c3) im) := H8.out.w
                    have HB : Hid (Below w.heap.size w wr) := H8.out.bel
                    clear H8
                    go_wp2_with fail
                    refine SM.mono ?_
                    rintro e wd ⟨rfl, q1, rfl⟩
                    clear SM
                    go_wp2_with fail
                    refine (I2.out (wr.drewN q1) ⟨HA.out.cells, HA.out.own, HA.out.ne⟩).mono ?_
                    rintro e we ⟨v5, rfl, hob5⟩
                    obtain ⟨a5, c5, rfl, hc5, hr5⟩ := hob5.own.nb
                    have HAe : Hid (Bok we ba ma A) := (show Bok (wr.drewN q1) ba ma A from ⟨HA.out.cells, HA.out.own, HA.out.ne⟩).below hob5.bel HA.out.lt HA.out.lt2
                    have HLe : Hid (Bok we bl ml A) := (show Bok (wr.drewN q1) bl ml A from ⟨HL.out.cells, HL.out.own, HL.out.ne⟩).below hob5.bel HL.out.lt HL.out.lt2
                    have HDe : Hid (Bok we bb mb D2) := (show Bok (wr.drewN q1) bb mb D2 from ⟨HD.out.cells, HD.out.own, HD.out.ne⟩).below hob5.bel HD.out.lt HD.out.lt2
                    have HWe : Hid (Owb we w.heap.size (.slice (some ⟨g3, 0, none⟩) im.length c3) im) := (show Owb (wr.drewN q1) w.heap.size (.slice (some ⟨g3, 0, none⟩) im.length c3) im from HW.out).below hob5.bel (Nat.le_refl _)
                    have HBe : Hid (Below w.heap.size w we) := (below_drewN HB.out q1).trans (hob5.bel.mono HB.out.size)
                    have SN := same_any a5 (some ⟨g3, 0, none⟩) c5 c3 im im we hr5 (by obtain ⟨_, _, e, _, _, _, h⟩ := HWe.out.addr (by omega); cases e; exact h) (by omega)
                    rw [decide_eq_true rfl] at SN
                    clear hob5 hr5 HA HL HD HW HB
                    go_wp2_with fail
                    refine SN.mono ?_
                    rintro e wf ⟨rfl, q2, rfl⟩
                    clear SN
                    go_wp2_with fail
                    exact ⟨⟨k + 1, A, D2, by go_num, by omega, ⟨HAe.out.cells, HAe.out.own, HAe.out.ne⟩, ⟨HLe.out.cells, HLe.out.own, HLe.out.ne⟩, ⟨HDe.out.cells, HDe.out.own, HDe.out.ne⟩, hKA.out, hKD.out, below_drewN HBe.out _⟩, by simp [intOf]; omega⟩
        · have qt : (tk == 1) = false := by simpa using ht1
          clear p1 p2 p3
          have hAe := hAN
          have hLe := hLN
          have hDe := hDN
          have hbe := hbN
          clear hAN hLN hDN hbN
          by_cases hk1 : sk = 1
          · subst hk1
            have T1 := take_any ba ma A sj su sn wN hAe.out hKA.out hsj.out.u
            have hK2 : Hid (BkOk (takeF A sj su sn).2) := takeF_ok hKA.out _ _ _ hsj.out.u hsj.out.n
            obtain ⟨cd, hcd⟩ : ∃ c, (takeF A sj su sn).1 = c := ⟨_, rfl⟩
            obtain ⟨A2, hA2⟩ : ∃ c, (takeF A sj su sn).2 = c := ⟨_, rfl⟩
            have T2 : Hid (∀ w', Bok w' bl ml A → Calls Try.prog 12 #[.pointer (some ⟨bl, 0, none⟩), .string ⟨sj.toArray⟩, .int .i64 su, .int .i64 sn] w' fun e wx => e = .returned (.int .i64 (takeF A sj su sn).1) ∧ Bok wx bl ml (takeF A sj su sn).2 ∧ Chf (fun k => k = bl ∨ k = ml) w' wx) := fun w' h => take_any bl ml A sj su sn w' h hKA.out hsj.out.u
            rw [hcd, hA2] at T1 T2
            rw [hA2] at hK2
            clear hcd hA2
            go_wp2_with fail
            refine T1.mono ?_
            rintro e wt ⟨rfl, hAt', hct⟩
            have hAt : Hid (Bok wt ba ma A2) := hAt'
            have hLt : Hid (Bok wt bl ml A) := hLe.out.chf hct (by rintro (e | e); exact s1_ba_bl e.symm; exact s3_ba_bl e.symm) (by rintro (e | e); exact s2_ba_bl e.symm; exact s4_ba_bl e.symm)
            have hDt : Hid (Bok wt bb mb D) := hDe.out.chf hct (by rintro (e | e); exact s1_ba_bb e.symm; exact s3_ba_bb e.symm) (by rintro (e | e); exact s2_ba_bb e.symm; exact s4_ba_bb e.symm)
            have hbt : Hid (Below w.heap.size w wt) := chf_new hbe.out hct (by rintro k (rfl | rfl) <;> assumption)
            have cNt : Hid (Bl 27 wt nb [.int .i64 1, .string ⟨sj.toArray⟩, .int .i64 su, .int .i64 sn]) := cN.out.chf hct (by rintro (e | e) <;> omega)
            clear hAt' hct T1 hAe hLe hDe hbe cN c0 c1 c2 c3
            have c0 := cNt.out.cell 0 (by simp)
            have c1 := cNt.out.cell 1 (by simp)
            have c2 := cNt.out.cell 2 (by simp)
            have c3 := cNt.out.cell 3 (by simp)
            simp only [List.getElem_cons_zero, List.getElem_cons_succ] at c0 c1 c2 c3
            go_wp2_with fail
            refine (T2.out wt hLt.out).mono ?_
            rintro e wu ⟨rfl, hLu', hcu⟩
            have hLe : Hid (Bok wu bl ml A2) := hLu'
            have hAe : Hid (Bok wu ba ma A2) := hAt.out.chf hcu (by rintro (e | e); exact s1_ba_bl e; exact s2_ba_bl e) (by rintro (e | e); exact s3_ba_bl e; exact s4_ba_bl e)
            have hDe : Hid (Bok wu bb mb D) := hDt.out.chf hcu (by rintro (e | e); exact s1_bl_bb e.symm; exact s3_bl_bb e.symm) (by rintro (e | e); exact s2_bl_bb e.symm; exact s4_bl_bb e.symm)
            have hbe : Hid (Below w.heap.size w wu) := chf_new hbt.out hcu (by rintro k (rfl | rfl) <;> assumption)
            clear hLu' hcu T2 hAt hLt hDt hbt cNt c0 c1 c2 c3 hKA
            have hKA : Hid (BkOk A2) := hK2.out
            have hil := imgF_length hKA.out
            have hi23 := imgF_23 A2
            have him0 := imgF_head A2
            have I2 : Hid (∀ w', Bok w' ba ma A2 → Calls Try.prog 13 #[.pointer (some ⟨ba, 0, none⟩)] w' fun e wx => ∃ v', e = .returned v' ∧ OBb w'.heap.size w' wx v' (imgF A2)) := fun w' h => image_any ba ma A2 w' h hKA.out
            have I3 : Hid (∀ w', Bok w' bl ml A2 → Calls Try.prog 13 #[.pointer (some ⟨bl, 0, none⟩)] w' fun e wx => ∃ v', e = .returned v' ∧ OBb w'.heap.size w' wx v' (imgF A2)) := fun w' h => image_any bl ml A2 w' h hKA.out
            obtain ⟨im, him⟩ : ∃ im, imgF A2 = im := ⟨_, rfl⟩
            rw [him] at hil hi23 him0 I2 I3
            clear him
            have him0h : Hid (im.getD 0 0 = 82) := him0
            clear him0
            go_wp2_with fail
            refine (I2.out wu hAe.out).mono ?_
            rintro e wa ⟨v1, rfl, hob1⟩
            obtain ⟨g1, c1, rfl, hg1, hg1', hcc1, _⟩ := hob1.own.addr (by omega)
            have hAa : Hid (Bok wa ba ma A2) := hAe.out.below hob1.bel hAe.out.lt hAe.out.lt2
            have hLa : Hid (Bok wa bl ml A2) := hLe.out.below hob1.bel hLe.out.lt hLe.out.lt2
            have hDa : Hid (Bok wa bb mb D) := hDe.out.below hob1.bel hDe.out.lt hDe.out.lt2
            have hba : Hid (Below w.heap.size w wa) := hbe.out.trans (hob1.bel.mono hbe.out.size)
            have hO1 : Hid (Owb wa w.heap.size (.slice (some ⟨g1, 0, none⟩) im.length c1) im) := hob1.own.base hbe.out.size
            clear hob1 hAe hLe hDe hbe hg1
            go_wp2_with fail
            refine (I2.out wa hAa.out).mono ?_
            rintro e wb ⟨v2, rfl, hob2⟩
            obtain ⟨g2, c2, rfl, hg2, hg2', hcc2, _⟩ := hob2.own.addr (by omega)
            have hAb : Hid (Bok wb ba ma A2) := hAa.out.below hob2.bel hAa.out.lt hAa.out.lt2
            have hLb : Hid (Bok wb bl ml A2) := hLa.out.below hob2.bel hLa.out.lt hLa.out.lt2
            have hDb : Hid (Bok wb bb mb D) := hDa.out.below hob2.bel hDa.out.lt hDa.out.lt2
            have hbb_ : Hid (Below w.heap.size w wb) := hba.out.trans (hob2.bel.mono hba.out.size)
            have hO1b : Hid (Owb wb w.heap.size (.slice (some ⟨g1, 0, none⟩) im.length c1) im) := hO1.out.below hob2.bel (Nat.le_refl _)
            have hO2b : Hid (Owb wb w.heap.size (.slice (some ⟨g2, 0, none⟩) im.length c2) im) := hob2.own.base hba.out.size
            clear hob2 hAa hLa hDa hba hO1
            go_wp2_with fail
            refine (I3.out wb hLb.out).mono ?_
            rintro e wc ⟨v3, rfl, hob3⟩
            obtain ⟨g3, c3, rfl, hg3, hg3', hcc3, _⟩ := hob3.own.addr (by omega)
            have H5 : Hid (Own5 w wc (.slice (some ⟨g1, 0, none⟩) im.length c1) (.slice (some ⟨g2, 0, none⟩) im.length c2) (.slice (some ⟨g3, 0, none⟩) im.length c3) im im ba ma bl ml bb mb A2 D) := ⟨hO1b.out.below hob3.bel (Nat.le_refl _), hO2b.out.below hob3.bel (Nat.le_refl _), hob3.own.base hbb_.out.size, hAb.out.below hob3.bel hAb.out.lt hAb.out.lt2, hLb.out.below hob3.bel hLb.out.lt hLb.out.lt2, hDb.out.below hob3.bel hDb.out.lt hDb.out.lt2, hbb_.out.trans (hob3.bel.mono hbb_.out.size)⟩
            have hx2 : Hid (∀ g, (Value.slice (some ⟨g1, 0, none⟩) im.length c1).ownBlock = some g → (Value.slice (some ⟨g2, 0, none⟩) im.length c2).ownBlock ≠ some g) := fun g e1 e2 => by
              simp only [Value.ownBlock, Option.some.injEq] at e1 e2; omega
            have hx3 : Hid (∀ g, (Value.slice (some ⟨g1, 0, none⟩) im.length c1).ownBlock = some g → (Value.slice (some ⟨g3, 0, none⟩) im.length c3).ownBlock ≠ some g) := fun g e1 e2 => by
              simp only [Value.ownBlock, Option.some.injEq] at e1 e2; omega
            clear hob3 hAb hLb hDb hbb_ hO1b hO2b I3 hg1' hg2 hg2' hg3 hg3'
            go_wp2_with fail
            go_loopw [14] (fun s wx => ∃ j : Nat, s = .int .i64 (j : Int) ∧ j ≤ im.length ∧ Own5 w wx (.slice (some ⟨g1, 0, none⟩) im.length c1) (.slice (some ⟨g2, 0, none⟩) im.length c2) (.slice (some ⟨g3, 0, none⟩) im.length c3) (List.replicate j 1 ++ im.drop j) im ba ma bl ml bb mb A2 D) (fun s _ => im.length - (intOf s).toNat)
            case atStart => exact ⟨0, rfl, Nat.zero_le _, H5.out⟩
            case round =>
              obtain ⟨j, rfl, hj, H'⟩ := hrel
              have H6 : Hid (Own5 w wr (.slice (some ⟨g1, 0, none⟩) im.length c1) (.slice (some ⟨g2, 0, none⟩) im.length c2) (.slice (some ⟨g3, 0, none⟩) im.length c3) (List.replicate j 1 ++ im.drop j) im ba ma bl ml bb mb A2 D) := H'
              clear H' H5
              by_cases hlj : j < im.length
              · obtain ⟨d0, d1⟩ := H6.out.l.at (j := j) (by simp; omega)
                have hji : (j : Int) < (im.length : Int) := by omega
                have HN : Hid (∀ wz, wz = wr.setCell ⟨g1, j, none⟩ (.int .u8 1) → Own5 w wz (.slice (some ⟨g1, 0, none⟩) im.length c1) (.slice (some ⟨g2, 0, none⟩) im.length c2) (.slice (some ⟨g3, 0, none⟩) im.length c3) (List.replicate (j + 1) 1 ++ im.drop (j + 1)) im ba ma bl ml bb mb A2 D) := fun wz hz => by
                  subst hz
                  have h1 := H6.out.l.set j 1
                  rw [over_set im hlj] at h1
                  exact H6.out.step (Chf.set (f := fun k => (Value.slice (some ⟨g1, 0, none⟩) im.length c1).ownBlock = some k) (g := g1) (Chf.refl _ wr) (.inl rfl) _) h1 hx2.out hx3.out
                generalize ((List.replicate j 1 ++ im.drop j).getD j 0).toNat = z at d0
                clear H6
                go_wp2_with fail
                go_roundw
                case rel => exact ⟨j + 1, by go_num, by omega, HN.out _ rfl⟩
                case measure => simp [intOf]; omega
              · obtain rfl : j = im.length := by omega
                have H7 : Hid (Own5 w wr (.slice (some ⟨g1, 0, none⟩) im.length c1) (.slice (some ⟨g2, 0, none⟩) im.length c2) (.slice (some ⟨g3, 0, none⟩) im.length c3) (List.replicate im.length 1) im ba ma bl ml bb mb A2 D) := by
                  have := H6.out
                  rw [List.drop_length, List.append_nil] at this
                  exact this
                clear H6
                rename World => wL
                go_wp2_with fail
                go_loopw [15, 16] (fun s15 s wx => ∃ j : Nat, s = .int .i64 (j : Int) ∧ j ≤ 80 ∧ Own5 w wx s15 (.slice (some ⟨g2, 0, none⟩) im.length c2) (.slice (some ⟨g3, 0, none⟩) im.length c3) (List.replicate im.length 1 ++ List.replicate j 2) im ba ma bl ml bb mb A2 D) (fun _ s _ => 80 - (intOf s).toNat)
                case atStart => exact ⟨0, rfl, Nat.zero_le _, by rw [List.replicate_zero, List.append_nil]; exact H7.out⟩
                case round =>
                  obtain ⟨j, rfl, hj, H'⟩ := hrel
                  have H8 : Hid (Own5 w wr _ (.slice (some ⟨g2, 0, none⟩) im.length c2) (.slice (some ⟨g3, 0, none⟩) im.length c3) (List.replicate im.length 1 ++ List.replicate j 2) im ba ma bl ml bb mb A2 D) := H'
                  clear H' H7
                  by_cases hlj : j < 80
                  · have hln : (List.replicate im.length (1 : UInt8) ++ List.replicate j 2).length ≤ 1000000000 := by simp; omega
                    have hln0 : 0 < (List.replicate im.length (1 : UInt8) ++ List.replicate j 2).length := by simp; omega
                    have hne : (List.replicate im.length (1 : UInt8) ++ List.replicate j 2).getD 0 0 ≠ im.getD 0 0 := by rw [over_head _ _ (by omega), him0h.out]; decide
                    have hsn : Hid (List.replicate im.length (1 : UInt8) ++ List.replicate j 2 ++ [2] = List.replicate im.length (1 : UInt8) ++ List.replicate (j + 1) 2) := by show _ = _; rw [List.append_assoc, ← List.replicate_succ']
                    generalize List.replicate im.length (1 : UInt8) ++ List.replicate j 2 = xs at H8 hln hln0 hne hsn
                    have hneh : Hid (xs.getD 0 0 ≠ im.getD 0 0) := hne
                    clear hne
                    go_wp2_with (at_builtin; refine append_own5 rfl _ _ rfl _ (.slice (some ⟨g2, 0, none⟩) im.length c2) (.slice (some ⟨g3, 0, none⟩) im.length c3) xs im ba ma bl ml bb mb A2 D 2 rfl H8.out rfl hln hln0 (by omega) hneh.out ?_; intro v' w' H9)
                    go_roundw
                    case rel => exact ⟨j + 1, by go_num, by omega, by rw [← hsn.out]; exact H9⟩
                    case measure => simp [intOf]; omega
                  · obtain rfl : j = 80 := by omega
                    obtain ⟨a15, c15, e15, _⟩ := H8.out.l.nb
                    subst e15
                    have hl80 : (List.replicate im.length (1 : UInt8) ++ List.replicate 80 2).length = im.length + 80 := by simp
                    rw [hl80] at H8 ⊢
                    clear hl80
                    have SM := same_any (some ⟨g2, 0, none⟩) (some ⟨g3, 0, none⟩) c2 c3 im im wr (by obtain ⟨_, _, e, _, _, _, h⟩ := H8.out.k.addr (by omega); cases e; exact h) (by obtain ⟨_, _, e, _, _, _, h⟩ := H8.out.w.addr (by omega); cases e; exact h) (by omega)
                    rw [decide_eq_true rfl] at SM
                    have HA : Hid (Bok wr ba ma A2) := H8.out.a
                    have HL : Hid (Bok wr bl ml A2) := H8.out.al
                    have HD : Hid (Bok wr bb mb D) := H8.out.b
                    have HW : Hid (Owb wr w.heap.size (.slice (some ⟨g3, 0, none⟩) im.length c3) im) := H8.out.w
                    have HB : Hid (Below w.heap.size w wr) := H8.out.bel
                    clear H8
                    go_wp2_with fail
                    refine SM.mono ?_
                    rintro e wd ⟨rfl, q1, rfl⟩
                    clear SM
                    go_wp2_with fail
                    refine (I2.out (wr.drewN q1) ⟨HA.out.cells, HA.out.own, HA.out.ne⟩).mono ?_
                    rintro e we ⟨v5, rfl, hob5⟩
                    obtain ⟨a5, c5, rfl, hc5, hr5⟩ := hob5.own.nb
                    have HAe : Hid (Bok we ba ma A2) := (show Bok (wr.drewN q1) ba ma A2 from ⟨HA.out.cells, HA.out.own, HA.out.ne⟩).below hob5.bel HA.out.lt HA.out.lt2
                    have HLe : Hid (Bok we bl ml A2) := (show Bok (wr.drewN q1) bl ml A2 from ⟨HL.out.cells, HL.out.own, HL.out.ne⟩).below hob5.bel HL.out.lt HL.out.lt2
                    have HDe : Hid (Bok we bb mb D) := (show Bok (wr.drewN q1) bb mb D from ⟨HD.out.cells, HD.out.own, HD.out.ne⟩).below hob5.bel HD.out.lt HD.out.lt2
                    have HWe : Hid (Owb we w.heap.size (.slice (some ⟨g3, 0, none⟩) im.length c3) im) := (show Owb (wr.drewN q1) w.heap.size (.slice (some ⟨g3, 0, none⟩) im.length c3) im from HW.out).below hob5.bel (Nat.le_refl _)
                    have HBe : Hid (Below w.heap.size w we) := (below_drewN HB.out q1).trans (hob5.bel.mono HB.out.size)
                    have SN := same_any a5 (some ⟨g3, 0, none⟩) c5 c3 im im we hr5 (by obtain ⟨_, _, e, _, _, _, h⟩ := HWe.out.addr (by omega); cases e; exact h) (by omega)
                    rw [decide_eq_true rfl] at SN
                    clear hob5 hr5 HA HL HD HW HB
                    go_wp2_with fail
                    refine SN.mono ?_
                    rintro e wf ⟨rfl, q2, rfl⟩
                    clear SN
                    go_wp2_with fail
                    exact ⟨⟨k + 1, A2, D, by go_num, by omega, ⟨HAe.out.cells, HAe.out.own, HAe.out.ne⟩, ⟨HLe.out.cells, HLe.out.own, HLe.out.ne⟩, ⟨HDe.out.cells, HDe.out.own, HDe.out.ne⟩, hKA.out, hKD.out, below_drewN HBe.out _⟩, by simp [intOf]; omega⟩
          · have qk : (sk == 1) = false := by simpa using hk1
            clear c1 c2 c3
            have hil := imgF_length hKA.out
            have hi23 := imgF_23 A
            have him0 := imgF_head A
            have I2 : Hid (∀ w', Bok w' ba ma A → Calls Try.prog 13 #[.pointer (some ⟨ba, 0, none⟩)] w' fun e wx => ∃ v', e = .returned v' ∧ OBb w'.heap.size w' wx v' (imgF A)) := fun w' h => image_any ba ma A w' h hKA.out
            have I3 : Hid (∀ w', Bok w' bl ml A → Calls Try.prog 13 #[.pointer (some ⟨bl, 0, none⟩)] w' fun e wx => ∃ v', e = .returned v' ∧ OBb w'.heap.size w' wx v' (imgF A)) := fun w' h => image_any bl ml A w' h hKA.out
            obtain ⟨im, him⟩ : ∃ im, imgF A = im := ⟨_, rfl⟩
            rw [him] at hil hi23 him0 I2 I3
            clear him
            have him0h : Hid (im.getD 0 0 = 82) := him0
            clear him0
            go_wp2_with fail
            refine (I2.out wN hAe.out).mono ?_
            rintro e wa ⟨v1, rfl, hob1⟩
            obtain ⟨g1, c1, rfl, hg1, hg1', hcc1, _⟩ := hob1.own.addr (by omega)
            have hAa : Hid (Bok wa ba ma A) := hAe.out.below hob1.bel hAe.out.lt hAe.out.lt2
            have hLa : Hid (Bok wa bl ml A) := hLe.out.below hob1.bel hLe.out.lt hLe.out.lt2
            have hDa : Hid (Bok wa bb mb D) := hDe.out.below hob1.bel hDe.out.lt hDe.out.lt2
            have hba : Hid (Below w.heap.size w wa) := hbe.out.trans (hob1.bel.mono hbe.out.size)
            have hO1 : Hid (Owb wa w.heap.size (.slice (some ⟨g1, 0, none⟩) im.length c1) im) := hob1.own.base hbe.out.size
            clear hob1 hAe hLe hDe hbe hg1
            go_wp2_with fail
            refine (I2.out wa hAa.out).mono ?_
            rintro e wb ⟨v2, rfl, hob2⟩
            obtain ⟨g2, c2, rfl, hg2, hg2', hcc2, _⟩ := hob2.own.addr (by omega)
            have hAb : Hid (Bok wb ba ma A) := hAa.out.below hob2.bel hAa.out.lt hAa.out.lt2
            have hLb : Hid (Bok wb bl ml A) := hLa.out.below hob2.bel hLa.out.lt hLa.out.lt2
            have hDb : Hid (Bok wb bb mb D) := hDa.out.below hob2.bel hDa.out.lt hDa.out.lt2
            have hbb_ : Hid (Below w.heap.size w wb) := hba.out.trans (hob2.bel.mono hba.out.size)
            have hO1b : Hid (Owb wb w.heap.size (.slice (some ⟨g1, 0, none⟩) im.length c1) im) := hO1.out.below hob2.bel (Nat.le_refl _)
            have hO2b : Hid (Owb wb w.heap.size (.slice (some ⟨g2, 0, none⟩) im.length c2) im) := hob2.own.base hba.out.size
            clear hob2 hAa hLa hDa hba hO1
            go_wp2_with fail
            refine (I3.out wb hLb.out).mono ?_
            rintro e wc ⟨v3, rfl, hob3⟩
            obtain ⟨g3, c3, rfl, hg3, hg3', hcc3, _⟩ := hob3.own.addr (by omega)
            have H5 : Hid (Own5 w wc (.slice (some ⟨g1, 0, none⟩) im.length c1) (.slice (some ⟨g2, 0, none⟩) im.length c2) (.slice (some ⟨g3, 0, none⟩) im.length c3) im im ba ma bl ml bb mb A D) := ⟨hO1b.out.below hob3.bel (Nat.le_refl _), hO2b.out.below hob3.bel (Nat.le_refl _), hob3.own.base hbb_.out.size, hAb.out.below hob3.bel hAb.out.lt hAb.out.lt2, hLb.out.below hob3.bel hLb.out.lt hLb.out.lt2, hDb.out.below hob3.bel hDb.out.lt hDb.out.lt2, hbb_.out.trans (hob3.bel.mono hbb_.out.size)⟩
            have hx2 : Hid (∀ g, (Value.slice (some ⟨g1, 0, none⟩) im.length c1).ownBlock = some g → (Value.slice (some ⟨g2, 0, none⟩) im.length c2).ownBlock ≠ some g) := fun g e1 e2 => by
              simp only [Value.ownBlock, Option.some.injEq] at e1 e2; omega
            have hx3 : Hid (∀ g, (Value.slice (some ⟨g1, 0, none⟩) im.length c1).ownBlock = some g → (Value.slice (some ⟨g3, 0, none⟩) im.length c3).ownBlock ≠ some g) := fun g e1 e2 => by
              simp only [Value.ownBlock, Option.some.injEq] at e1 e2; omega
            clear hob3 hAb hLb hDb hbb_ hO1b hO2b I3 hg1' hg2 hg2' hg3 hg3'
            go_wp2_with fail
            go_loopw [14] (fun s wx => ∃ j : Nat, s = .int .i64 (j : Int) ∧ j ≤ im.length ∧ Own5 w wx (.slice (some ⟨g1, 0, none⟩) im.length c1) (.slice (some ⟨g2, 0, none⟩) im.length c2) (.slice (some ⟨g3, 0, none⟩) im.length c3) (List.replicate j 1 ++ im.drop j) im ba ma bl ml bb mb A D) (fun s _ => im.length - (intOf s).toNat)
            case atStart => exact ⟨0, rfl, Nat.zero_le _, H5.out⟩
            case round =>
              obtain ⟨j, rfl, hj, H'⟩ := hrel
              have H6 : Hid (Own5 w wr (.slice (some ⟨g1, 0, none⟩) im.length c1) (.slice (some ⟨g2, 0, none⟩) im.length c2) (.slice (some ⟨g3, 0, none⟩) im.length c3) (List.replicate j 1 ++ im.drop j) im ba ma bl ml bb mb A D) := H'
              clear H' H5
              by_cases hlj : j < im.length
              · obtain ⟨d0, d1⟩ := H6.out.l.at (j := j) (by simp; omega)
                have hji : (j : Int) < (im.length : Int) := by omega
                have HN : Hid (∀ wz, wz = wr.setCell ⟨g1, j, none⟩ (.int .u8 1) → Own5 w wz (.slice (some ⟨g1, 0, none⟩) im.length c1) (.slice (some ⟨g2, 0, none⟩) im.length c2) (.slice (some ⟨g3, 0, none⟩) im.length c3) (List.replicate (j + 1) 1 ++ im.drop (j + 1)) im ba ma bl ml bb mb A D) := fun wz hz => by
                  subst hz
                  have h1 := H6.out.l.set j 1
                  rw [over_set im hlj] at h1
                  exact H6.out.step (Chf.set (f := fun k => (Value.slice (some ⟨g1, 0, none⟩) im.length c1).ownBlock = some k) (g := g1) (Chf.refl _ wr) (.inl rfl) _) h1 hx2.out hx3.out
                generalize ((List.replicate j 1 ++ im.drop j).getD j 0).toNat = z at d0
                clear H6
                go_wp2_with fail
                go_roundw
                case rel => exact ⟨j + 1, by go_num, by omega, HN.out _ rfl⟩
                case measure => simp [intOf]; omega
              · obtain rfl : j = im.length := by omega
                have H7 : Hid (Own5 w wr (.slice (some ⟨g1, 0, none⟩) im.length c1) (.slice (some ⟨g2, 0, none⟩) im.length c2) (.slice (some ⟨g3, 0, none⟩) im.length c3) (List.replicate im.length 1) im ba ma bl ml bb mb A D) := by
                  have := H6.out
                  rw [List.drop_length, List.append_nil] at this
                  exact this
                clear H6
                rename World => wL
                go_wp2_with fail
                go_loopw [15, 16] (fun s15 s wx => ∃ j : Nat, s = .int .i64 (j : Int) ∧ j ≤ 80 ∧ Own5 w wx s15 (.slice (some ⟨g2, 0, none⟩) im.length c2) (.slice (some ⟨g3, 0, none⟩) im.length c3) (List.replicate im.length 1 ++ List.replicate j 2) im ba ma bl ml bb mb A D) (fun _ s _ => 80 - (intOf s).toNat)
                case atStart => exact ⟨0, rfl, Nat.zero_le _, by rw [List.replicate_zero, List.append_nil]; exact H7.out⟩
                case round =>
                  obtain ⟨j, rfl, hj, H'⟩ := hrel
                  have H8 : Hid (Own5 w wr _ (.slice (some ⟨g2, 0, none⟩) im.length c2) (.slice (some ⟨g3, 0, none⟩) im.length c3) (List.replicate im.length 1 ++ List.replicate j 2) im ba ma bl ml bb mb A D) := H'
                  clear H' H7
                  by_cases hlj : j < 80
                  · have hln : (List.replicate im.length (1 : UInt8) ++ List.replicate j 2).length ≤ 1000000000 := by simp; omega
                    have hln0 : 0 < (List.replicate im.length (1 : UInt8) ++ List.replicate j 2).length := by simp; omega
                    have hne : (List.replicate im.length (1 : UInt8) ++ List.replicate j 2).getD 0 0 ≠ im.getD 0 0 := by rw [over_head _ _ (by omega), him0h.out]; decide
                    have hsn : Hid (List.replicate im.length (1 : UInt8) ++ List.replicate j 2 ++ [2] = List.replicate im.length (1 : UInt8) ++ List.replicate (j + 1) 2) := by show _ = _; rw [List.append_assoc, ← List.replicate_succ']
                    generalize List.replicate im.length (1 : UInt8) ++ List.replicate j 2 = xs at H8 hln hln0 hne hsn
                    have hneh : Hid (xs.getD 0 0 ≠ im.getD 0 0) := hne
                    clear hne
                    go_wp2_with (at_builtin; refine append_own5 rfl _ _ rfl _ (.slice (some ⟨g2, 0, none⟩) im.length c2) (.slice (some ⟨g3, 0, none⟩) im.length c3) xs im ba ma bl ml bb mb A D 2 rfl H8.out rfl hln hln0 (by omega) hneh.out ?_; intro v' w' H9)
                    go_roundw
                    case rel => exact ⟨j + 1, by go_num, by omega, by rw [← hsn.out]; exact H9⟩
                    case measure => simp [intOf]; omega
                  · obtain rfl : j = 80 := by omega
                    obtain ⟨a15, c15, e15, _⟩ := H8.out.l.nb
                    subst e15
                    have hl80 : (List.replicate im.length (1 : UInt8) ++ List.replicate 80 2).length = im.length + 80 := by simp
                    rw [hl80] at H8 ⊢
                    clear hl80
                    have SM := same_any (some ⟨g2, 0, none⟩) (some ⟨g3, 0, none⟩) c2 c3 im im wr (by obtain ⟨_, _, e, _, _, _, h⟩ := H8.out.k.addr (by omega); cases e; exact h) (by obtain ⟨_, _, e, _, _, _, h⟩ := H8.out.w.addr (by omega); cases e; exact h) (by omega)
                    rw [decide_eq_true rfl] at SM
                    have HA : Hid (Bok wr ba ma A) := H8.out.a
                    have HL : Hid (Bok wr bl ml A) := H8.out.al
                    have HD : Hid (Bok wr bb mb D) := H8.out.b
                    have HW : Hid (Owb wr w.heap.size (.slice (some ⟨g3, 0, none⟩) im.length c3) im) := H8.out.w
                    have HB : Hid (Below w.heap.size w wr) := H8.out.bel
                    clear H8
                    go_wp2_with fail
                    refine SM.mono ?_
                    rintro e wd ⟨rfl, q1, rfl⟩
                    clear SM
                    go_wp2_with fail
                    refine (I2.out (wr.drewN q1) ⟨HA.out.cells, HA.out.own, HA.out.ne⟩).mono ?_
                    rintro e we ⟨v5, rfl, hob5⟩
                    obtain ⟨a5, c5, rfl, hc5, hr5⟩ := hob5.own.nb
                    have HAe : Hid (Bok we ba ma A) := (show Bok (wr.drewN q1) ba ma A from ⟨HA.out.cells, HA.out.own, HA.out.ne⟩).below hob5.bel HA.out.lt HA.out.lt2
                    have HLe : Hid (Bok we bl ml A) := (show Bok (wr.drewN q1) bl ml A from ⟨HL.out.cells, HL.out.own, HL.out.ne⟩).below hob5.bel HL.out.lt HL.out.lt2
                    have HDe : Hid (Bok we bb mb D) := (show Bok (wr.drewN q1) bb mb D from ⟨HD.out.cells, HD.out.own, HD.out.ne⟩).below hob5.bel HD.out.lt HD.out.lt2
                    have HWe : Hid (Owb we w.heap.size (.slice (some ⟨g3, 0, none⟩) im.length c3) im) := (show Owb (wr.drewN q1) w.heap.size (.slice (some ⟨g3, 0, none⟩) im.length c3) im from HW.out).below hob5.bel (Nat.le_refl _)
                    have HBe : Hid (Below w.heap.size w we) := (below_drewN HB.out q1).trans (hob5.bel.mono HB.out.size)
                    have SN := same_any a5 (some ⟨g3, 0, none⟩) c5 c3 im im we hr5 (by obtain ⟨_, _, e, _, _, _, h⟩ := HWe.out.addr (by omega); cases e; exact h) (by omega)
                    rw [decide_eq_true rfl] at SN
                    clear hob5 hr5 HA HL HD HW HB
                    go_wp2_with fail
                    refine SN.mono ?_
                    rintro e wf ⟨rfl, q2, rfl⟩
                    clear SN
                    go_wp2_with fail
                    exact ⟨⟨k + 1, A, D, by go_num, by omega, ⟨HAe.out.cells, HAe.out.own, HAe.out.ne⟩, ⟨HLe.out.cells, HLe.out.own, HLe.out.ne⟩, ⟨HDe.out.cells, HDe.out.own, HDe.out.ne⟩, hKA.out, hKD.out, below_drewN HBe.out _⟩, by simp [intOf]; omega⟩
      · have hAe := hAN
        have hLe := hLN
        have hDe := hDN
        have hbe := hbN
        clear hAN hLN hDN hbN
        by_cases hk1 : sk = 1
        · subst hk1
          have T1 := take_any ba ma A sj su sn wN hAe.out hKA.out hsj.out.u
          have hK2 : Hid (BkOk (takeF A sj su sn).2) := takeF_ok hKA.out _ _ _ hsj.out.u hsj.out.n
          obtain ⟨cd, hcd⟩ : ∃ c, (takeF A sj su sn).1 = c := ⟨_, rfl⟩
          obtain ⟨A2, hA2⟩ : ∃ c, (takeF A sj su sn).2 = c := ⟨_, rfl⟩
          have T2 : Hid (∀ w', Bok w' bl ml A → Calls Try.prog 12 #[.pointer (some ⟨bl, 0, none⟩), .string ⟨sj.toArray⟩, .int .i64 su, .int .i64 sn] w' fun e wx => e = .returned (.int .i64 (takeF A sj su sn).1) ∧ Bok wx bl ml (takeF A sj su sn).2 ∧ Chf (fun k => k = bl ∨ k = ml) w' wx) := fun w' h => take_any bl ml A sj su sn w' h hKA.out hsj.out.u
          rw [hcd, hA2] at T1 T2
          rw [hA2] at hK2
          clear hcd hA2
          go_wp2_with fail
          refine T1.mono ?_
          rintro e wt ⟨rfl, hAt', hct⟩
          have hAt : Hid (Bok wt ba ma A2) := hAt'
          have hLt : Hid (Bok wt bl ml A) := hLe.out.chf hct (by rintro (e | e); exact s1_ba_bl e.symm; exact s3_ba_bl e.symm) (by rintro (e | e); exact s2_ba_bl e.symm; exact s4_ba_bl e.symm)
          have hDt : Hid (Bok wt bb mb D) := hDe.out.chf hct (by rintro (e | e); exact s1_ba_bb e.symm; exact s3_ba_bb e.symm) (by rintro (e | e); exact s2_ba_bb e.symm; exact s4_ba_bb e.symm)
          have hbt : Hid (Below w.heap.size w wt) := chf_new hbe.out hct (by rintro k (rfl | rfl) <;> assumption)
          have cNt : Hid (Bl 27 wt nb [.int .i64 1, .string ⟨sj.toArray⟩, .int .i64 su, .int .i64 sn]) := cN.out.chf hct (by rintro (e | e) <;> omega)
          clear hAt' hct T1 hAe hLe hDe hbe cN c0 c1 c2 c3
          have c0 := cNt.out.cell 0 (by simp)
          have c1 := cNt.out.cell 1 (by simp)
          have c2 := cNt.out.cell 2 (by simp)
          have c3 := cNt.out.cell 3 (by simp)
          simp only [List.getElem_cons_zero, List.getElem_cons_succ] at c0 c1 c2 c3
          go_wp2_with fail
          refine (T2.out wt hLt.out).mono ?_
          rintro e wu ⟨rfl, hLu', hcu⟩
          have hLe : Hid (Bok wu bl ml A2) := hLu'
          have hAe : Hid (Bok wu ba ma A2) := hAt.out.chf hcu (by rintro (e | e); exact s1_ba_bl e; exact s2_ba_bl e) (by rintro (e | e); exact s3_ba_bl e; exact s4_ba_bl e)
          have hDe : Hid (Bok wu bb mb D) := hDt.out.chf hcu (by rintro (e | e); exact s1_bl_bb e.symm; exact s3_bl_bb e.symm) (by rintro (e | e); exact s2_bl_bb e.symm; exact s4_bl_bb e.symm)
          have hbe : Hid (Below w.heap.size w wu) := chf_new hbt.out hcu (by rintro k (rfl | rfl) <;> assumption)
          clear hLu' hcu T2 hAt hLt hDt hbt cNt c0 c1 c2 c3 hKA
          have hKA : Hid (BkOk A2) := hK2.out
          have hil := imgF_length hKA.out
          have hi23 := imgF_23 A2
          have him0 := imgF_head A2
          have I2 : Hid (∀ w', Bok w' ba ma A2 → Calls Try.prog 13 #[.pointer (some ⟨ba, 0, none⟩)] w' fun e wx => ∃ v', e = .returned v' ∧ OBb w'.heap.size w' wx v' (imgF A2)) := fun w' h => image_any ba ma A2 w' h hKA.out
          have I3 : Hid (∀ w', Bok w' bl ml A2 → Calls Try.prog 13 #[.pointer (some ⟨bl, 0, none⟩)] w' fun e wx => ∃ v', e = .returned v' ∧ OBb w'.heap.size w' wx v' (imgF A2)) := fun w' h => image_any bl ml A2 w' h hKA.out
          obtain ⟨im, him⟩ : ∃ im, imgF A2 = im := ⟨_, rfl⟩
          rw [him] at hil hi23 him0 I2 I3
          clear him
          have him0h : Hid (im.getD 0 0 = 82) := him0
          clear him0
          go_wp2_with fail
          refine (I2.out wu hAe.out).mono ?_
          rintro e wa ⟨v1, rfl, hob1⟩
          obtain ⟨g1, c1, rfl, hg1, hg1', hcc1, _⟩ := hob1.own.addr (by omega)
          have hAa : Hid (Bok wa ba ma A2) := hAe.out.below hob1.bel hAe.out.lt hAe.out.lt2
          have hLa : Hid (Bok wa bl ml A2) := hLe.out.below hob1.bel hLe.out.lt hLe.out.lt2
          have hDa : Hid (Bok wa bb mb D) := hDe.out.below hob1.bel hDe.out.lt hDe.out.lt2
          have hba : Hid (Below w.heap.size w wa) := hbe.out.trans (hob1.bel.mono hbe.out.size)
          have hO1 : Hid (Owb wa w.heap.size (.slice (some ⟨g1, 0, none⟩) im.length c1) im) := hob1.own.base hbe.out.size
          clear hob1 hAe hLe hDe hbe hg1
          go_wp2_with fail
          refine (I2.out wa hAa.out).mono ?_
          rintro e wb ⟨v2, rfl, hob2⟩
          obtain ⟨g2, c2, rfl, hg2, hg2', hcc2, _⟩ := hob2.own.addr (by omega)
          have hAb : Hid (Bok wb ba ma A2) := hAa.out.below hob2.bel hAa.out.lt hAa.out.lt2
          have hLb : Hid (Bok wb bl ml A2) := hLa.out.below hob2.bel hLa.out.lt hLa.out.lt2
          have hDb : Hid (Bok wb bb mb D) := hDa.out.below hob2.bel hDa.out.lt hDa.out.lt2
          have hbb_ : Hid (Below w.heap.size w wb) := hba.out.trans (hob2.bel.mono hba.out.size)
          have hO1b : Hid (Owb wb w.heap.size (.slice (some ⟨g1, 0, none⟩) im.length c1) im) := hO1.out.below hob2.bel (Nat.le_refl _)
          have hO2b : Hid (Owb wb w.heap.size (.slice (some ⟨g2, 0, none⟩) im.length c2) im) := hob2.own.base hba.out.size
          clear hob2 hAa hLa hDa hba hO1
          go_wp2_with fail
          refine (I3.out wb hLb.out).mono ?_
          rintro e wc ⟨v3, rfl, hob3⟩
          obtain ⟨g3, c3, rfl, hg3, hg3', hcc3, _⟩ := hob3.own.addr (by omega)
          have H5 : Hid (Own5 w wc (.slice (some ⟨g1, 0, none⟩) im.length c1) (.slice (some ⟨g2, 0, none⟩) im.length c2) (.slice (some ⟨g3, 0, none⟩) im.length c3) im im ba ma bl ml bb mb A2 D) := ⟨hO1b.out.below hob3.bel (Nat.le_refl _), hO2b.out.below hob3.bel (Nat.le_refl _), hob3.own.base hbb_.out.size, hAb.out.below hob3.bel hAb.out.lt hAb.out.lt2, hLb.out.below hob3.bel hLb.out.lt hLb.out.lt2, hDb.out.below hob3.bel hDb.out.lt hDb.out.lt2, hbb_.out.trans (hob3.bel.mono hbb_.out.size)⟩
          have hx2 : Hid (∀ g, (Value.slice (some ⟨g1, 0, none⟩) im.length c1).ownBlock = some g → (Value.slice (some ⟨g2, 0, none⟩) im.length c2).ownBlock ≠ some g) := fun g e1 e2 => by
            simp only [Value.ownBlock, Option.some.injEq] at e1 e2; omega
          have hx3 : Hid (∀ g, (Value.slice (some ⟨g1, 0, none⟩) im.length c1).ownBlock = some g → (Value.slice (some ⟨g3, 0, none⟩) im.length c3).ownBlock ≠ some g) := fun g e1 e2 => by
            simp only [Value.ownBlock, Option.some.injEq] at e1 e2; omega
          clear hob3 hAb hLb hDb hbb_ hO1b hO2b I3 hg1' hg2 hg2' hg3 hg3'
          go_wp2_with fail
          go_loopw [14] (fun s wx => ∃ j : Nat, s = .int .i64 (j : Int) ∧ j ≤ im.length ∧ Own5 w wx (.slice (some ⟨g1, 0, none⟩) im.length c1) (.slice (some ⟨g2, 0, none⟩) im.length c2) (.slice (some ⟨g3, 0, none⟩) im.length c3) (List.replicate j 1 ++ im.drop j) im ba ma bl ml bb mb A2 D) (fun s _ => im.length - (intOf s).toNat)
          case atStart => exact ⟨0, rfl, Nat.zero_le _, H5.out⟩
          case round =>
            obtain ⟨j, rfl, hj, H'⟩ := hrel
            have H6 : Hid (Own5 w wr (.slice (some ⟨g1, 0, none⟩) im.length c1) (.slice (some ⟨g2, 0, none⟩) im.length c2) (.slice (some ⟨g3, 0, none⟩) im.length c3) (List.replicate j 1 ++ im.drop j) im ba ma bl ml bb mb A2 D) := H'
            clear H' H5
            by_cases hlj : j < im.length
            · obtain ⟨d0, d1⟩ := H6.out.l.at (j := j) (by simp; omega)
              have hji : (j : Int) < (im.length : Int) := by omega
              have HN : Hid (∀ wz, wz = wr.setCell ⟨g1, j, none⟩ (.int .u8 1) → Own5 w wz (.slice (some ⟨g1, 0, none⟩) im.length c1) (.slice (some ⟨g2, 0, none⟩) im.length c2) (.slice (some ⟨g3, 0, none⟩) im.length c3) (List.replicate (j + 1) 1 ++ im.drop (j + 1)) im ba ma bl ml bb mb A2 D) := fun wz hz => by
                subst hz
                have h1 := H6.out.l.set j 1
                rw [over_set im hlj] at h1
                exact H6.out.step (Chf.set (f := fun k => (Value.slice (some ⟨g1, 0, none⟩) im.length c1).ownBlock = some k) (g := g1) (Chf.refl _ wr) (.inl rfl) _) h1 hx2.out hx3.out
              generalize ((List.replicate j 1 ++ im.drop j).getD j 0).toNat = z at d0
              clear H6
              go_wp2_with fail
              go_roundw
              case rel => exact ⟨j + 1, by go_num, by omega, HN.out _ rfl⟩
              case measure => simp [intOf]; omega
            · obtain rfl : j = im.length := by omega
              have H7 : Hid (Own5 w wr (.slice (some ⟨g1, 0, none⟩) im.length c1) (.slice (some ⟨g2, 0, none⟩) im.length c2) (.slice (some ⟨g3, 0, none⟩) im.length c3) (List.replicate im.length 1) im ba ma bl ml bb mb A2 D) := by
                have := H6.out
                rw [List.drop_length, List.append_nil] at this
                exact this
              clear H6
              rename World => wL
              go_wp2_with fail
              go_loopw [15, 16] (fun s15 s wx => ∃ j : Nat, s = .int .i64 (j : Int) ∧ j ≤ 80 ∧ Own5 w wx s15 (.slice (some ⟨g2, 0, none⟩) im.length c2) (.slice (some ⟨g3, 0, none⟩) im.length c3) (List.replicate im.length 1 ++ List.replicate j 2) im ba ma bl ml bb mb A2 D) (fun _ s _ => 80 - (intOf s).toNat)
              case atStart => exact ⟨0, rfl, Nat.zero_le _, by rw [List.replicate_zero, List.append_nil]; exact H7.out⟩
              case round =>
                obtain ⟨j, rfl, hj, H'⟩ := hrel
                have H8 : Hid (Own5 w wr _ (.slice (some ⟨g2, 0, none⟩) im.length c2) (.slice (some ⟨g3, 0, none⟩) im.length c3) (List.replicate im.length 1 ++ List.replicate j 2) im ba ma bl ml bb mb A2 D) := H'
                clear H' H7
                by_cases hlj : j < 80
                · have hln : (List.replicate im.length (1 : UInt8) ++ List.replicate j 2).length ≤ 1000000000 := by simp; omega
                  have hln0 : 0 < (List.replicate im.length (1 : UInt8) ++ List.replicate j 2).length := by simp; omega
                  have hne : (List.replicate im.length (1 : UInt8) ++ List.replicate j 2).getD 0 0 ≠ im.getD 0 0 := by rw [over_head _ _ (by omega), him0h.out]; decide
                  have hsn : Hid (List.replicate im.length (1 : UInt8) ++ List.replicate j 2 ++ [2] = List.replicate im.length (1 : UInt8) ++ List.replicate (j + 1) 2) := by show _ = _; rw [List.append_assoc, ← List.replicate_succ']
                  generalize List.replicate im.length (1 : UInt8) ++ List.replicate j 2 = xs at H8 hln hln0 hne hsn
                  have hneh : Hid (xs.getD 0 0 ≠ im.getD 0 0) := hne
                  clear hne
                  go_wp2_with (at_builtin; refine append_own5 rfl _ _ rfl _ (.slice (some ⟨g2, 0, none⟩) im.length c2) (.slice (some ⟨g3, 0, none⟩) im.length c3) xs im ba ma bl ml bb mb A2 D 2 rfl H8.out rfl hln hln0 (by omega) hneh.out ?_; intro v' w' H9)
                  go_roundw
                  case rel => exact ⟨j + 1, by go_num, by omega, by rw [← hsn.out]; exact H9⟩
                  case measure => simp [intOf]; omega
                · obtain rfl : j = 80 := by omega
                  obtain ⟨a15, c15, e15, _⟩ := H8.out.l.nb
                  subst e15
                  have hl80 : (List.replicate im.length (1 : UInt8) ++ List.replicate 80 2).length = im.length + 80 := by simp
                  rw [hl80] at H8 ⊢
                  clear hl80
                  have SM := same_any (some ⟨g2, 0, none⟩) (some ⟨g3, 0, none⟩) c2 c3 im im wr (by obtain ⟨_, _, e, _, _, _, h⟩ := H8.out.k.addr (by omega); cases e; exact h) (by obtain ⟨_, _, e, _, _, _, h⟩ := H8.out.w.addr (by omega); cases e; exact h) (by omega)
                  rw [decide_eq_true rfl] at SM
                  have HA : Hid (Bok wr ba ma A2) := H8.out.a
                  have HL : Hid (Bok wr bl ml A2) := H8.out.al
                  have HD : Hid (Bok wr bb mb D) := H8.out.b
                  have HW : Hid (Owb wr w.heap.size (.slice (some ⟨g3, 0, none⟩) im.length c3) im) := H8.out.w
                  have HB : Hid (Below w.heap.size w wr) := H8.out.bel
                  clear H8
                  go_wp2_with fail
                  refine SM.mono ?_
                  rintro e wd ⟨rfl, q1, rfl⟩
                  clear SM
                  go_wp2_with fail
                  refine (I2.out (wr.drewN q1) ⟨HA.out.cells, HA.out.own, HA.out.ne⟩).mono ?_
                  rintro e we ⟨v5, rfl, hob5⟩
                  obtain ⟨a5, c5, rfl, hc5, hr5⟩ := hob5.own.nb
                  have HAe : Hid (Bok we ba ma A2) := (show Bok (wr.drewN q1) ba ma A2 from ⟨HA.out.cells, HA.out.own, HA.out.ne⟩).below hob5.bel HA.out.lt HA.out.lt2
                  have HLe : Hid (Bok we bl ml A2) := (show Bok (wr.drewN q1) bl ml A2 from ⟨HL.out.cells, HL.out.own, HL.out.ne⟩).below hob5.bel HL.out.lt HL.out.lt2
                  have HDe : Hid (Bok we bb mb D) := (show Bok (wr.drewN q1) bb mb D from ⟨HD.out.cells, HD.out.own, HD.out.ne⟩).below hob5.bel HD.out.lt HD.out.lt2
                  have HWe : Hid (Owb we w.heap.size (.slice (some ⟨g3, 0, none⟩) im.length c3) im) := (show Owb (wr.drewN q1) w.heap.size (.slice (some ⟨g3, 0, none⟩) im.length c3) im from HW.out).below hob5.bel (Nat.le_refl _)
                  have HBe : Hid (Below w.heap.size w we) := (below_drewN HB.out q1).trans (hob5.bel.mono HB.out.size)
                  have SN := same_any a5 (some ⟨g3, 0, none⟩) c5 c3 im im we hr5 (by obtain ⟨_, _, e, _, _, _, h⟩ := HWe.out.addr (by omega); cases e; exact h) (by omega)
                  rw [decide_eq_true rfl] at SN
                  clear hob5 hr5 HA HL HD HW HB
                  go_wp2_with fail
                  refine SN.mono ?_
                  rintro e wf ⟨rfl, q2, rfl⟩
                  clear SN
                  go_wp2_with fail
                  exact ⟨⟨k + 1, A2, D, by go_num, by omega, ⟨HAe.out.cells, HAe.out.own, HAe.out.ne⟩, ⟨HLe.out.cells, HLe.out.own, HLe.out.ne⟩, ⟨HDe.out.cells, HDe.out.own, HDe.out.ne⟩, hKA.out, hKD.out, below_drewN HBe.out _⟩, by simp [intOf]; omega⟩
        · have qk : (sk == 1) = false := by simpa using hk1
          clear c1 c2 c3
          have hil := imgF_length hKA.out
          have hi23 := imgF_23 A
          have him0 := imgF_head A
          have I2 : Hid (∀ w', Bok w' ba ma A → Calls Try.prog 13 #[.pointer (some ⟨ba, 0, none⟩)] w' fun e wx => ∃ v', e = .returned v' ∧ OBb w'.heap.size w' wx v' (imgF A)) := fun w' h => image_any ba ma A w' h hKA.out
          have I3 : Hid (∀ w', Bok w' bl ml A → Calls Try.prog 13 #[.pointer (some ⟨bl, 0, none⟩)] w' fun e wx => ∃ v', e = .returned v' ∧ OBb w'.heap.size w' wx v' (imgF A)) := fun w' h => image_any bl ml A w' h hKA.out
          obtain ⟨im, him⟩ : ∃ im, imgF A = im := ⟨_, rfl⟩
          rw [him] at hil hi23 him0 I2 I3
          clear him
          have him0h : Hid (im.getD 0 0 = 82) := him0
          clear him0
          go_wp2_with fail
          refine (I2.out wN hAe.out).mono ?_
          rintro e wa ⟨v1, rfl, hob1⟩
          obtain ⟨g1, c1, rfl, hg1, hg1', hcc1, _⟩ := hob1.own.addr (by omega)
          have hAa : Hid (Bok wa ba ma A) := hAe.out.below hob1.bel hAe.out.lt hAe.out.lt2
          have hLa : Hid (Bok wa bl ml A) := hLe.out.below hob1.bel hLe.out.lt hLe.out.lt2
          have hDa : Hid (Bok wa bb mb D) := hDe.out.below hob1.bel hDe.out.lt hDe.out.lt2
          have hba : Hid (Below w.heap.size w wa) := hbe.out.trans (hob1.bel.mono hbe.out.size)
          have hO1 : Hid (Owb wa w.heap.size (.slice (some ⟨g1, 0, none⟩) im.length c1) im) := hob1.own.base hbe.out.size
          clear hob1 hAe hLe hDe hbe hg1
          go_wp2_with fail
          refine (I2.out wa hAa.out).mono ?_
          rintro e wb ⟨v2, rfl, hob2⟩
          obtain ⟨g2, c2, rfl, hg2, hg2', hcc2, _⟩ := hob2.own.addr (by omega)
          have hAb : Hid (Bok wb ba ma A) := hAa.out.below hob2.bel hAa.out.lt hAa.out.lt2
          have hLb : Hid (Bok wb bl ml A) := hLa.out.below hob2.bel hLa.out.lt hLa.out.lt2
          have hDb : Hid (Bok wb bb mb D) := hDa.out.below hob2.bel hDa.out.lt hDa.out.lt2
          have hbb_ : Hid (Below w.heap.size w wb) := hba.out.trans (hob2.bel.mono hba.out.size)
          have hO1b : Hid (Owb wb w.heap.size (.slice (some ⟨g1, 0, none⟩) im.length c1) im) := hO1.out.below hob2.bel (Nat.le_refl _)
          have hO2b : Hid (Owb wb w.heap.size (.slice (some ⟨g2, 0, none⟩) im.length c2) im) := hob2.own.base hba.out.size
          clear hob2 hAa hLa hDa hba hO1
          go_wp2_with fail
          refine (I3.out wb hLb.out).mono ?_
          rintro e wc ⟨v3, rfl, hob3⟩
          obtain ⟨g3, c3, rfl, hg3, hg3', hcc3, _⟩ := hob3.own.addr (by omega)
          have H5 : Hid (Own5 w wc (.slice (some ⟨g1, 0, none⟩) im.length c1) (.slice (some ⟨g2, 0, none⟩) im.length c2) (.slice (some ⟨g3, 0, none⟩) im.length c3) im im ba ma bl ml bb mb A D) := ⟨hO1b.out.below hob3.bel (Nat.le_refl _), hO2b.out.below hob3.bel (Nat.le_refl _), hob3.own.base hbb_.out.size, hAb.out.below hob3.bel hAb.out.lt hAb.out.lt2, hLb.out.below hob3.bel hLb.out.lt hLb.out.lt2, hDb.out.below hob3.bel hDb.out.lt hDb.out.lt2, hbb_.out.trans (hob3.bel.mono hbb_.out.size)⟩
          have hx2 : Hid (∀ g, (Value.slice (some ⟨g1, 0, none⟩) im.length c1).ownBlock = some g → (Value.slice (some ⟨g2, 0, none⟩) im.length c2).ownBlock ≠ some g) := fun g e1 e2 => by
            simp only [Value.ownBlock, Option.some.injEq] at e1 e2; omega
          have hx3 : Hid (∀ g, (Value.slice (some ⟨g1, 0, none⟩) im.length c1).ownBlock = some g → (Value.slice (some ⟨g3, 0, none⟩) im.length c3).ownBlock ≠ some g) := fun g e1 e2 => by
            simp only [Value.ownBlock, Option.some.injEq] at e1 e2; omega
          clear hob3 hAb hLb hDb hbb_ hO1b hO2b I3 hg1' hg2 hg2' hg3 hg3'
          go_wp2_with fail
          go_loopw [14] (fun s wx => ∃ j : Nat, s = .int .i64 (j : Int) ∧ j ≤ im.length ∧ Own5 w wx (.slice (some ⟨g1, 0, none⟩) im.length c1) (.slice (some ⟨g2, 0, none⟩) im.length c2) (.slice (some ⟨g3, 0, none⟩) im.length c3) (List.replicate j 1 ++ im.drop j) im ba ma bl ml bb mb A D) (fun s _ => im.length - (intOf s).toNat)
          case atStart => exact ⟨0, rfl, Nat.zero_le _, H5.out⟩
          case round =>
            obtain ⟨j, rfl, hj, H'⟩ := hrel
            have H6 : Hid (Own5 w wr (.slice (some ⟨g1, 0, none⟩) im.length c1) (.slice (some ⟨g2, 0, none⟩) im.length c2) (.slice (some ⟨g3, 0, none⟩) im.length c3) (List.replicate j 1 ++ im.drop j) im ba ma bl ml bb mb A D) := H'
            clear H' H5
            by_cases hlj : j < im.length
            · obtain ⟨d0, d1⟩ := H6.out.l.at (j := j) (by simp; omega)
              have hji : (j : Int) < (im.length : Int) := by omega
              have HN : Hid (∀ wz, wz = wr.setCell ⟨g1, j, none⟩ (.int .u8 1) → Own5 w wz (.slice (some ⟨g1, 0, none⟩) im.length c1) (.slice (some ⟨g2, 0, none⟩) im.length c2) (.slice (some ⟨g3, 0, none⟩) im.length c3) (List.replicate (j + 1) 1 ++ im.drop (j + 1)) im ba ma bl ml bb mb A D) := fun wz hz => by
                subst hz
                have h1 := H6.out.l.set j 1
                rw [over_set im hlj] at h1
                exact H6.out.step (Chf.set (f := fun k => (Value.slice (some ⟨g1, 0, none⟩) im.length c1).ownBlock = some k) (g := g1) (Chf.refl _ wr) (.inl rfl) _) h1 hx2.out hx3.out
              generalize ((List.replicate j 1 ++ im.drop j).getD j 0).toNat = z at d0
              clear H6
              go_wp2_with fail
              go_roundw
              case rel => exact ⟨j + 1, by go_num, by omega, HN.out _ rfl⟩
              case measure => simp [intOf]; omega
            · obtain rfl : j = im.length := by omega
              have H7 : Hid (Own5 w wr (.slice (some ⟨g1, 0, none⟩) im.length c1) (.slice (some ⟨g2, 0, none⟩) im.length c2) (.slice (some ⟨g3, 0, none⟩) im.length c3) (List.replicate im.length 1) im ba ma bl ml bb mb A D) := by
                have := H6.out
                rw [List.drop_length, List.append_nil] at this
                exact this
              clear H6
              rename World => wL
              go_wp2_with fail
              go_loopw [15, 16] (fun s15 s wx => ∃ j : Nat, s = .int .i64 (j : Int) ∧ j ≤ 80 ∧ Own5 w wx s15 (.slice (some ⟨g2, 0, none⟩) im.length c2) (.slice (some ⟨g3, 0, none⟩) im.length c3) (List.replicate im.length 1 ++ List.replicate j 2) im ba ma bl ml bb mb A D) (fun _ s _ => 80 - (intOf s).toNat)
              case atStart => exact ⟨0, rfl, Nat.zero_le _, by rw [List.replicate_zero, List.append_nil]; exact H7.out⟩
              case round =>
                obtain ⟨j, rfl, hj, H'⟩ := hrel
                have H8 : Hid (Own5 w wr _ (.slice (some ⟨g2, 0, none⟩) im.length c2) (.slice (some ⟨g3, 0, none⟩) im.length c3) (List.replicate im.length 1 ++ List.replicate j 2) im ba ma bl ml bb mb A D) := H'
                clear H' H7
                by_cases hlj : j < 80
                · have hln : (List.replicate im.length (1 : UInt8) ++ List.replicate j 2).length ≤ 1000000000 := by simp; omega
                  have hln0 : 0 < (List.replicate im.length (1 : UInt8) ++ List.replicate j 2).length := by simp; omega
                  have hne : (List.replicate im.length (1 : UInt8) ++ List.replicate j 2).getD 0 0 ≠ im.getD 0 0 := by rw [over_head _ _ (by omega), him0h.out]; decide
                  have hsn : Hid (List.replicate im.length (1 : UInt8) ++ List.replicate j 2 ++ [2] = List.replicate im.length (1 : UInt8) ++ List.replicate (j + 1) 2) := by show _ = _; rw [List.append_assoc, ← List.replicate_succ']
                  generalize List.replicate im.length (1 : UInt8) ++ List.replicate j 2 = xs at H8 hln hln0 hne hsn
                  have hneh : Hid (xs.getD 0 0 ≠ im.getD 0 0) := hne
                  clear hne
                  go_wp2_with (at_builtin; refine append_own5 rfl _ _ rfl _ (.slice (some ⟨g2, 0, none⟩) im.length c2) (.slice (some ⟨g3, 0, none⟩) im.length c3) xs im ba ma bl ml bb mb A D 2 rfl H8.out rfl hln hln0 (by omega) hneh.out ?_; intro v' w' H9)
                  go_roundw
                  case rel => exact ⟨j + 1, by go_num, by omega, by rw [← hsn.out]; exact H9⟩
                  case measure => simp [intOf]; omega
                · obtain rfl : j = 80 := by omega
                  obtain ⟨a15, c15, e15, _⟩ := H8.out.l.nb
                  subst e15
                  have hl80 : (List.replicate im.length (1 : UInt8) ++ List.replicate 80 2).length = im.length + 80 := by simp
                  rw [hl80] at H8 ⊢
                  clear hl80
                  have SM := same_any (some ⟨g2, 0, none⟩) (some ⟨g3, 0, none⟩) c2 c3 im im wr (by obtain ⟨_, _, e, _, _, _, h⟩ := H8.out.k.addr (by omega); cases e; exact h) (by obtain ⟨_, _, e, _, _, _, h⟩ := H8.out.w.addr (by omega); cases e; exact h) (by omega)
                  rw [decide_eq_true rfl] at SM
                  have HA : Hid (Bok wr ba ma A) := H8.out.a
                  have HL : Hid (Bok wr bl ml A) := H8.out.al
                  have HD : Hid (Bok wr bb mb D) := H8.out.b
                  have HW : Hid (Owb wr w.heap.size (.slice (some ⟨g3, 0, none⟩) im.length c3) im) := H8.out.w
                  have HB : Hid (Below w.heap.size w wr) := H8.out.bel
                  clear H8
                  go_wp2_with fail
                  refine SM.mono ?_
                  rintro e wd ⟨rfl, q1, rfl⟩
                  clear SM
                  go_wp2_with fail
                  refine (I2.out (wr.drewN q1) ⟨HA.out.cells, HA.out.own, HA.out.ne⟩).mono ?_
                  rintro e we ⟨v5, rfl, hob5⟩
                  obtain ⟨a5, c5, rfl, hc5, hr5⟩ := hob5.own.nb
                  have HAe : Hid (Bok we ba ma A) := (show Bok (wr.drewN q1) ba ma A from ⟨HA.out.cells, HA.out.own, HA.out.ne⟩).below hob5.bel HA.out.lt HA.out.lt2
                  have HLe : Hid (Bok we bl ml A) := (show Bok (wr.drewN q1) bl ml A from ⟨HL.out.cells, HL.out.own, HL.out.ne⟩).below hob5.bel HL.out.lt HL.out.lt2
                  have HDe : Hid (Bok we bb mb D) := (show Bok (wr.drewN q1) bb mb D from ⟨HD.out.cells, HD.out.own, HD.out.ne⟩).below hob5.bel HD.out.lt HD.out.lt2
                  have HWe : Hid (Owb we w.heap.size (.slice (some ⟨g3, 0, none⟩) im.length c3) im) := (show Owb (wr.drewN q1) w.heap.size (.slice (some ⟨g3, 0, none⟩) im.length c3) im from HW.out).below hob5.bel (Nat.le_refl _)
                  have HBe : Hid (Below w.heap.size w we) := (below_drewN HB.out q1).trans (hob5.bel.mono HB.out.size)
                  have SN := same_any a5 (some ⟨g3, 0, none⟩) c5 c3 im im we hr5 (by obtain ⟨_, _, e, _, _, _, h⟩ := HWe.out.addr (by omega); cases e; exact h) (by omega)
                  rw [decide_eq_true rfl] at SN
                  clear hob5 hr5 HA HL HD HW HB
                  go_wp2_with fail
                  refine SN.mono ?_
                  rintro e wf ⟨rfl, q2, rfl⟩
                  clear SN
                  go_wp2_with fail
                  exact ⟨⟨k + 1, A, D, by go_num, by omega, ⟨HAe.out.cells, HAe.out.own, HAe.out.ne⟩, ⟨HLe.out.cells, HLe.out.own, HLe.out.ne⟩, ⟨HDe.out.cells, HDe.out.own, HDe.out.ne⟩, hKA.out, hKD.out, below_drewN HBe.out _⟩, by simp [intOf]; omega⟩
    · obtain rfl : k = os.length := by omega
      go_wp2_with fail
      go_ret
      exact ⟨by simp, hb9.out⟩

end Go.Proofs.Ytoobhpbjojicoaa
