import Derived.Test.YthlfboaidhgnlaaGreatDoorCv
namespace Go.Proofs.YthlfboaidhgnlaaGreatDoor
open Go.RowKit

theorem all_drop {v : List Nd} {L : List Nat} {j : Nat} (hj : j < L.length) : (L.drop j).all (fitF v) = (fitF v (L.getD j 0) && (L.drop (j + 1)).all (fitF v)) := by
  have e : L.getD j 0 = L[j] := by rw [List.getD_eq_getElem?_getD, List.getElem?_eq_getElem hj]; rfl
  rw [e, List.drop_eq_getElem_cons hj]
  rfl

set_option maxRecDepth 100000 in
set_option maxHeartbeats 8000000 in
theorem cparse_any (t : List UInt8) (w : World) (hG : GL w.heap.size w) :
    Calls Tryz.prog 13 #[.string ⟨t.toArray⟩] w fun e w' => (∃ va aa, e = .returned (.tuple #[clV va aa (cparseF t).1, .int .i64 ((cparseF t).2 : Nat)]) ∧ NO w.heap.size w' va (cparseF t).1.val ∧ OT w.heap.size w' aa (cparseF t).1.aud) ∧ Below w.heap.size w w' := by
  obtain ⟨w0, hw0⟩ : ∃ w0 : World, w.alloc (.cells (clC (.slice none 0 0) (.slice none 0 0) cm0).toArray 27) = w0 := ⟨_, rfl⟩
  have HB0 : Hid (Below w.heap.size w w0) := by rw [← hw0]; exact alloc_below _ _
  have HBox0 : Hid (Bl 27 w0 w.heap.size (clC (.slice none 0 0) (.slice none 0 0) cm0)) := by rw [← hw0]; exact alloc_bl _ _ _
  have C0 := parse_all t w0 ((hG.below HB0.out).up HB0.out.size)
  have HS0 : Hid (w.heap.size < w0.heap.size) := HBox0.out.lt
  have HW0 : Hid (w.alloc (.cells #[.slice none 0 0, .string ⟨#[]⟩, .bool false, .string ⟨#[]⟩, .bool false, .slice none 0 0, .bool false, .string ⟨#[]⟩, .bool false, .bool false, .int .i64 0, .bool false, .int .i64 0, .bool false, .int .i64 0] 27) = w0) := hw0
  have hbd := parse_bd t
  have HP : Hid (cparseF t = if (parseF t).2.1 ≠ 0 then (cm0, (parseF t).2.1)
    else if ((parseF t).1.getD 0 (nd0 0)).kind ≠ 7 then (cm0, 130)
    else if (kidsF (parseF t).1 0).all (fitF (parseF t).1) then (saidF (parseF t).1, 0) else (cm0, 131)) := rfl
  clear hG hw0
  obtain ⟨l, hl⟩ : ∃ l, (parseF t).1 = l := ⟨_, rfl⟩
  obtain ⟨c, hc⟩ : ∃ c, (parseF t).2.1 = c := ⟨_, rfl⟩
  obtain ⟨p, hp⟩ : ∃ p, (parseF t).2.2 = p := ⟨_, rfl⟩
  have hsh : c = 0 → 0 < l.length := fun h0 => by
    have := (parse_val (t := t) (hc.trans h0)).len
    rw [hl] at this
    simp only [List.length_cons, List.length_nil] at this
    omega
  rw [hl, hc, hp] at C0
  rw [hl] at hbd
  rw [hl, hc] at HP
  clear hl hc hp
  go_enter Tryz.func13, Tryz.ntmps13
  go_wp2_with fail
  rw [HW0.out]
  clear HW0
  refine C0.mono ?_
  clear C0
  rintro e w1 ⟨hB1, v, rfl, hno⟩
  obtain ⟨ao, cap, hN⟩ := hno.nr
  obtain ⟨rfl, hcap, _⟩ := id hN
  have HB1 : Hid (Below w.heap.size w w1) := HB0.out.trans (hB1.mono HB0.out.size)
  have HBox1 : Hid (Bl 27 w1 w.heap.size (clC (.slice none 0 0) (.slice none 0 0) cm0)) := HBox0.out.below hB1 HS0.out
  have HNO : Hid (NO w.heap.size w1 (.slice ao l.length cap) l) := own_mono hno (Nat.le_of_lt HS0.out)
  have HN : Hid (NR w1 (.slice ao l.length cap) l ao cap) := hN
  have HS1 : Hid (w.heap.size < w1.heap.size) := HBox1.out.lt
  clear hno hN hB1 HB0 HBox0 HS0
  by_cases h0 : c = 0
  · subst h0
    have hpos := hsh rfl
    have hll := hbd.1
    have HP2 : Hid (cparseF t = if (l.getD 0 (nd0 0)).kind ≠ 7 then (cm0, 130) else if (kidsF l 0).all (fitF l) then (saidF l, 0) else (cm0, 131)) := by show _ = _; rw [HP.out, if_neg (fun h => h rfl)]
    clear hsh hbd HP
    obtain ⟨g, off, rfl, hcell⟩ := HN.out.at hpos
    obtain ⟨K, hK⟩ : ∃ K, (l.getD 0 (nd0 0)).kind = K := ⟨_, rfl⟩
    have ck := hcell 0 (.int .i64 K) (by omega) (by rw [← hK]; rfl)
    simp only [Nat.zero_mul, Nat.add_zero] at ck
    rw [hK] at HP2
    clear hcell hK
    have hbv : 0 < (l.length : Int) := by omega
    by_cases h7 : K = 7
    · subst h7
      have HP3 : Hid (cparseF t = if (kidsF l 0).all (fitF l) then (saidF l, 0) else (cm0, 131)) := by show _ = _; rw [HP2.out]; exact if_neg (fun h => h rfl)
      have CK := kids_any _ l _ cap 0 w1 HN.out (by omega)
      have HLT : Hid (∀ i ∈ kidsF l 0, i < l.length) := kidsF_lt
      have hlen : (kidsF l 0).length ≤ 1000000000 := Nat.le_trans kids_len (by omega)
      generalize kidsF l 0 = L at *
      clear HP2
      go_wp2_with fail
      refine CK.mono ?_
      clear CK ck
      rintro e w2 ⟨r, rfl, hoi⟩
      obtain ⟨ka, kc, rfl, hkc, hkat⟩ := hoi.at
      have HAT : Hid (∀ wx, Below w2.heap.size w2 wx → ∀ j, j < L.length → ∃ g, ka = some ⟨g, 0, none⟩ ∧ wx.cell? ⟨g, j, none⟩ = some (iV (L.getD j 0))) := fun wx hx j hj => by
        obtain ⟨g', e, hc⟩ := hkat j hj
        exact ⟨g', e, cell_but hc fun _ => hx.block g' (World.block_lt_of_cell? _ _ hc)⟩
      have HNq : Hid (∀ wx, Below w2.heap.size w2 wx → NR wx (.slice (some ⟨g, off, none⟩) l.length cap) l (some ⟨g, off, none⟩) cap) := fun wx hx => (HN.out.below hoi.bel (Nat.le_refl _)).below hx (Nat.le_refl _)
      have HNOq : Hid (∀ wx, Below w2.heap.size w2 wx → NO w.heap.size wx (.slice (some ⟨g, off, none⟩) l.length cap) l) := fun wx hx => own_below (own_below HNO.out hoi.bel (Nat.le_refl _)) hx (Nat.le_refl _)
      have HBq : Hid (∀ wx, Below w2.heap.size w2 wx → Below w.heap.size w wx) := fun wx hx => (HB1.out.trans (hoi.bel.mono HB1.out.size)).trans (hx.mono (HB1.out.trans (hoi.bel.mono HB1.out.size)).size)
      have HXq : Hid (∀ wx, Below w2.heap.size w2 wx → Bl 27 wx w.heap.size (clC (.slice none 0 0) (.slice none 0 0) cm0)) := fun wx hx => by
        have h1 := HBox1.out.below hoi.bel HBox1.out.lt
        exact h1.below hx h1.lt
      clear hoi hkat HN HNO HB1 HBox1
      go_wp2
      go_loopw [28] (fun s28 wx => ∃ (j : Nat), s28 = .int .i64 j ∧ j ≤ L.length ∧ Below w2.heap.size w2 wx ∧ (L.drop j).all (fitF l) = L.all (fitF l)) (fun x _ => L.length - (intOf x).toNat)
      case atStart => exact ⟨0, rfl, Nat.zero_le _, Below.refl _ _, rfl⟩
      case round =>
        obtain ⟨j, rfl, hj, hb, hd⟩ := hrel
        have HBr : Hid (Below w2.heap.size w2 wr) := hb
        have HD : Hid ((L.drop j).all (fitF l) = L.all (fitF l)) := hd
        clear hd hb
        by_cases hjl : j < L.length
        · have q1 : decide ((j : Int) < (L.length : Int)) = true := by simp; omega
          obtain ⟨kg, rfl, ckj⟩ := HAT.out wr HBr.out j hjl
          have hkl : L.getD j 0 < l.length := HLT.out _ (by rw [List.getD_eq_getElem?_getD, List.getElem?_eq_getElem hjl]; exact List.getElem_mem hjl)
          have hr2 := HD.out
          rw [all_drop hjl] at hr2
          generalize L.getD j 0 = m at *
          unfold iV at ckj
          have CF := fits_any l _ cap m wr (HNq.out wr HBr.out) (by omega) hkl
          cases hf : fitF l m
          · have HX : Hid (cparseF t = (cm0, 131)) := by
              show _ = _
              rw [HP3.out, ← hr2, hf]
              rfl
            rw [hf] at CF
            clear hr2 HD hf
            go_wp2_with fail
            refine CF.mono ?_
            clear CF
            rintro e w3 ⟨rfl, hB3⟩
            have HB3 : Hid (Below w2.heap.size w2 w3) := HBr.out.trans (hB3.mono HBr.out.size)
            have HBw : Hid (Below w.heap.size w w3) := HBq.out w3 HB3.out
            have HBox : Hid (Bl 27 w3 w.heap.size (clC (.slice none 0 0) (.slice none 0 0) cm0)) := HXq.out w3 HB3.out
            clear hB3
            obtain ⟨wz, hwz⟩ : ∃ wz, w3.setRow w.heap.size (clC (.slice none 0 0) (.slice none 0 0) cm0).toArray = wz := ⟨_, rfl⟩
            have HBz : Hid (Bl 27 wz w.heap.size (clC (.slice none 0 0) (.slice none 0 0) cm0)) := by rw [← hwz]; exact set_bl2 HBox.out
            have Hz : Hid (Below w.heap.size w wz) := by rw [← hwz]; exact setRow_below2 _ HBw.out (Nat.le_refl _)
            have HWz : Hid (w3.setRow w.heap.size (clC (.slice none 0 0) (.slice none 0 0) cm0).toArray = wz) := hwz
            clear hwz
            have hgi : (Tryz.prog.info? 27).map (·.size) = some 15 := by kernel_rfl
            go_wp2_with (refine wpList_store_row rfl 27 (.tmp 2) (.tmp 36) rfl w.heap.size (clC (.slice none 0 0) (.slice none 0 0) cm0).toArray rfl rfl 27 (clC (.slice none 0 0) (.slice none 0 0) cm0).toArray HBox.out hgi rfl (by simp [clC, cm0, Value.oneCell']) ?_; rw [HWz.out]; clear HWz hgi)
            (try simp only [Exit.inBlock, Exit.then])
            refine bodyPost_ret (v := .tuple #[clV (.slice none 0 0) (.slice none 0 0) cm0, .int .i64 131]) (results_cl2 rfl _ _ w.heap.size _ _ _ _ rfl rfl HBz.out) rfl ⟨⟨.slice none 0 0, .slice none 0 0, ?_, ?_, ?_⟩, Hz.out⟩
            · first | (rw [HX.out]; done) | (rw [HX.out]; rfl)
            · rw [HX.out]; exact World.ownsRow_nil _ _ _ _
            · rw [HX.out]; exact World.ownsRow_nil _ _ _ _

          · have HD2 : Hid ((L.drop (j + 1)).all (fitF l) = L.all (fitF l)) := by
              show _ = _
              rw [← hr2, hf]
              rfl
            rw [hf] at CF
            clear hr2 HD hf
            go_wp2_with fail
            refine CF.mono ?_
            clear CF
            rintro e w3 ⟨rfl, hB3⟩
            have HB3 : Hid (Below w2.heap.size w2 w3) := HBr.out.trans (hB3.mono HBr.out.size)
            clear hB3
            go_wp2
            go_roundw
            case rel => exact ⟨j + 1, by go_num, by omega, HB3.out, HD2.out⟩
            case measure => simp [intOf]; omega
        · have q1 : decide ((j : Int) < (L.length : Int)) = false := by simp; omega
          have HX : Hid (cparseF t = (saidF l, 0)) := by
            show _ = _
            rw [HP3.out, ← HD.out, List.drop_eq_nil_of_le (by omega)]
            rfl
          have CS := said_any l _ cap wr (HNq.out wr HBr.out) (by omega)
          clear HD
          go_wp2_with fail
          refine CS.mono ?_
          clear CS
          rintro e w3 ⟨⟨aa, rfl, hO⟩, hB3⟩
          obtain ⟨aA, cA, rfl, _, _⟩ := own_slice hO
          have HB3 : Hid (Below w2.heap.size w2 w3) := HBr.out.trans (hB3.mono HBr.out.size)
          have HBw : Hid (Below w.heap.size w w3) := HBq.out w3 HB3.out
          have HBox : Hid (Bl 27 w3 w.heap.size (clC (.slice none 0 0) (.slice none 0 0) cm0)) := HXq.out w3 HB3.out
          have HO : Hid (OT w.heap.size w3 (.slice aA (saidF l).aud.length cA) (saidF l).aud) := own_mono hO (HBq.out wr HBr.out).size
          have HNO : Hid (NO w.heap.size w3 (.slice (some ⟨g, off, none⟩) l.length cap) l) := HNOq.out w3 HB3.out
          have HV : Hid ((saidF l).val = l) := rfl
          clear hB3 hO
          generalize saidF l = c at *
          obtain ⟨wz, hwz⟩ : ∃ wz, w3.setRow w.heap.size (clC (.slice (some ⟨g, off, none⟩) l.length cap) (.slice aA c.aud.length cA) c).toArray = wz := ⟨_, rfl⟩
          have HBz : Hid (Bl 27 wz w.heap.size (clC (.slice (some ⟨g, off, none⟩) l.length cap) (.slice aA c.aud.length cA) c)) := by rw [← hwz]; exact set_bl2 HBox.out
          have Hz : Hid (Below w.heap.size w wz) := by rw [← hwz]; exact setRow_below2 _ HBw.out (Nat.le_refl _)
          have HOz : Hid (OT w.heap.size wz (.slice aA c.aud.length cA) c.aud) := by
            rw [← hwz]
            have ha := block_apart HO.out HBox.out (by decide)
            exact own_keep HO.out fun g hg => setRow_other _ _ _ _ (fun e => ha (by rw [hg]; exact congrArg some e))
          have HNz : Hid (NO w.heap.size wz (.slice (some ⟨g, off, none⟩) l.length cap) l) := by
            rw [← hwz]
            have ha := block_apart HNO.out HBox.out (by decide)
            exact own_keep HNO.out fun g hg => setRow_other _ _ _ _ (fun e => ha (by rw [hg]; exact congrArg some e))
          have HWz : Hid (w3.setRow w.heap.size (clC (.slice (some ⟨g, off, none⟩) l.length cap) (.slice aA c.aud.length cA) c).toArray = wz) := hwz
          clear hwz
          have hgi : (Tryz.prog.info? 27).map (·.size) = some 15 := by kernel_rfl
          unfold clV
          go_wp2_with (refine wpList_store_row rfl 27 (.tmp 2) (.tmp 39) rfl w.heap.size (clC (.slice (some ⟨g, off, none⟩) l.length cap) (.slice aA c.aud.length cA) c).toArray rfl rfl 27 (clC (.slice none 0 0) (.slice none 0 0) cm0).toArray HBox.out hgi rfl (by simp [clC, Value.oneCell']) ?_; rw [HWz.out]; clear HWz hgi)
          (try simp only [Exit.inBlock, Exit.then])
          refine bodyPost_ret (v := .tuple #[clV (.slice (some ⟨g, off, none⟩) l.length cap) (.slice aA c.aud.length cA) c, .int .i64 0]) (results_cl2 rfl _ _ w.heap.size _ _ _ _ rfl rfl HBz.out) rfl ⟨⟨.slice (some ⟨g, off, none⟩) l.length cap, .slice aA c.aud.length cA, ?_, ?_, ?_⟩, Hz.out⟩
          · rw [HX.out]; rfl
          · rw [HX.out]; rw [show (c, 0).1.val = l from HV.out]; exact HNz.out
          · rw [HX.out]; exact HOz.out
    · have q7 : (K != 7) = true := by simpa using h7
      have HX : Hid (cparseF t = (cm0, 130)) := by show _ = _; rw [HP2.out]; exact if_pos h7
      clear HP2 h7 HN HNO
      obtain ⟨wz, hwz⟩ : ∃ wz, w1.setRow w.heap.size (clC (.slice none 0 0) (.slice none 0 0) cm0).toArray = wz := ⟨_, rfl⟩
      have HBz : Hid (Bl 27 wz w.heap.size (clC (.slice none 0 0) (.slice none 0 0) cm0)) := by rw [← hwz]; exact set_bl2 HBox1.out
      have Hz : Hid (Below w.heap.size w wz) := by rw [← hwz]; exact setRow_below2 _ HB1.out (Nat.le_refl _)
      have HWz : Hid (w1.setRow w.heap.size (clC (.slice none 0 0) (.slice none 0 0) cm0).toArray = wz) := hwz
      clear hwz
      have hgi : (Tryz.prog.info? 27).map (·.size) = some 15 := by kernel_rfl
      go_wp2_with (refine wpList_store_row rfl 27 (.tmp 2) (.tmp 24) rfl w.heap.size (clC (.slice none 0 0) (.slice none 0 0) cm0).toArray rfl rfl 27 (clC (.slice none 0 0) (.slice none 0 0) cm0).toArray HBox1.out hgi rfl (by simp [clC, cm0, Value.oneCell']) ?_; rw [HWz.out]; clear HWz hgi)
      (try simp only [Exit.inBlock, Exit.then])
      refine bodyPost_ret (v := .tuple #[clV (.slice none 0 0) (.slice none 0 0) cm0, .int .i64 130]) (results_cl2 rfl _ _ w.heap.size _ _ _ _ rfl rfl HBz.out) rfl ⟨⟨.slice none 0 0, .slice none 0 0, ?_, ?_, ?_⟩, Hz.out⟩
      · first | (rw [HX.out]; done) | (rw [HX.out]; rfl)
      · rw [HX.out]; exact World.ownsRow_nil _ _ _ _
      · rw [HX.out]; exact World.ownsRow_nil _ _ _ _

  · have HX : Hid (cparseF t = (cm0, c)) := by show _ = _; rw [HP.out, if_pos h0]
    have qc : ((c : Int) == 0) = false := by simp; omega
    have qc' : ((c : Int) != 0) = true := by simp; omega
    clear hsh hbd HP HN h0 HNO
    obtain ⟨wz, hwz⟩ : ∃ wz, w1.setRow w.heap.size (clC (.slice none 0 0) (.slice none 0 0) cm0).toArray = wz := ⟨_, rfl⟩
    have HBz : Hid (Bl 27 wz w.heap.size (clC (.slice none 0 0) (.slice none 0 0) cm0)) := by rw [← hwz]; exact set_bl2 HBox1.out
    have Hz : Hid (Below w.heap.size w wz) := by rw [← hwz]; exact setRow_below2 _ HB1.out (Nat.le_refl _)
    have HWz : Hid (w1.setRow w.heap.size (clC (.slice none 0 0) (.slice none 0 0) cm0).toArray = wz) := hwz
    clear hwz
    have hgi : (Tryz.prog.info? 27).map (·.size) = some 15 := by kernel_rfl
    go_wp2_with (refine wpList_store_row rfl 27 (.tmp 2) (.tmp 17) rfl w.heap.size (clC (.slice none 0 0) (.slice none 0 0) cm0).toArray rfl rfl 27 (clC (.slice none 0 0) (.slice none 0 0) cm0).toArray HBox1.out hgi rfl (by simp [clC, cm0, Value.oneCell']) ?_; rw [HWz.out]; clear HWz hgi)
    (try simp only [Exit.inBlock, Exit.then])
    refine bodyPost_ret (v := .tuple #[clV (.slice none 0 0) (.slice none 0 0) cm0, .int .i64 (c : Int)]) (results_cl2 rfl _ _ w.heap.size _ _ _ _ rfl rfl HBz.out) rfl ⟨⟨.slice none 0 0, .slice none 0 0, ?_, ?_, ?_⟩, Hz.out⟩
    · first | (rw [HX.out]; done) | (rw [HX.out]; rfl)
    · rw [HX.out]; exact World.ownsRow_nil _ _ _ _
    · rw [HX.out]; exact World.ownsRow_nil _ _ _ _

end Go.Proofs.YthlfboaidhgnlaaGreatDoor
