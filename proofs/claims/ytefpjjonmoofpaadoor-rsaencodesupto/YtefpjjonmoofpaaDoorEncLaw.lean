import Derived.Test.YtefpjjonmoofpaaDoorEncM
namespace Go.Proofs.YtefpjjonmoofpaaDoor
open Go.RowKit

set_option maxRecDepth 100000 in
set_option maxHeartbeats 16000000 in
theorem enc_core (h : Int) (a1 : Option Addr) (c1 : Nat) (l : List UInt8) (size : Int) (W : World) (T : Sha.Tb W) (I : Inf W) (R : Sha.Rt W) (r1 : Rd W a1 l) (n1 : a1 = none → c1 = 0) (k1 : l.length ≤ c1) (l1 : l.length ≤ 2000000) (z1 : -9223372036854775808 ≤ size) (z2 : size ≤ 9223372036854775807) :
    Calls Tryd.prog 4 #[.int .i64 h, .slice a1 l.length c1, .int .i64 size] W fun x w' => x = .returned (.bool true) ∧ Below W.heap.size W w' := by
  have HT : Hid (Sha.Tb W) := T
  have HI : Hid (Inf W) := I
  have HR : Hid (Sha.Rt W) := R
  have H1 : Hid (Rd W a1 l) := r1
  have HZ12 : Hid (-9223372036854775808 ≤ size ∧ size ≤ 9223372036854775807) := ⟨z1, z2⟩
  have HN1 : Hid (a1 = none → l.length = 0 ∧ c1 = 0) := fun e => by have := n1 e; omega
  have CL := lent_any a1 c1 l W r1 HN1.out (by omega)
  clear T I R r1 n1 k1 z1 z2
  -- Encode of what is lent, in any later world
  have HEnc : Hid (∀ (l' : List UInt8) (w : World) (gm km : Nat), Below W.heap.size W w → Ln w W.heap.size gm km l' → l'.length = l.length → Calls Tryd.prog 10 #[.int .i64 h, .slice (some ⟨gm, 0, none⟩) l.length km, .int .i64 size] w fun e w' => ∃ r, e = .returned (.tuple #[r, .int .i64 (ecode h size)]) ∧ OBb w.heap.size w w' r (encV h l' size)) := fun l' w gm km hb hL hl => by
    obtain ⟨_, _, p3, p4, _⟩ := hL.parts
    unfold maxLen at p4
    have := encode_any h (some ⟨gm, 0, none⟩) km l' size w (HT.out.below hb) (HI.out.below hb) hL.rd (by omega) (by omega) (by omega)
    rwa [hl] at this
  obtain ⟨ec, Hec⟩ : ∃ ec, Hid (ecode h size = ec) := ⟨_, rfl⟩
  rw [Hec.out] at HEnc
  obtain ⟨E, HE⟩ : ∃ E, Hid (encV h l size = E) := ⟨_, rfl⟩
  obtain ⟨n, Hn⟩ : ∃ n, Hid (E.length = n) := ⟨_, rfl⟩
  have hn512 : n ≤ 512 := by rw [← Hn.out, ← HE.out]; exact encV_length h l size
  go_enter Tryd.func4, Tryd.ntmps4
  go_wp2_with fail
  refine CL.mono ?_
  rintro x w1 ⟨gm, km, rfl, hL1, hb1⟩
  clear CL
  have HL1 : Hid (Ln w1 W.heap.size gm km l) := hL1
  have B1 : Hid (Below W.heap.size W w1) := hb1
  have C1 := HEnc.out l w1 gm km hb1 hL1 rfl
  rw [HE.out] at C1
  clear hL1 hb1
  go_wp2_with fail
  refine C1.mono ?_
  rintro x w2 ⟨va, rfl, hA⟩
  clear C1
  have B2 : Hid (Below W.heap.size W w2) := B1.out.trans (hA.bel.mono B1.out.size)
  have HL2 : Hid (Ln w2 W.heap.size gm km l) := HL1.out.below hA.bel (Nat.le_refl _)
  have HA2 : Hid (Owb w2 w1.heap.size va E) := hA.own
  have HAlt : Hid (∀ g, va.ownBlock = some g → w1.heap.size ≤ g ∧ g < w2.heap.size) := fun g hg => World.ownsRow.lt hA.own g hg
  have hw12 : w1.heap.size ≤ w2.heap.size := hA.bel.size
  have hgm1 : gm < w1.heap.size := HL1.out.parts.2.1
  have hW1 : W.heap.size ≤ w1.heap.size := B1.out.size
  have C2 := HEnc.out l w2 gm km B2.out HL2.out rfl
  rw [HE.out] at C2
  clear hA HL1 B1
  go_wp2_with fail
  refine C2.mono ?_
  rintro x w3 ⟨v2, rfl, hB⟩
  clear C2
  have B3 : Hid (Below W.heap.size W w3) := B2.out.trans (hB.bel.mono B2.out.size)
  have HL3 : Hid (Ln w3 W.heap.size gm km l) := HL2.out.below hB.bel (Nat.le_refl _)
  have HA3 : Hid (Owb w3 w1.heap.size va E) := HA2.out.below hB.bel (Nat.le_refl _)
  have HB3 : Hid (Owb w3 w2.heap.size v2 E) := hB.own
  have hw23 : w2.heap.size ≤ w3.heap.size := hB.bel.size
  have C3 := rencode_any h a1 c1 l size w3 (Rt.below' HR.out B3.out) (H1.out.below B3.out (Nat.le_refl _)) HN1.out (by omega) HZ12.out.1 HZ12.out.2
  rw [HE.out, Hec.out] at C3
  clear hB HL2 B2 HA2
  go_wp2_with fail
  refine C3.mono ?_
  rintro x w4 ⟨v3, rfl, hC⟩
  clear C3
  have HO4 : Hid (Oth W w4 gm km w1.heap.size w2.heap.size l E v2 v3) := ⟨HL3.out.below hC.bel (Nat.le_refl _), HB3.out.below hC.bel (Nat.le_refl _), Owb.base hC.own hw23, B3.out.trans (hC.bel.mono B3.out.size), hgm1, hW1, hw12, Nat.le_trans hw23 hC.bel.size⟩
  have HA4 : Hid (Owb w4 w1.heap.size va E) := HA3.out.below hC.bel (Nat.le_refl _)
  clear hC HL3 HB3 HA3 B3 hw23
  obtain ⟨aa, ca, ea, _⟩ := HA4.out.form
  obtain ⟨a2, c2, e2, _⟩ := HO4.out.two.form
  obtain ⟨a3, c3, e3, _⟩ := HO4.out.b.form
  rw [Hn.out] at ea e2 e3
  subst ea
  subst e2
  subst e3
  have dec : (ec != ec) = false := by simp
  -- same, still, wherever
  have HSm : Hid (∀ (w : World) (b1 b2 : Nat) (p1 p2 : Option Addr) (q1 q2 : Nat), Owb w b1 (.slice p1 n q1) E → Owb w b2 (.slice p2 n q2) E → Calls Tryd.prog 13 #[.slice p1 n q1, .slice p2 n q2] w fun e w' => e = .returned (.bool true) ∧ ∃ q, w' = w.drewN q) := fun w b1 b2 p1 p2 q1 q2 h1 h2 => by
    obtain ⟨p, q, e, hr⟩ := h1.form
    injection e with e1
    subst e1
    obtain ⟨p', q', e', hr'⟩ := h2.form
    injection e' with e1'
    subst e1'
    have := lsame_any p1 p2 q1 q2 E E w hr hr' (by have := Hn.out; omega)
    rwa [Hn.out, decide_eq_true rfl] at this
  have C4 := HSm.out w4 _ _ aa a3 ca c3 HA4.out HO4.out.b
  go_wp2_with fail
  refine C4.mono ?_
  rintro x w5 ⟨rfl, q5, hw5⟩
  clear C4
  have HO5 : Hid (Oth W w5 gm km w1.heap.size w2.heap.size l E (.slice a2 n c2) (.slice a3 n c3)) := by rw [hw5]; exact HO4.out.drewN q5
  have HA5 : Hid (Owb w5 w1.heap.size (.slice aa n ca) E) := by rw [hw5]; exact HA4.out
  clear hw5 HO4 HA4
  have C5 := HSm.out w5 _ _ a2 a3 c2 c3 HO5.out.two HO5.out.b
  go_wp2_with fail
  refine C5.mono ?_
  rintro x w6 ⟨rfl, q6, hw6⟩
  clear C5
  have HO6 : Hid (Oth W w6 gm km w1.heap.size w2.heap.size l E (.slice a2 n c2) (.slice a3 n c3)) := by rw [hw6]; exact HO5.out.drewN q6
  have HA6 : Hid (Owb w6 w1.heap.size (.slice aa n ca) E) := by rw [hw6]; exact HA5.out
  clear hw6 HO5 HA5
  have C6 := still_true _ gm km c1 a1 l w6 HO6.out.ln (H1.out.below HO6.out.bel (Nat.le_refl _)) (by omega)
  go_wp2_with fail
  refine C6.mono ?_
  rintro x w7 ⟨rfl, q7, hw7⟩
  clear C6
  have HO7 : Hid (Oth W w7 gm km w1.heap.size w2.heap.size l E (.slice a2 n c2) (.slice a3 n c3)) := by rw [hw7]; exact HO6.out.drewN q7
  have HA7 : Hid (Owb w7 w1.heap.size (.slice aa n ca) E) := by rw [hw7]; exact HA6.out
  clear hw7 HO6 HA6
  have HF0 : Hid (w7.ownsRow 0 5 1 (.slice aa n ca) n ((List.replicate 0 (119 : UInt8) ++ E.drop 0).map B)) := by
    have := Owb.base HA7.out (Nat.zero_le w1.heap.size)
    unfold Owb at this
    rw [Hn.out] at this
    exact this
  clear HA7
  go_wp2
  -- written over
  go_loopw [14] (fun s14 wr => ∃ i : Nat, s14 = .int .i64 (i : Int) ∧ i ≤ n ∧ Hid (wr.ownsRow 0 5 1 (.slice aa n ca) n ((List.replicate i (119 : UInt8) ++ E.drop i).map B)) ∧ Hid (Chg w1.heap.size w2.heap.size w7 wr)) (fun s14 _ => n - (intOf s14).toNat)
  case atStart => exact ⟨0, rfl, Nat.zero_le _, HF0, Chg.refl _ _ _⟩
  case round =>
    clear HF0
    obtain ⟨i, rfl, hi, HF, HC⟩ := hrel
    by_cases hlt : i < n
    · obtain ⟨ga, ega⟩ : ∃ ga, aa = some ⟨ga, 0, none⟩ := by
        rcases HF.out.2 with ⟨_, h0⟩ | ⟨g, cap, cur, e, _⟩
        · omega
        · injection e with e1
          exact ⟨g, e1⟩
      subst ega
      have hin := HAlt.out ga rfl
      have gc := HF.out.cellAt i (by omega)
      have gf := HF.out.frozenAt i
      obtain ⟨old, hold⟩ : ∃ v, wr.cell? ⟨ga, i, none⟩ = some v := by
        rw [gc, List.getElem?_eq_getElem (by rw [List.length_map]; simp [Hn.out]; omega)]
        exact ⟨_, rfl⟩
      have HF2 : Hid ((wr.setCell ⟨ga, i, none⟩ (.int .u8 119)).ownsRow 0 5 1 (.slice (some ⟨ga, 0, none⟩) n ca) n ((List.replicate (i + 1) (119 : UInt8) ++ E.drop (i + 1)).map B)) := by
        have := (HF.out.stored i (B 119)).1
        rw [fill_set n i E Hn.out hlt] at this
        exact this
      have HC2 : Hid (Chg w1.heap.size w2.heap.size w7 (wr.setCell ⟨ga, i, none⟩ (.int .u8 119))) := HC.out.set ga i _ hin
      clear gc
      go_wp2
      exact ⟨⟨i + 1, by go_num, by omega, HF2, HC2⟩, by simp [intOf]; omega⟩
    · obtain rfl : i = n := by omega
      have HS0 : Hid (L2 w1.heap.size w2.heap.size w7 wr (.slice aa i ca) (.slice aa i ca) i 0) := by
        have ho := HF.out
        rw [List.drop_of_length_le (by rw [Hn.out]; exact Nat.le_refl _), List.append_nil] at ho
        exact ⟨by rw [List.replicate_zero, List.append_nil]; exact ho, ho, .inl rfl, HAlt.out, HO7.out.bs, HC.out⟩
      clear HF HC hlt hi
      go_wp2
      go_loopw [15, 16] (fun s15 s16 ws => ∃ (j : Nat) (am : Option Addr) (cm : Nat), s16 = .int .i64 (j : Int) ∧ j ≤ 70 ∧ s15 = .slice am (i + j) cm ∧ Hid (L2 w1.heap.size w2.heap.size w7 ws (.slice aa i ca) s15 i j)) (fun _ s16 _ => 70 - (intOf s16).toNat)
      case atStart => exact ⟨0, _, _, rfl, by omega, rfl, HS0⟩
      case round =>
        clear HS0
        obtain ⟨j, am, cm, rfl, hj, rfl, HS⟩ := hrel
        by_cases hlt : j < 70
        · obtain ⟨v', w', hrun, hS'⟩ := HS.out.step (by omega)
          obtain ⟨am', cm', ev⟩ : ∃ a c, v' = .slice a (i + (j + 1)) c := by
            rcases hS'.own.2 with ⟨_, h0⟩ | ⟨g, cap, cur, e, _⟩
            · omega
            · exact ⟨_, _, e⟩
          subst ev
          have HS2 : Hid (L2 w1.heap.size w2.heap.size w7 w' (.slice aa i ca) (.slice am' (i + (j + 1)) cm') i (j + 1)) := hS'
          clear hS' HS
          go_wp2_with (at_builtin; refine Lib.wpList_append_run _ rfl _ _ 23 23 rfl _ _ rfl rfl _ _ hrun ?_)
          go_roundw
          case rel => exact ⟨j + 1, am', cm', by go_num, by omega, rfl, HS2⟩
          case measure => simp [intOf]; omega
        · obtain rfl : j = 70 := by omega
          have HO8 : Hid (Oth W wr gm km w1.heap.size w2.heap.size l E (.slice a2 i c2) (.slice a3 i c3)) := HO7.out.chg HS.out.chg
          clear hlt hj
          have C7 := HSm.out wr _ _ a2 a3 c2 c3 HO8.out.two HO8.out.b
          go_wp2_with fail
          refine C7.mono ?_
          rintro x w8 ⟨rfl, q8, hw8⟩
          clear C7
          have HO9 : Hid (Oth W w8 gm km w1.heap.size w2.heap.size l E (.slice a2 i c2) (.slice a3 i c3)) := by rw [hw8]; exact HO8.out.drewN q8
          have HS9 : Hid (L2 w1.heap.size w2.heap.size w7 w8 (.slice aa i ca) (.slice am (i + 70) cm) i 70) := by rw [hw8]; exact HS.out.drewN q8
          clear hw8 HO8 HS
          have C8 := HEnc.out l w8 gm km HO9.out.bel HO9.out.ln rfl
          rw [HE.out] at C8
          go_wp2_with fail
          refine C8.mono ?_
          rintro x w9 ⟨vc, rfl, hc9⟩
          clear C8
          have HOa : Hid (Oth W w9 gm km w1.heap.size w2.heap.size l E (.slice a2 i c2) (.slice a3 i c3)) := HO9.out.below hc9.bel
          have HSa : Hid (L2 w1.heap.size w2.heap.size w7 w9 (.slice aa i ca) (.slice am (i + 70) cm) i 70) := HS9.out.later hc9.bel
          have HCa : Hid (Owb w9 w2.heap.size vc E) := Owb.base hc9.own HO9.out.bs
          obtain ⟨ac, cc, evc, _⟩ := hc9.own.form
          rw [Hn.out] at evc
          subst evc
          clear hc9 HO9 HS9
          have C9 := HSm.out w9 _ _ ac a3 cc c3 HCa.out HOa.out.b
          have d70 : (((i : Int) + 70) != ((i : Int) + 70)) = false := by simp
          go_wp2_with fail
          refine C9.mono ?_
          rintro x w10 ⟨rfl, q10, hw10⟩
          clear C9
          have HOb : Hid (Oth W w10 gm km w1.heap.size w2.heap.size l E (.slice a2 i c2) (.slice a3 i c3)) := by rw [hw10]; exact HOa.out.drewN q10
          have HSb : Hid (L2 w1.heap.size w2.heap.size w7 w10 (.slice aa i ca) (.slice am (i + 70) cm) i 70) := by rw [hw10]; exact HSa.out.drewN q10
          have HCb : Hid (Owb w10 w2.heap.size (.slice ac i cc) E) := by rw [hw10]; exact HCa.out
          clear hw10 HOa HSa HCa
          have C10 := HSm.out w10 _ _ a2 a3 c2 c3 HOb.out.two HOb.out.b
          go_wp2_with fail
          refine C10.mono ?_
          rintro x w11 ⟨rfl, q11, hw11⟩
          clear C10
          have HOc : Hid (Oth W w11 gm km w1.heap.size w2.heap.size l E (.slice a2 i c2) (.slice a3 i c3)) := by rw [hw11]; exact HOb.out.drewN q11
          have HSc : Hid (L2 w1.heap.size w2.heap.size w7 w11 (.slice aa i ca) (.slice am (i + 70) cm) i 70) := by rw [hw11]; exact HSb.out.drewN q11
          have HCc : Hid (Owb w11 w2.heap.size (.slice ac i cc) E) := by rw [hw11]; exact HCb.out
          clear hw11 HOb HSb HCb
          have C11 := still_true _ gm km c1 a1 l w11 HOc.out.ln (H1.out.below HOc.out.bel (Nat.le_refl _)) (by omega)
          go_wp2_with fail
          refine C11.mono ?_
          rintro x w12 ⟨rfl, q12, hw12⟩
          clear C11
          have HOd : Hid (Oth W w12 gm km w1.heap.size w2.heap.size l E (.slice a2 i c2) (.slice a3 i c3)) := by rw [hw12]; exact HOc.out.drewN q12
          have HSd : Hid (L2 w1.heap.size w2.heap.size w7 w12 (.slice aa i ca) (.slice am (i + 70) cm) i 70) := by rw [hw12]; exact HSc.out.drewN q12
          have HCd : Hid (Owb w12 w2.heap.size (.slice ac i cc) E) := by rw [hw12]; exact HCc.out
          clear hw12 HOc HSc HCc
          obtain ⟨gr, egr⟩ : ∃ g, am = some ⟨g, 0, none⟩ := by
            rcases HSd.out.own.2 with ⟨_, h0⟩ | ⟨g, cap, cur, e, _⟩
            · omega
            · injection e with e1
              exact ⟨g, e1⟩
          subst egr
          go_wp2
          go_loop [19] (fun s19 => ∃ t : Nat, s19 = .int .i64 (t : Int) ∧ t ≤ i + 70) (fun s19 => i + 70 - (intOf s19).toNat)
          case atStart => exact ⟨0, rfl, by omega⟩
          case round =>
            obtain ⟨t, rfl, ht⟩ := hrel
            by_cases htl : t < i + 70
            · have hM := HSd.out.cellM t
              by_cases hti : t < i
              · obtain ⟨ga, ega⟩ : ∃ ga, aa = some ⟨ga, 0, none⟩ := by
                  rcases HSd.out.ownA.2 with ⟨_, h0⟩ | ⟨g, cap, cur, e, _⟩
                  · omega
                  · injection e with e1
                    exact ⟨g, e1⟩
                subst ega
                have gA := HSd.out.cellA t hti
                have gM := hM.1 hti
                have t1 : decide ((t : Int) < (i : Int)) = true := decide_eq_true (by omega)
                have t2 : decide ((t : Int) ≥ (i : Int)) = false := decide_eq_false (by omega)
                have t3 : decide (t < i) = true := decide_eq_true hti
                have t4 : decide (i ≤ t) = false := decide_eq_false (by omega)
                clear hM
                go_wp2
                go_round
                case rel => exact ⟨t + 1, by go_num, by omega⟩
                case measure => simp [intOf]; omega
              · have gM := hM.2 (by omega) htl
                have t1 : decide ((t : Int) < (i : Int)) = false := decide_eq_false (by omega)
                have t2 : decide ((t : Int) ≥ (i : Int)) = true := decide_eq_true (by omega)
                have t3 : decide (t < i) = false := decide_eq_false hti
                have t4 : decide (i ≤ t) = true := decide_eq_true (by omega)
                clear hM
                go_wp2
                go_round
                case rel => exact ⟨t + 1, by go_num, by omega⟩
                case measure => simp [intOf]; omega
            · clear ht
              have C12 := turned_any _ gm km l w12 HOd.out.ln (by omega)
              go_wp2_with fail
              refine C12.mono ?_
              rintro x w13 ⟨rfl, ⟨l', hl', hL13⟩, hbut⟩
              clear C12
              have HLe : Hid (Ln w13 W.heap.size gm km l') := hL13
              have hg2 : gm < w2.heap.size := by have := HOd.out.g1; have := HOd.out.b12; omega
              have HBe : Hid (Owb w13 w2.heap.size (.slice a3 i c3) E) := HOd.out.b.but hbut hg2
              have HCe : Hid (Owb w13 w2.heap.size (.slice ac i cc) E) := HCd.out.but hbut hg2
              have BBe : Hid (Below W.heap.size W w13) := HOd.out.bel.trans (hbut.below HOd.out.bel.size HOd.out.ln.parts.1)
              have Hl' : Hid (l'.length = l.length) := hl'
              clear hL13 hbut hl' HOd HSd HCd
              have HN0 : Hid (Owb w13 w13.heap.size (.slice none 0 0) []) := Owb.nil _ _
              go_wp2_with (at_builtin; refine append_rdb rfl (.tmp 165) (.tmp 166) rfl w13.heap.size _ [] rfl HN0.out (some ⟨gm, 0, none⟩) l.length km l' rfl Hl'.out (fun e => by cases e) HLe.out.rd (by rw [List.length_nil]; omega) (Nat.le_refl _) ?_; intro vo w14 h5 h6)
              have hb14 : Below w13.heap.size w13 w14 := (Below.refl _ _).grown h6 (Nat.le_refl _) (fun k h => by cases h)
              have HLf : Hid (Ln w14 W.heap.size gm km l') := HLe.out.below hb14 (Nat.le_refl _)
              have HBf : Hid (Owb w14 w2.heap.size (.slice a3 i c3) E) := HBe.out.below hb14 (Nat.le_refl _)
              have HCf : Hid (Owb w14 w2.heap.size (.slice ac i cc) E) := HCe.out.below hb14 (Nat.le_refl _)
              have BBf : Hid (Below W.heap.size W w14) := BBe.out.trans (hb14.mono BBe.out.size)
              have hvo : Owb w14 w13.heap.size vo l' := h5
              obtain ⟨ao, co, eo, hor, hco⟩ : ∃ a c, vo = .slice a l.length c ∧ Hid (Rd w14 a l') ∧ Hid (a = none → l.length = 0 ∧ c = 0) := by
                rcases hvo.2 with ⟨e, h0⟩ | ⟨g, cap, cur, e, _⟩
                · have h0' : l.length = 0 := by rw [← Hl'.out]; exact h0
                  refine ⟨none, 0, by rw [h0']; exact e, .inl (List.eq_nil_of_length_eq_zero h0), fun _ => ⟨h0', rfl⟩⟩
                · obtain ⟨a, c, e2, hr⟩ := hvo.form
                  rw [Hl'.out] at e2
                  refine ⟨a, c, e2, hr, fun ea => ?_⟩
                  rw [e2] at e
                  injection e with e3
                  rw [ea] at e3
                  cases e3
              subst eo
              clear h5 h6 hb14 hvo HLe HBe HCe BBe HN0
              obtain ⟨E', HE'⟩ : ∃ E', Hid (encV h l' size = E') := ⟨_, rfl⟩
              have C13 := HEnc.out l' w14 gm km BBf.out HLf.out Hl'.out
              rw [HE'.out] at C13
              go_wp2_with fail
              refine C13.mono ?_
              rintro x w15 ⟨vd, rfl, hd15⟩
              clear C13
              have HLg : Hid (Ln w15 W.heap.size gm km l') := HLf.out.below hd15.bel (Nat.le_refl _)
              have HBg : Hid (Owb w15 w2.heap.size (.slice a3 i c3) E) := HBf.out.below hd15.bel (Nat.le_refl _)
              have HCg : Hid (Owb w15 w2.heap.size (.slice ac i cc) E) := HCf.out.below hd15.bel (Nat.le_refl _)
              have BBg : Hid (Below W.heap.size W w15) := BBf.out.trans (hd15.bel.mono BBf.out.size)
              have HOg : Hid (Rd w15 ao l') := hor.out.below hd15.bel (Nat.le_refl _)
              have HDg : Hid (Owb w15 w14.heap.size vd E') := hd15.own
              clear hd15 HLf HBf HCf BBf hor
              have C14 := rencode_any h ao co l' size w15 (Rt.below' HR.out BBg.out) HOg.out (by rw [Hl'.out]; exact hco.out) (by rw [Hl'.out]; omega) HZ12.out.1 HZ12.out.2
              rw [HE'.out, Hec.out, Hl'.out] at C14
              go_wp2_with fail
              refine C14.mono ?_
              rintro x w16 ⟨vk, rfl, hk16⟩
              clear C14
              have HLh : Hid (Ln w16 W.heap.size gm km l') := HLg.out.below hk16.bel (Nat.le_refl _)
              have HBh : Hid (Owb w16 w2.heap.size (.slice a3 i c3) E) := HBg.out.below hk16.bel (Nat.le_refl _)
              have HCh : Hid (Owb w16 w2.heap.size (.slice ac i cc) E) := HCg.out.below hk16.bel (Nat.le_refl _)
              have BBh : Hid (Below W.heap.size W w16) := BBg.out.trans (hk16.bel.mono BBg.out.size)
              have HOh : Hid (Rd w16 ao l') := HOg.out.below hk16.bel (Nat.le_refl _)
              have HDh : Hid (Owb w16 w14.heap.size vd E') := HDg.out.below hk16.bel (Nat.le_refl _)
              obtain ⟨n', Hn'⟩ : ∃ n', Hid (E'.length = n') := ⟨_, rfl⟩
              obtain ⟨ad, cd, ed, hrd⟩ := HDh.out.form
              obtain ⟨ak, ck, ek, hrk⟩ := hk16.own.form
              have C15 := lsame_any ad ak cd ck E' E' w16 hrd hrk (by rw [← HE'.out]; have := encV_length h l' size; omega)
              rw [Hn'.out, decide_eq_true rfl] at C15
              rw [Hn'.out] at ed ek
              subst ed
              subst ek
              have dec2 : (ec == ec) = true := by simp
              clear hk16 hrd hrk HLg HBg HCg BBg HOg HDg HDh
              go_wp2_with fail
              refine C15.mono ?_
              rintro x w17 ⟨rfl, q17, hw17⟩
              clear C15
              have C16 := HSm.out w17 _ _ ac a3 cc c3 (by rw [hw17]; exact HCh.out) (by rw [hw17]; exact HBh.out)
              have HLi : Hid (Ln w17 W.heap.size gm km l') := by rw [hw17]; exact HLh.out
              have BBi : Hid (Below W.heap.size W w17) := by rw [hw17]; exact below_drewN BBh.out q17
              have HOi : Hid (Rd w17 ao l') := by rw [hw17]; exact HOh.out
              clear hw17 HLh HBh HCh BBh HOh
              go_wp2_with fail
              refine C16.mono ?_
              rintro x w18 ⟨rfl, q18, hw18⟩
              clear C16
              have HLj : Ln w18 W.heap.size gm km l' := by rw [hw18]; exact HLi.out
              have BBj : Hid (Below W.heap.size W w18) := by rw [hw18]; exact below_drewN BBi.out q18
              have HOj : Rd w18 ao l' := by rw [hw18]; exact HOi.out
              have C17 := still_true _ gm km co ao l' w18 HLj HOj (by rw [Hl'.out]; omega)
              rw [Hl'.out] at C17
              clear hw18 HLi BBi HOi HLj HOj
              go_wp2_with fail
              refine C17.mono ?_
              rintro x w19 ⟨rfl, q19, hw19⟩
              clear C17
              have HZ : Hid (Below W.heap.size W w19) := by rw [hw19]; exact below_drewN BBj.out q19
              clear hw19 BBj
              go_wp2
              go_ret
              exact ⟨rfl, HZ.out⟩

end Go.Proofs.YtefpjjonmoofpaaDoor
