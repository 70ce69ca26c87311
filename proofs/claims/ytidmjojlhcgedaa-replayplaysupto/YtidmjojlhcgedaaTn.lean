import Derived.Test.YtidmjojlhcgedaaTm
namespace Go.Proofs.Ytidmjojlhcgedaa
open Go.RowKit Go.Maps
set_option maxRecDepth 100000

instance (x : Int) : Decidable (I64 x) := by unfold I64; infer_instance

set_option maxHeartbeats 16000000 in
theorem plays_law (ai : Option Addr) (ci : Nat) (ls : List UInt8) (aos : Option Addr) (cos : Nat) (os : List Stp) (w : World) (hri0 : Rd w ai ls) (hcap : ls.length ≤ ci) (hnil : ai = none → ci = 0) (hll : ls.length ≤ 10000000) (hro0 : RdO w aos os) (hol : os.length ≤ 10000000) (hos0 : ∀ s ∈ os, StpOk s) :
    Calls Try.prog 9 #[.slice ai ls.length ci, .slice aos os.length cos] w fun e w' => e = .returned (.bool true) ∧ Below w.heap.size w w' := by
  have BC := begin_any ai ci ls w hri0 hcap hnil hll
  have hro : Hid (RdO w aos os) := hro0
  have hos : Hid (∀ s ∈ os, StpOk s) := hos0
  have hok : Hid (∀ b, beginR ls = .ok b → BkOk b) := fun b h => beginR_ok h
  clear hri0 hcap hnil hll hro0 hos0
  generalize beginR ls = X at BC hok
  cases X with
  | error k =>
    go_enter Try.func9, Try.ntmps9
    go_wp2_with fail
    refine BC.mono ?_
    rintro e w1 ⟨rfl, hb'⟩
    have hb1 : Hid (Below w.heap.size w w1) := hb'
    clear hb' BC
    go_wp2_with fail
    go_ret
    exact ⟨rfl, hb1.out⟩
  | ok b0 =>
    have hK0 : Hid (BkOk b0) := hok.out b0 rfl
    clear hok
    go_enter Try.func9, Try.ntmps9
    go_wp2_with fail
    refine BC.mono ?_
    rintro e w1 ⟨bb0, mb0, gm, rfl, hB', hM', hbb0, hmb0, hb'⟩
    have hB1 : Hid (Bok w1 bb0 mb0 b0) := hB'
    have hM1 : Hid (Mq w1 w.heap.size gm b0) := hM'
    have hb1 : Hid (Below w.heap.size w w1) := hb'
    clear hb' hM' hB' BC
    go_wp2_with fail
    go_loopw [5, 8, 9, 10] (fun s5 vl vw s wr => ∃ (i bb mb : Nat) (bk : Bk) (Ims : List (List UInt8)), s = .int .i64 (i : Int) ∧ s5 = .pointer (some ⟨bb, 0, none⟩) ∧ i ≤ os.length ∧ Ims.length ≤ i ∧ w.heap.size ≤ bb ∧ w.heap.size ≤ mb ∧ Bok wr bb mb bk ∧ Mq wr w.heap.size gm bk ∧ BkOk bk ∧ Lr wr w.heap.size vl Ims ∧ Lr wr w.heap.size vw Ims ∧ Hid (Apt vl vw) ∧ Hid (∀ im ∈ Ims, im.length ≤ 7000000) ∧ Below w.heap.size w wr) (fun _ _ _ s _ => os.length - (intOf s).toNat)
    case atStart => exact ⟨0, bb0, mb0, b0, [], rfl, rfl, Nat.zero_le _, Nat.le_refl _, hbb0, hmb0, hB1.out, hM1.out, hK0.out, Lr.nil _ _, Lr.nil _ _, (fun g h => by cases h), (fun _ h => nomatch h), hb1.out⟩
    case round =>
      obtain ⟨i, bb, mb, bk, Ims, rfl, rfl, hi, hIi, hbb, hmb, hB', hM', hK', hl', hw', hap, hil, hb'⟩ := hrel
      obtain ⟨vsl, hol1, hll1, hlo1⟩ := hl'
      obtain ⟨vsw, how1, hlw1, hwo1⟩ := hw'
      obtain ⟨al, cl, e1⟩ := hol1.form
      obtain ⟨aw, cw, e2⟩ := how1.form
      rw [hll1] at e1
      rw [hlw1] at e2
      subst e1 e2
      obtain ⟨nI, hnI⟩ : ∃ nI, Ims.length = nI := ⟨_, rfl⟩
      rw [hnI] at hol1 how1 hap hIi ⊢
      have hnIh : Hid (Ims.length = nI) := hnI
      have hl9 : Hid (Lr wr w.heap.size (.slice al nI cl) Ims) := ⟨vsl, hol1, hll1, hlo1⟩
      have hw9 : Hid (Lr wr w.heap.size (.slice aw nI cw) Ims) := ⟨vsw, how1, hlw1, hwo1⟩
      have hB9 : Hid (Bok wr bb mb bk) := hB'
      have hM9 : Hid (Mq wr w.heap.size gm bk) := hM'
      have hK9 : Hid (BkOk bk) := hK'
      have hb9 : Hid (Below w.heap.size w wr) := hb'
      clear hB' hM' hK' hb' hB1 hM1 hb1 hK0 hbb0 hmb0 hnI hll1 hlw1 hol1 how1 hlo1 hwo1
      by_cases hlt : i < os.length
      · obtain ⟨g, off, hao, _, o0, o1, o2, o3⟩ := (hro.out.below hb9.out (Nat.le_refl _)).at' hlt
        subst hao
        have hst0 := stp_at hos.out hlt
        generalize os.getD i stp0 = s at o0 o1 o2 o3 hst0
        obtain ⟨sk, sj, su, sn⟩ := s
        simp only at o0 o1 o2 o3
        have hst : Hid (StpOk ⟨sk, sj, su, sn⟩) := hst0
        clear hst0
        by_cases h5 : sk = 5
        · subst h5
          have IC := image_any bb mb bk wr hB9.out hK9.out
          have hop := open_img hK9.out
          have himl := imgF_length hK9.out
          obtain ⟨im, him⟩ : ∃ im, imgF bk = im := ⟨_, rfl⟩
          rw [him] at IC hop himl
          clear him
          go_wp2_with fail
          refine IC.mono ?_
          rintro e w1 ⟨v1, rfl, ho1⟩
          obtain ⟨a1, c1, e1, hcap1, r1⟩ := ho1.own.nb
          subst e1
          have hr1 : Hid (Rd w1 a1 im) := r1
          have hb01 : Hid (Below wr.heap.size wr w1) := ho1.bel
          have hn1 : Hid (a1 = none → c1 = 0) := by
            rintro rfl
            rcases ho1.own.2 with ⟨e, _⟩ | ⟨_, _, _, e, _⟩
            · simp at e; exact e.2
            · cases e
          clear ho1 r1 IC
          have OC := open_any a1 c1 im w1 hr1.out hcap1 hn1.out (by omega)
          rw [hop] at OC
          clear hop
          go_wp2_with fail
          refine OC.mono ?_
          rintro e w2 ⟨b2, m2, rfl, hB2', hbb2, hmb2, hb2'⟩
          have s1 := hb01.out.size
          have s0 := hb9.out.size
          have hB2 : Hid (Bok w2 b2 m2 bk) := hB2'
          have hb02 : Hid (Below wr.heap.size wr w2) := hb01.out.trans (hb2'.mono s1)
          have hM2 : Hid (Mq w2 w.heap.size gm bk) := hM9.out.below hb02.out (Nat.le_refl _)
          have hl2 : Hid (Lr w2 w.heap.size (.slice al nI cl) Ims) := hl9.out.below hb02.out (Nat.le_refl _)
          have hw2 : Hid (Lr w2 w.heap.size (.slice aw nI cw) Ims) := hw9.out.below hb02.out (Nat.le_refl _)
          have hb2 : Hid (Below w.heap.size w w2) := hb9.out.trans (hb02.out.mono s0)
          have hbb' : w.heap.size ≤ b2 := by omega
          have hmb' : w.heap.size ≤ m2 := by omega
          have key : ∀ j v, wr.cell? ⟨g, j, none⟩ = some v → w2.cell? ⟨g, j, none⟩ = some v := fun j v h => cell_but h fun h1 => hb02.out.block g h1
          have p0 := key _ _ o0
          have p1 := key _ _ o1
          have p2 := key _ _ o2
          have p3 := key _ _ o3
          clear hB2' hb2' hb01 hr1 hn1 OC hb02 hM9 hl9 hw9 hb9 hB9 hbb hmb s0 s1 hbb2 hmb2 key o0 o1 o2 o3
          go_wp2_with fail
          refine (plays_any w.heap.size b2 m2 gm bk ⟨5, sj, su, sn⟩ w2 hB2.out hM2.out hK9.out hst.out hb2.out.size hbb' hmb').mono ?_
          rintro e w5 ⟨rfl, hB', hM', hb', hf'⟩
          have hB5 : Hid (Bok w5 b2 m2 (stepB bk ⟨5, sj, su, sn⟩)) := hB'
          have hM5 : Hid (Mq w5 w.heap.size gm (stepB bk ⟨5, sj, su, sn⟩)) := hM'
          have hb5 : Hid (Below w.heap.size w w5) := hb2.out.trans hb'
          have hl5 : Hid (Lr w5 w.heap.size (.slice al nI cl) Ims) := hl2.out.fr hB2.out hf'
          have hw5 : Hid (Lr w5 w.heap.size (.slice aw nI cw) Ims) := hw2.out.fr hB2.out hf'
          have hK5 : Hid (BkOk (stepB bk ⟨5, sj, su, sn⟩)) := stepB_ok hK9.out hst.out
          clear hB' hM' hb' hf' hB2 hM2 hb2 hl2 hw2 hK9 p0 p1 p2 p3
          go_wp2_with fail
          go_roundw
          case rel => exact ⟨i + 1, b2, m2, stepB bk ⟨5, sj, su, sn⟩, Ims, by go_num, rfl, by omega, by rw [hnIh.out]; omega, hbb', hmb', hB5.out, hM5.out, hK5.out, hl5.out, hw5.out, hap, hil, hb5.out⟩
          case measure => simp [intOf]; omega
        · have h5' : (sk == 5) = false := by simpa using h5
          clear h5
          by_cases h4 : sk = 4
          · subst h4
            by_cases hodd : i % 2 = 1
            · have qo : ((i : Int) % 2 == 1) = true := by simp; omega
              clear hodd
              go_wp2_with fail
              refine (image_any bb mb bk wr hB9.out hK9.out).mono ?_
              rintro e w1 ⟨v1, rfl, ho1⟩
              have himl := imgF_length hK9.out
              have MC : Hid (∀ w', Mq w' w.heap.size gm bk → Calls Try.prog 27 #[.pointer (some ⟨gm, 0, none⟩)] w' fun e w'' => ∃ v, e = .returned v ∧ Owb w'' w'.heap.size v (imgF bk) ∧ Below w'.heap.size w' w'') := fun w' h => rimage_any w.heap.size gm bk w' h hK9.out
              generalize imgF bk = im at ho1 himl MC
              have hb01 := ho1.bel
              have s0 := hb9.out.size
              have hx1 : Hid (Owb w1 w.heap.size v1 im) := ho1.own.base s0
              obtain ⟨a1, c1, e1, _, _⟩ := hx1.out.nb
              obtain ⟨n1, hn1⟩ : ∃ n1, im.length = n1 := ⟨_, rfl⟩
              rw [hn1] at e1
              clear hn1
              subst e1
              obtain ⟨vsl, ol1, ll1, lo1⟩ := hl9.out.below hb01 (Nat.le_refl _)
              have hol1 : Hid (Osl w1 w.heap.size (.slice al nI cl) vsl) := ol1
              have hll1 : Hid (vsl.length = Ims.length) := ll1
              have hlo1 : Hid (∀ j, j < Ims.length → Owb w1 w.heap.size (vsl.getD j undef) (Ims.getD j [])) := lo1
              have hB1 : Hid (Bok w1 bb mb bk) := hB9.out.below hb01 hB9.out.lt hB9.out.lt2
              have hM1 : Hid (Mq w1 w.heap.size gm bk) := hM9.out.below hb01 (Nat.le_refl _)
              have hw1 : Hid (Lr w1 w.heap.size (.slice aw nI cw) Ims) := hw9.out.below hb01 (Nat.le_refl _)
              have hb1 : Hid (Below w.heap.size w w1) := hb9.out.trans (hb01.mono s0)
              have hvl : vsl.length ≤ 1000000000 := by rw [ll1, hnIh.out]; omega
              have hvn : Hid (vsl.length = nI) := by show _ = _; rw [ll1, hnIh.out]
              have hawlt : Hid (∀ g, (Value.slice aw nI cw).ownBlock = some g → g < w1.heap.size) := hw1.out.lt
              clear ho1 hb01 s0 hB9 hM9 hl9 hw9 hb9 ol1 ll1 lo1 o0 o1 o2 o3
              go_wp2_with (at_builtin; refine append_sl rfl (.tmp 73) (.tmp 76) rfl w.heap.size _ vsl (.slice a1 n1 c1) rfl rfl hol1.out rfl hvl hb1.out.size ?_; intro g7 c7 w7 h7 hc7 hd7; have hch := hol1.out.ch hc7; have hl7 : Hid (Lr w7 w.heap.size (.slice (some ⟨g7, 0, none⟩) (nI + 1) c7) (Ims ++ [im])) := by { have := Lr.push hll1.out hlo1.out hx1.out hch h7; rw [hvn.out] at this; exact this }; have hw7 : Hid (Lr w7 w.heap.size (.slice aw nI cw) Ims) := hw1.out.ch hch (fun g h1 h2 => hap.out g h2 h1); have hB7 : Hid (Bok w7 bb mb bk) := hB1.out.ch hch; have hM7 : Hid (Mq w7 w.heap.size gm bk) := hM1.out.ch hch; have hb7 : Hid (Below w.heap.size w w7) := chf_new hb1.out hc7 (own_block hol1.out); have ha7 : Hid (Apt (.slice (some ⟨g7, 0, none⟩) (nI + 1) c7) (.slice aw nI cw)) := apt_new hap.out hd7 hawlt.out; rw [hvn.out]; clear hch h7 hc7 hd7)
              clear hol1 hll1 hlo1 hB1 hM1 hw1 hb1 hx1 hvl hvn hawlt hap
              refine (MC.out w7 hM7.out).mono ?_
              rintro e w8 ⟨v8, rfl, ho8, hb78⟩
              have s7 := hb7.out.size
              have hx8 : Hid (Owb w8 w.heap.size v8 im) := ho8.base s7
              obtain ⟨a8, c8, e8, _, _⟩ := hx8.out.nb
              obtain ⟨n8, hn8⟩ : ∃ n8, im.length = n8 := ⟨_, rfl⟩
              rw [hn8] at e8
              clear hn8
              subst e8
              obtain ⟨vsw, ow8, lw8, wo8⟩ := hw7.out.below hb78 (Nat.le_refl _)
              have how8 : Hid (Osl w8 w.heap.size (.slice aw nI cw) vsw) := ow8
              have hlw8 : Hid (vsw.length = Ims.length) := lw8
              have hwo8 : Hid (∀ j, j < Ims.length → Owb w8 w.heap.size (vsw.getD j undef) (Ims.getD j [])) := wo8
              have hB8 : Hid (Bok w8 bb mb bk) := hB7.out.below hb78 hB7.out.lt hB7.out.lt2
              have hM8 : Hid (Mq w8 w.heap.size gm bk) := hM7.out.below hb78 (Nat.le_refl _)
              have hl8 : Hid (Lr w8 w.heap.size (.slice (some ⟨g7, 0, none⟩) (nI + 1) c7) (Ims ++ [im])) := hl7.out.below hb78 (Nat.le_refl _)
              have hb8 : Hid (Below w.heap.size w w8) := hb7.out.trans (hb78.mono s7)
              have hvl : vsw.length ≤ 1000000000 := by rw [lw8, hnIh.out]; omega
              have hvn : Hid (vsw.length = nI) := by show _ = _; rw [lw8, hnIh.out]
              have hallt : Hid (∀ g, (Value.slice (some ⟨g7, 0, none⟩) (nI + 1) c7).ownBlock = some g → g < w8.heap.size) := hl8.out.lt
              clear ho8 hb78 s7 hB7 hM7 hl7 hw7 hb7 ow8 lw8 wo8 MC
              go_wp2_with (at_builtin; refine append_sl rfl (.tmp 78) (.tmp 81) rfl w.heap.size _ vsw (.slice a8 n8 c8) rfl rfl how8.out rfl hvl hb8.out.size ?_; intro g9 c9 w9 h9 hc9 hd9; have hch := how8.out.ch hc9; have hw9 : Hid (Lr w9 w.heap.size (.slice (some ⟨g9, 0, none⟩) (nI + 1) c9) (Ims ++ [im])) := by { have := Lr.push hlw8.out hwo8.out hx8.out hch h9; rw [hvn.out] at this; exact this }; have hl9 : Hid (Lr w9 w.heap.size (.slice (some ⟨g7, 0, none⟩) (nI + 1) c7) (Ims ++ [im])) := hl8.out.ch hch (fun g h1 h2 => ha7.out g h1 h2); have hB9 : Hid (Bok w9 bb mb bk) := hB8.out.ch hch; have hM9 : Hid (Mq w9 w.heap.size gm bk) := hM8.out.ch hch; have hb9 : Hid (Below w.heap.size w w9) := chf_new hb8.out hc9 (own_block how8.out); have ha9 : Hid (Apt (.slice (some ⟨g7, 0, none⟩) (nI + 1) c7) (.slice (some ⟨g9, 0, none⟩) (nI + 1) c9)) := (apt_new ha7.out.symm hd9 hallt.out).symm; rw [hvn.out]; clear hch h9 hc9 hd9)
              go_roundw
              case rel => exact ⟨i + 1, bb, mb, bk, Ims ++ [im], by go_num, rfl, by omega, by rw [List.length_append, hnIh.out]; simp; omega, hbb, hmb, hB9.out, hM9.out, hK9.out, hl9.out, hw9.out, ha9, (fun x hx => by rcases List.mem_append.1 hx with hx | hx; exact hil.out x hx; (rw [List.mem_singleton] at hx; rw [hx]; exact himl)), hb9.out⟩
              case measure => simp [intOf]; omega
            · have qo : ((i : Int) % 2 == 1) = false := by simp; omega
              clear hodd
              go_wp2_with fail
              refine (plays_any w.heap.size bb mb gm bk ⟨4, sj, su, sn⟩ wr hB9.out hM9.out hK9.out hst.out hb9.out.size hbb hmb).mono ?_
              rintro e w5 ⟨rfl, hB', hM', hb', hf'⟩
              have hB5 : Hid (Bok w5 bb mb (stepB bk ⟨4, sj, su, sn⟩)) := hB'
              have hM5 : Hid (Mq w5 w.heap.size gm (stepB bk ⟨4, sj, su, sn⟩)) := hM'
              have hb5 : Hid (Below w.heap.size w w5) := hb9.out.trans hb'
              have hl5 : Hid (Lr w5 w.heap.size (.slice al nI cl) Ims) := hl9.out.fr hB9.out hf'
              have hw5 : Hid (Lr w5 w.heap.size (.slice aw nI cw) Ims) := hw9.out.fr hB9.out hf'
              have hK5 : Hid (BkOk (stepB bk ⟨4, sj, su, sn⟩)) := stepB_ok hK9.out hst.out
              clear hB' hM' hb' hf' hB9 hM9 hb9 hl9 hw9 hK9 o0 o1 o2 o3
              go_wp2_with fail
              go_roundw
              case rel => exact ⟨i + 1, bb, mb, stepB bk ⟨4, sj, su, sn⟩, Ims, by go_num, rfl, by omega, by rw [hnIh.out]; omega, hbb, hmb, hB5.out, hM5.out, hK5.out, hl5.out, hw5.out, hap, hil, hb5.out⟩
              case measure => simp [intOf]; omega
          · have h4' : (sk == 4) = false := by simpa using h4
            clear h4
            go_wp2_with fail
            refine (plays_any w.heap.size bb mb gm bk ⟨sk, sj, su, sn⟩ wr hB9.out hM9.out hK9.out hst.out hb9.out.size hbb hmb).mono ?_
            rintro e w5 ⟨rfl, hB', hM', hb', hf'⟩
            have hB5 : Hid (Bok w5 bb mb (stepB bk ⟨sk, sj, su, sn⟩)) := hB'
            have hM5 : Hid (Mq w5 w.heap.size gm (stepB bk ⟨sk, sj, su, sn⟩)) := hM'
            have hb5 : Hid (Below w.heap.size w w5) := hb9.out.trans hb'
            have hl5 : Hid (Lr w5 w.heap.size (.slice al nI cl) Ims) := hl9.out.fr hB9.out hf'
            have hw5 : Hid (Lr w5 w.heap.size (.slice aw nI cw) Ims) := hw9.out.fr hB9.out hf'
            have hK5 : Hid (BkOk (stepB bk ⟨sk, sj, su, sn⟩)) := stepB_ok hK9.out hst.out
            clear hB' hM' hb' hf' hB9 hM9 hb9 hl9 hw9 hK9 o0 o1 o2 o3
            go_wp2_with fail
            go_roundw
            case rel => exact ⟨i + 1, bb, mb, stepB bk ⟨sk, sj, su, sn⟩, Ims, by go_num, rfl, by omega, by rw [hnIh.out]; omega, hbb, hmb, hB5.out, hM5.out, hK5.out, hl5.out, hw5.out, hap, hil, hb5.out⟩
            case measure => simp [intOf]; omega
      · obtain rfl : i = os.length := by omega
        clear hi hlt
        go_wp2_with fail
        go_loopw [14] (fun s wr2 => ∃ (j q : Nat), s = .int .i64 (j : Int) ∧ j ≤ nI ∧ wr2 = wr.drewN q) (fun s _ => nI - (intOf s).toNat)
        case atStart => exact ⟨0, 0, rfl, Nat.zero_le _, rfl⟩
        case round =>
          obtain ⟨j, q, rfl, hj, rfl⟩ := hrel
          by_cases hjn : j < nI
          · obtain ⟨vsl, ol1, ll1, lo1⟩ := hl9.out
            obtain ⟨vsw, ow1, lw1, wo1⟩ := hw9.out
            have hjI : j < Ims.length := by rw [hnIh.out]; exact hjn
            obtain ⟨gl, rfl, k1⟩ := ol1.cell (j := j) (by omega)
            obtain ⟨gw, rfl, k2⟩ := ow1.cell (j := j) (by omega)
            obtain ⟨a1, c1, e1, _, r1⟩ := (lo1 j hjI).nb
            obtain ⟨a2, c2, e2, _, r2⟩ := (wo1 j hjI).nb
            rw [e1] at k1
            rw [e2] at k2
            have him := hil.out (Ims.getD j []) (by rw [getD_eq _ _ hjI]; exact List.getElem_mem _)
            have SC : Hid (∀ w', wr.heap.size ≤ w'.heap.size → Rd w' a1 (Ims.getD j []) → Rd w' a2 (Ims.getD j []) → Calls Try.prog 14 #[.slice a1 (Ims.getD j []).length c1, .slice a2 (Ims.getD j []).length c2] w' fun e w'' => e = .returned (.bool true) ∧ ∃ q, w'' = w'.drewN q) := fun w' _ h1 h2 => by
              have := same_any a1 a2 c1 c2 (Ims.getD j []) (Ims.getD j []) w' h1 h2 (by omega)
              rw [show decide (Ims.getD j [] = Ims.getD j []) = true by simp] at this
              exact this
            have hr1 : Hid (Rd wr a1 (Ims.getD j [])) := r1
            have hr2 : Hid (Rd wr a2 (Ims.getD j [])) := r2
            obtain ⟨im, himd⟩ : ∃ im, Ims.getD j [] = im := ⟨_, rfl⟩
            rw [himd] at SC hr1 hr2 k1 k2
            obtain ⟨n1, hn1⟩ : ∃ n1, im.length = n1 := ⟨_, rfl⟩
            rw [hn1] at SC k1 k2
            have hk1 : Hid (wr.cell? ⟨gl, j, none⟩ = some (.slice a1 n1 c1)) := k1
            have hk2 : Hid (wr.cell? ⟨gw, j, none⟩ = some (.slice a2 n1 c2)) := k2
            clear e1 e2 himd hn1 ol1 ll1 lo1 ow1 lw1 wo1 r1 r2 him
            go_wp2_with fail
            refine wp_region_K 8 (fun (w' : World) => w'.cell? ⟨gl, j, none⟩ = some (.slice a1 n1 c1) ∧ w'.cell? ⟨gw, j, none⟩ = some (.slice a2 n1 c2)) (by kernel_rfl) ?_
            have hHeld : ((fun (w' : World) => w'.cell? ⟨gl, j, none⟩ = some (.slice a1 n1 c1) ∧ w'.cell? ⟨gw, j, none⟩ = some (.slice a2 n1 c2))) (World.drew (wr.drewN q)) := ⟨hk1.out, hk2.out⟩
            refine wpAnyK_take0 0 (v := ?v1) rfl (by kernel_rfl) (fun _ _ _ h => h) (Or.inl ⟨by rfl, ?hy1⟩) (fun _ => hHeld) ?_
            case hy1 => (intro w hSw; go_simp; try with_reducible rfl)
            try simp only [Act.put, List.setIfInBounds_toArray, List.set_cons_zero, List.set_cons_succ]
            refine wpAnyK_take0 1 (v := ?v2) rfl (by kernel_rfl) (fun _ _ _ h => h) (Or.inl ⟨by rfl, ?hy2⟩) (fun _ => hHeld) ?_
            case hy2 => (intro w hSw; go_simp; try with_reducible rfl)
            try simp only [Act.put, List.setIfInBounds_toArray, List.set_cons_zero, List.set_cons_succ]
            refine wpAnyK_take0 2 (v := ?v3) rfl (by kernel_rfl) (fun _ _ _ h => h) (Or.inl ⟨by rfl, ?hy3⟩) (fun _ => hHeld) ?_
            case hy3 => (intro w hSw; go_simp; try with_reducible rfl)
            try simp only [Act.put, List.setIfInBounds_toArray, List.set_cons_zero, List.set_cons_succ]
            refine wpAnyK_take 3 [8] (v := ?v4) rfl (by kernel_rfl) (fun _ _ _ h => h) (Or.inl ⟨by rfl, ?hy4⟩) hHeld ?_
            case hy4 => (intro w hSw; (try dsimp only at hSw); go_simp; try with_reducible rfl)
            try simp only [Act.put, List.setIfInBounds_toArray, List.set_cons_zero, List.set_cons_succ]
            refine wpAnyK_take0 4 (v := ?v5) rfl (by kernel_rfl) (fun _ _ _ h => h) (Or.inl ⟨by rfl, ?hy5⟩) (fun _ => hHeld) ?_
            case hy5 => (intro w hSw; go_simp; try with_reducible rfl)
            try simp only [Act.put, List.setIfInBounds_toArray, List.set_cons_zero, List.set_cons_succ]
            refine wpAnyK_take0 5 (v := ?v6) rfl (by kernel_rfl) (fun _ _ _ h => h) (Or.inl ⟨by rfl, ?hy6⟩) (fun _ => hHeld) ?_
            case hy6 => (intro w hSw; go_simp; try with_reducible rfl)
            try simp only [Act.put, List.setIfInBounds_toArray, List.set_cons_zero, List.set_cons_succ]
            refine wpAnyK_take0 6 (v := ?v7) rfl (by kernel_rfl) (fun _ _ _ h => h) (Or.inl ⟨by rfl, ?hy7⟩) (fun _ => hHeld) ?_
            case hy7 => (intro w hSw; go_simp; try with_reducible rfl)
            try simp only [Act.put, List.setIfInBounds_toArray, List.set_cons_zero, List.set_cons_succ]
            refine wpAnyK_take 7 [8] (v := ?v8) rfl (by kernel_rfl) (fun _ _ _ h => h) (Or.inl ⟨by rfl, ?hy8⟩) hHeld ?_
            case hy8 => (intro w hSw; (try dsimp only at hSw); go_simp; try with_reducible rfl)
            try simp only [Act.put, List.setIfInBounds_toArray, List.set_cons_zero, List.set_cons_succ]
            refine wpAnyK_step 8 rfl (by kernel_rfl) (fun K hK => ?_)
            go_simp
            refine (SC.out (World.drew (wr.drewN q)) (Nat.le_refl _) ((hr1.out.drewN q).drewN 1) ((hr2.out.drewN q).drewN 1)).mono ?_
            rintro e w6 ⟨rfl, q6, rfl⟩
            try dsimp only
            refine hK.out _ _ ?hk9 ?_
            case hk9 => exact (fun h => nomatch (h.symm.trans (show _ = true by kernel_rfl)))
            clear hK K
            try simp only [Act.put, List.setIfInBounds_toArray, List.set_cons_zero, List.set_cons_succ]
            refine wpAnyK_take0 9 (v := ?v10) rfl (by kernel_rfl) (fun _ _ _ h => h) (Or.inl ⟨by rfl, ?hy10⟩) (fun h => nomatch (h.symm.trans (show _ = true by kernel_rfl))) ?_
            case hy10 => (intro w hSw; go_simp; try with_reducible rfl)
            try simp only [Act.put, List.setIfInBounds_toArray, List.set_cons_zero, List.set_cons_succ]
            refine wpAnyK_done (by kernel_rfl) ?_ _
            go_wp2_with fail
            go_roundw
            case rel => exact ⟨j + 1, _, by go_num, by omega, rfl⟩
            case measure => simp [intOf]; omega
          · obtain rfl : j = nI := by omega
            have P3 := plays_any w.heap.size bb mb gm bk ⟨3, [], 0, 0⟩ (wr.drewN q) (hB9.out.below (below_drewN (Below.refl _ _) q) hB9.out.lt hB9.out.lt2) (hM9.out.drewN q) hK9.out ⟨by simp, (by decide : I64 0), (by decide : I64 0)⟩ hb9.out.size hbb hmb
            rw [show stepB bk ⟨3, [], 0, 0⟩ = bk from rfl] at P3
            have P4 : Hid (∀ w', Bok w' bb mb bk → Mq w' w.heap.size gm bk → w.heap.size ≤ w'.heap.size → Calls Try.prog 29 #[.pointer (some ⟨bb, 0, none⟩), .pointer (some ⟨gm, 0, none⟩), .agg #[.int .i64 4, .string ⟨#[]⟩, .int .i64 0, .int .i64 0]] w' fun e w'' => e = .returned (.bool true) ∧ Below w.heap.size w' w'') := fun w' h1 h2 h3 =>
              (plays_any w.heap.size bb mb gm bk ⟨4, [], 0, 0⟩ w' h1 h2 hK9.out ⟨by simp, (by decide : I64 0), (by decide : I64 0)⟩ h3 hbb hmb).mono (fun e w'' h => ⟨h.1, h.2.2.2.1⟩)
            have hbq : Hid (Below w.heap.size w (wr.drewN q)) := below_drewN hb9.out q
            clear hl9 hw9 hB9 hM9 hb9 hK9 hil hap
            go_wp2_with fail
            refine P3.mono ?_
            rintro e w5 ⟨rfl, hB', hM', hb', hf'⟩
            have hB5 : Hid (Bok w5 bb mb bk) := hB'
            have hM5 : Hid (Mq w5 w.heap.size gm bk) := hM'
            have hb5 : Hid (Below w.heap.size w w5) := hbq.out.trans hb'
            clear hB' hM' hb' hf' P3 hbq
            go_wp2_with fail
            refine (P4.out w5 hB5.out hM5.out hb5.out.size).mono ?_
            rintro e w6 ⟨rfl, hb'⟩
            have hb6 : Hid (Below w.heap.size w w6) := hb5.out.trans hb'
            clear hb' P4 hB5 hM5 hb5
            go_wp2_with fail
            go_ret
            exact ⟨rfl, hb6.out⟩

end Go.Proofs.Ytidmjojlhcgedaa
