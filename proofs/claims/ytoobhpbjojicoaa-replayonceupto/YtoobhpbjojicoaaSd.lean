import Derived.Test.YtoobhpbjojicoaaSc
import Derived.Test.YtoobhpbjojicoaaRv
namespace Go.Proofs.Ytoobhpbjojicoaa
open Go.RowKit Go.Maps
set_option maxRecDepth 100000

set_option maxHeartbeats 8000000 in
theorem once_any (aos : Option Addr) (cos : Nat) (os : List Stp) (w : World) (hro0 : RdO w aos os) (hol : os.length ≤ 10000000) (hos0 : ∀ s ∈ os, StpOk s) :
    Calls Try.prog 6 #[.slice aos os.length cos] w fun e w' => e = .returned (.bool true) ∧ Below w.heap.size w w' := by
  have hro : Hid (RdO w aos os) := hro0
  have hos : Hid (∀ s ∈ os, StpOk s) := hos0
  clear hro0 hos0
  go_enter Try.func6, Try.ntmps6
  go_wp2_with fail
  refine (started_any w).mono ?_
  rintro e w1 ⟨rfl, hbel1⟩
  have hb1 : Hid (Below w.heap.size w w1) := hbel1
  clear hbel1
  go_wp2_with fail
  refine (new_any w1).mono ?_
  rintro e w2 ⟨bb0, mb0, rfl, hB2', hbel2, hbb2, hmb2⟩
  have hB2 : Hid (Bok w2 bb0 mb0 ⟨false, 0, []⟩) := hB2'
  have hb2 : Hid (Below w.heap.size w w2) := hb1.out.trans (hbel2.mono hb1.out.size)
  have hbb0 : w.heap.size ≤ bb0 := Nat.le_trans hb1.out.size hbb2
  have hmb0 : w.heap.size ≤ mb0 := Nat.le_trans hb1.out.size hmb2
  clear hB2' hbel2 hbb2 hmb2 hb1
  go_wp2_with fail
  go_loopw [3, 4, 5, 6, 7] (fun s3 s4 s5 s6 s7 wr => ∃ (k bb mb : Nat) (bk : Bk) (L : List En), s7 = .int .i64 (k : Int) ∧ s3 = .pointer (some ⟨bb, 0, none⟩) ∧ s5 = .bool bk.has ∧ s6 = .int .i64 bk.clk ∧ k ≤ os.length ∧ L.length ≤ k ∧ w.heap.size ≤ bb ∧ w.heap.size ≤ mb ∧ Bok wr bb mb bk ∧ BkOk bk ∧ Tk bk L ∧ Oe wr w.heap.size s4 L ∧ Below w.heap.size w wr) (fun _ _ _ _ s _ => os.length - (intOf s).toNat)
  case atStart => exact ⟨0, bb0, mb0, ⟨false, 0, []⟩, [], rfl, rfl, rfl, rfl, Nat.zero_le _, Nat.le_refl _, hbb0, hmb0, hB2.out, bk0_ok, ⟨.refl _, fun _ => rfl⟩, Oe.nil _ _, hb2.out⟩
  case round =>
    obtain ⟨k, bb, mb, bk, L, rfl, rfl, rfl, rfl, hk, hLk, hbb, hmb, hB', hK', hT', hO', hbel'⟩ := hrel
    have hB9 : Hid (Bok wr bb mb bk) := hB'
    have hK9 : Hid (BkOk bk) := hK'
    have hT9 : Hid (Tk bk L) := hT'
    have hO9 : Hid (Oe wr w.heap.size _ L) := hO'
    have hb9 : Hid (Below w.heap.size w wr) := hbel'
    clear hB' hK' hT' hO' hbel' hB2 hb2 hbb0 hmb0
    have hfr : ∀ k, (k = bb ∨ k = mb) → w.heap.size ≤ k := by rintro k (rfl | rfl) <;> assumption
    by_cases hlt : k < os.length
    · obtain ⟨g, off, hao, _, o0, o1, o2, o3⟩ := (hro.out.below hb9.out (Nat.le_refl _)).at' hlt
      subst hao
      have hst := stp_at hos.out hlt
      generalize os.getD k stp0 = s at o0 o1 o2 o3 hst
      obtain ⟨sk, sj, su, sn⟩ := s
      simp only at o0 o1 o2 o3
      have hsj : Hid (StpOk ⟨sk, sj, su, sn⟩) := hst
      clear hst
      obtain ⟨av, cv, hv, hrd'⟩ := hO9.out.rd
      subst hv
      clear hrd'
      by_cases hk5 : sk = 5
      · subst hk5
        go_wp2_with fail
        obtain ⟨wN, hwN⟩ : ∃ wN, wr.alloc (Obj.cells #[.int .i64 5, .string ⟨sj.toArray⟩, .int .i64 su, .int .i64 sn] 27) = wN := ⟨_, rfl⟩
        have bN : Below wr.heap.size wr wN := hwN ▸ alloc_below _ _
        have cN0 : Bl 27 wN wr.heap.size [.int .i64 5, .string ⟨sj.toArray⟩, .int .i64 su, .int .i64 sn] := by rw [← hwN]; exact alloc_bl wr [_, _, _, _] _
        have hBN : Hid (Bok wN bb mb bk) := hB9.out.below bN hB9.out.lt hB9.out.lt2
        have hON : Hid (Oe wN w.heap.size (.slice av L.length cv) L) := hO9.out.below bN (Nat.le_refl _)
        have hbN : Hid (Below w.heap.size w wN) := hb9.out.trans (bN.mono hb9.out.size)
        have m1 := hB9.out.lt
        have m2 := hB9.out.lt2
        obtain ⟨nb, hnb⟩ : ∃ nb, wr.heap.size = nb := ⟨_, rfl⟩
        rw [hwN]
        rw [hnb] at m1 m2 cN0 ⊢
        have hnl : nb < wN.heap.size := cN0.lt
        have cN : Hid (Bl 27 wN nb [.int .i64 5, .string ⟨sj.toArray⟩, .int .i64 su, .int .i64 sn]) := cN0
        have c0 := cN0.cell 0 (by simp)
        have c1 := cN0.cell 1 (by simp)
        have c2 := cN0.cell 2 (by simp)
        have c3 := cN0.cell 3 (by simp)
        simp only [List.getElem_cons_zero, List.getElem_cons_succ] at c0 c1 c2 c3
        clear hwN hnb bN cN0 o0 o1 o2 o3 hB9 hO9 hb9
        have I1 := image_any bb mb bk wN hBN.out hK9.out
        have hop := open_img hK9.out
        have hil := imgF_length hK9.out
        obtain ⟨im, him⟩ : ∃ im, imgF bk = im := ⟨_, rfl⟩
        rw [him] at I1 hil hop
        clear him
        refine I1.mono ?_
        rintro e w5 ⟨v5, rfl, hob⟩
        obtain ⟨ai, ci, rfl, hci, hri⟩ := hob.own.nb
        have OC := opened_any ai ci im w5 hri hci (own_nil hob.own) (by omega)
        rw [show openB im = bk by unfold openB; rw [hop]] at OC
        have hb5 : Hid (Below w.heap.size w w5) := hbN.out.trans (hob.bel.mono hbN.out.size)
        have hO5 : Hid (Oe w5 w.heap.size (.slice av L.length cv) L) := hON.out.below hob.bel (Nat.le_refl _)
        have cN5 : Hid (Bl 27 w5 nb [.int .i64 5, .string ⟨sj.toArray⟩, .int .i64 su, .int .i64 sn]) := cN.out.below hob.bel hnl
        clear hri hob I1 hBN hON hbN cN c0 c1 c2 c3 hop hfr
        go_wp2_with fail
        refine OC.mono ?_
        rintro e w6 ⟨bb2, mb2, rfl, hB6', hbb6, hmb6, hbel6⟩
        have hB6 : Hid (Bok w6 bb2 mb2 bk) := hB6'
        have hb6 : Hid (Below w.heap.size w w6) := hb5.out.trans (hbel6.mono hb5.out.size)
        have hO6 : Hid (Oe w6 w.heap.size (.slice av L.length cv) L) := hO5.out.below hbel6 (Nat.le_refl _)
        have hs5 := hb5.out.size
        have cN6 : Hid (Bl 27 w6 nb [.int .i64 5, .string ⟨sj.toArray⟩, .int .i64 su, .int .i64 sn]) := cN5.out.below hbel6 cN5.out.lt
        have hbb7 : w.heap.size ≤ bb2 := by omega
        have hmb7 : w.heap.size ≤ mb2 := by omega
        clear OC hB6' hbb6 hmb6 hbel6 hbb hmb hs5 hb5 hO5 cN5 m1 m2
        have c0 := cN6.out.cell 0 (by simp)
        have c1 := cN6.out.cell 1 (by simp)
        simp only [List.getElem_cons_zero, List.getElem_cons_succ] at c0 c1
        go_wp2_with fail

        have hRE : Hid (∃ ao c, Value.slice av L.length cv = .slice ao L.length c ∧ RdE w6 ao L) := (hO6.out).rd
        have hRL : Hid (RdE w6 av L) := by
          obtain ⟨ao, c, e, h⟩ := hRE.out
          cases e
          exact h
        clear hRE
        have H1 : Hid (∀ q, Calls Try.prog 17 #[.pointer (some ⟨bb2, 0, none⟩), .string ⟨sj.toArray⟩] (w6.drewN q) fun e w' => e = .returned (.bool (hasF sj bk.L)) ∧ w' = w6.drewN q) := fun q => has_any sj bb2 mb2 bk (w6.drewN q) ⟨(hB6.out).cells, (hB6.out).own, (hB6.out).ne⟩ hsj.out.j
        have H2 : Hid (∀ q, Calls Try.prog 20 #[.slice av L.length cv, .string ⟨sj.toArray⟩, .int .i64 bk.clk] (w6.drewN q) fun e w' => e = .returned (.bool (liveF L sj bk.clk)) ∧ w' = w6.drewN q) := fun q => live_any av cv L sj bk.clk (w6.drewN q) hRL.out (by omega)
        rw [show liveF L sj bk.clk = hasF sj bk.L by rw [live_has, hasF_perm hT9.out.perm]] at H2
        obtain ⟨hh, hhh⟩ : ∃ hh, hasF sj bk.L = hh := ⟨_, rfl⟩
        rw [hhh] at H1 H2
        clear hhh
        go_quiet (first | (go_at_call_of 17 (Value.pointer (some ⟨bb2, 0, none⟩)); exact Calls.quiet_of_same (H1.out _)) | (go_at_call_of 20 (Value.slice av L.length cv); exact Calls.quiet_of_same (H2.out _)))
        clear H1 H2 hRL

        go_wp2_with fail
        go_roundw
        case rel => exact ⟨k + 1, bb2, mb2, bk, L, by go_num, rfl, rfl, rfl, by omega, by omega, by omega, by omega, ⟨hB6.out.cells, hB6.out.own, hB6.out.ne⟩, hK9.out, hT9.out, hO6.out.drewN nq, below_drewN hb6.out nq⟩
        case measure => simp [intOf]; omega
      · have q5 : (sk == 5) = false := by simpa using hk5
        go_wp2_with fail
        obtain ⟨wN, hwN⟩ : ∃ wN, wr.alloc (Obj.cells #[.int .i64 sk, .string ⟨sj.toArray⟩, .int .i64 su, .int .i64 sn] 27) = wN := ⟨_, rfl⟩
        have bN : Below wr.heap.size wr wN := hwN ▸ alloc_below _ _
        have cN0 : Bl 27 wN wr.heap.size [.int .i64 sk, .string ⟨sj.toArray⟩, .int .i64 su, .int .i64 sn] := by rw [← hwN]; exact alloc_bl wr [_, _, _, _] _
        have hBN : Hid (Bok wN bb mb bk) := hB9.out.below bN hB9.out.lt hB9.out.lt2
        have hON : Hid (Oe wN w.heap.size (.slice av L.length cv) L) := hO9.out.below bN (Nat.le_refl _)
        have hbN : Hid (Below w.heap.size w wN) := hb9.out.trans (bN.mono hb9.out.size)
        have m1 := hB9.out.lt
        have m2 := hB9.out.lt2
        obtain ⟨nb, hnb⟩ : ∃ nb, wr.heap.size = nb := ⟨_, rfl⟩
        rw [hwN]
        rw [hnb] at m1 m2 cN0 ⊢
        have hnl : nb < wN.heap.size := cN0.lt
        have cN : Hid (Bl 27 wN nb [.int .i64 sk, .string ⟨sj.toArray⟩, .int .i64 su, .int .i64 sn]) := cN0
        have c0 := cN0.cell 0 (by simp)
        have c1 := cN0.cell 1 (by simp)
        have c2 := cN0.cell 2 (by simp)
        have c3 := cN0.cell 3 (by simp)
        simp only [List.getElem_cons_zero, List.getElem_cons_succ] at c0 c1 c2 c3
        clear hwN hnb bN cN0 o0 o1 o2 o3 hB9 hO9 hb9
        have hRE : Hid (∃ ao c, Value.slice av L.length cv = .slice ao L.length c ∧ RdE wN ao L) := (hON.out).rd
        have hRL : Hid (RdE wN av L) := by
          obtain ⟨ao, c, e, h⟩ := hRE.out
          cases e
          exact h
        clear hRE
        have H1 : Hid (∀ q, Calls Try.prog 17 #[.pointer (some ⟨bb, 0, none⟩), .string ⟨sj.toArray⟩] (wN.drewN q) fun e w' => e = .returned (.bool (hasF sj bk.L)) ∧ w' = wN.drewN q) := fun q => has_any sj bb mb bk (wN.drewN q) ⟨(hBN.out).cells, (hBN.out).own, (hBN.out).ne⟩ hsj.out.j
        have H2 : Hid (∀ q, Calls Try.prog 20 #[.slice av L.length cv, .string ⟨sj.toArray⟩, .int .i64 bk.clk] (wN.drewN q) fun e w' => e = .returned (.bool (liveF L sj bk.clk)) ∧ w' = wN.drewN q) := fun q => live_any av cv L sj bk.clk (wN.drewN q) hRL.out (by omega)
        rw [show liveF L sj bk.clk = hasF sj bk.L by rw [live_has, hasF_perm hT9.out.perm]] at H2
        obtain ⟨hh, hhh⟩ : ∃ hh, hasF sj bk.L = hh := ⟨_, rfl⟩
        rw [hhh] at H1 H2
        clear hhh
        go_quiet (first | (go_at_call_of 17 (Value.pointer (some ⟨bb, 0, none⟩)); exact Calls.quiet_of_same (H1.out _)) | (go_at_call_of 20 (Value.slice av L.length cv); exact Calls.quiet_of_same (H2.out _)))
        clear H1 H2 hRL

        by_cases hk1 : sk = 1
        · subst hk1
          have hBq : Hid (Bok (wN.drewN nq) bb mb bk) := ⟨hBN.out.cells, hBN.out.own, hBN.out.ne⟩
          have hOq : Hid (Oe (wN.drewN nq) w.heap.size (.slice av L.length cv) L) := hON.out.drewN nq
          have hbq : Hid (Below w.heap.size w (wN.drewN nq)) := below_drewN hbN.out nq
          have cq : Hid (Bl 27 (wN.drewN nq) nb [.int .i64 1, .string ⟨sj.toArray⟩, .int .i64 su, .int .i64 sn]) := cN
          obtain ⟨wQ, hwQ⟩ : ∃ wQ, wN.drewN nq = wQ := ⟨_, rfl⟩
          rw [hwQ] at hBq hOq hbq cq ⊢
          clear hBN hON hbN cN c0 c1 c2 c3 hwQ
          have c0 := cq.out.cell 0 (by simp)
          have c1 := cq.out.cell 1 (by simp)
          have c2 := cq.out.cell 2 (by simp)
          have c3 := cq.out.cell 3 (by simp)
          simp only [List.getElem_cons_zero, List.getElem_cons_succ] at c0 c1 c2 c3
          have T1 := take_any bb mb bk sj su sn wQ hBq.out hK9.out hsj.out.u
          have hK2 : Hid (BkOk (takeF bk sj su sn).2) := takeF_ok hK9.out _ _ _ hsj.out.u hsj.out.n
          go_wp2_with fail
          refine T1.mono ?_
          rintro e w5 ⟨rfl, hB5', hc5⟩
          have hB5 : Hid (Bok w5 bb mb (takeF bk sj su sn).2) := hB5'
          have hO5 : Hid (Oe w5 w.heap.size (.slice av L.length cv) L) := hOq.out.chf hc5 (hOq.out.ne hBq.out)
          have hb5 : Hid (Below w.heap.size w w5) := chf_new hbq.out hc5 hfr
          have cq5 : Hid (Bl 27 w5 nb [.int .i64 1, .string ⟨sj.toArray⟩, .int .i64 su, .int .i64 sn]) := cq.out.chf hc5 (by rintro (e | e) <;> omega)
          have hn5 := cq5.out.lt
          clear T1 hB5' hc5 hBq hOq hbq cq c0 c1 c2 c3 m1 m2
          have c0 := cq5.out.cell 0 (by simp)
          have c1 := cq5.out.cell 1 (by simp)
          have c2 := cq5.out.cell 2 (by simp)
          have c3 := cq5.out.cell 3 (by simp)
          simp only [List.getElem_cons_zero, List.getElem_cons_succ] at c0 c1 c2 c3
          obtain ⟨ao', c', e', hRL'⟩ := hO5.out.rd
          cases e'
          have hRL : Hid (RdE w5 av L) := hRL'
          clear hRL'
          by_cases h1 : 1024 < sj.length
          · have et : takeF bk sj su sn = (10, bk) := if_pos h1
            rw [et] at hB5 hK2
            simp only [et] at hB5 hK2 ⊢
            clear et
            have L1 := last_any bb mb bk w5 hB5.out
            have N1 : Hid (∀ q, Calls Try.prog 18 #[.pointer (some ⟨bb, 0, none⟩)] (w5.drewN q) fun e w' => e = .returned (.int .i64 ((bk).L.length : Nat)) ∧ w' = w5.drewN q) := fun q => len_any bb mb bk (w5.drewN q) ⟨(hB5.out).cells, (hB5.out).own, (hB5.out).ne⟩
            have C1 : Hid (∀ q, Calls Try.prog 21 #[.slice av L.length cv, .int .i64 (bk.clk)] (w5.drewN q) fun e w' => e = .returned (.int .i64 (livF (bk.clk) (lastOnes (L))).length) ∧ ∃ q2, w' = (w5.drewN q).drewN q2) := fun q => count_any av cv (L) (bk.clk) (w5.drewN q) hRL.out (by first | omega | (simp; omega))
            have hlen : ((bk).L).length = (livF (bk.clk) (lastOnes (L))).length := (hT9.out).perm.length_eq
            rw [hlen] at N1
            obtain ⟨ct, hct⟩ : ∃ ct, (livF (bk.clk) (lastOnes (L))).length = ct := ⟨_, rfl⟩
            rw [hct] at N1 C1
            clear hct hlen
            go_wp2_with fail
            refine L1.mono ?_
            rintro e wa ⟨rfl, qa, rfl⟩
            clear L1
            go_wp2_with fail
            refine (N1.out _).mono ?_
            rintro e wb ⟨rfl, rfl⟩
            go_wp2_with fail
            refine (C1.out _).mono ?_
            rintro e wc ⟨rfl, qc, rfl⟩
            go_wp2_with fail
            exact ⟨⟨k + 1, bb, mb, bk, L, by go_num, rfl, rfl, rfl, by omega, by omega, hbb, hmb, ⟨(hB5.out).cells, (hB5.out).own, (hB5.out).ne⟩, hK9.out, hT9.out, (hO5.out).drewN _, below_drewN hb5.out _⟩, by simp [intOf]; omega⟩
          by_cases h2 : bk.has = true ∧ sn < bk.clk
          · have et : takeF bk sj su sn = (162, bk) := by unfold takeF; rw [if_neg h1, if_pos h2]
            simp only [et] at hB5 hK2 ⊢
            clear et
            have hlt2 := h2.2
            rw [h2.1]
            have L1 := last_any bb mb bk w5 hB5.out
            rw [h2.1] at L1
            have N1 : Hid (∀ q, Calls Try.prog 18 #[.pointer (some ⟨bb, 0, none⟩)] (w5.drewN q) fun e w' => e = .returned (.int .i64 ((bk).L.length : Nat)) ∧ w' = w5.drewN q) := fun q => len_any bb mb bk (w5.drewN q) ⟨(hB5.out).cells, (hB5.out).own, (hB5.out).ne⟩
            have C1 : Hid (∀ q, Calls Try.prog 21 #[.slice av L.length cv, .int .i64 (bk.clk)] (w5.drewN q) fun e w' => e = .returned (.int .i64 (livF (bk.clk) (lastOnes (L))).length) ∧ ∃ q2, w' = (w5.drewN q).drewN q2) := fun q => count_any av cv (L) (bk.clk) (w5.drewN q) hRL.out (by first | omega | (simp; omega))
            have hlen : ((bk).L).length = (livF (bk.clk) (lastOnes (L))).length := (hT9.out).perm.length_eq
            rw [hlen] at N1
            obtain ⟨ct, hct⟩ : ∃ ct, (livF (bk.clk) (lastOnes (L))).length = ct := ⟨_, rfl⟩
            rw [hct] at N1 C1
            clear hct hlen
            go_wp2_with fail
            refine L1.mono ?_
            rintro e wa ⟨rfl, qa, rfl⟩
            clear L1
            go_wp2_with fail
            refine (N1.out _).mono ?_
            rintro e wb ⟨rfl, rfl⟩
            go_wp2_with fail
            refine (C1.out _).mono ?_
            rintro e wc ⟨rfl, qc, rfl⟩
            go_wp2_with fail
            exact ⟨⟨k + 1, bb, mb, bk, L, by go_num, rfl, by rw [h2.1], rfl, by omega, by omega, hbb, hmb, ⟨(hB5.out).cells, (hB5.out).own, (hB5.out).ne⟩, hK9.out, hT9.out, (hO5.out).drewN _, below_drewN hb5.out _⟩, by simp [intOf]; omega⟩
          have hcl : bk.clk ≤ sn ∨ L = [] := by
            cases hbh : bk.has with
            | false => exact .inr (hT9.out.new hbh)
            | true => exact .inl (by have : ¬ sn < bk.clk := fun h => h2 ⟨hbh, h⟩; omega)
          have LV := live_any av cv L sj sn w5 hRL.out (by omega)
          rw [live_has, ← hasF_perm (hT9.out.liv hcl)] at LV
          have CT := count_any av cv L sn w5 hRL.out (by omega)
          rw [← (hT9.out.liv hcl).length_eq] at CT
          by_cases h3 : su < sn
          · have et : takeF bk sj su sn = (134, ⟨true, sn, livF sn bk.L⟩) := by unfold takeF; rw [if_neg h1, if_neg h2, if_pos h3]
            simp only [et] at hB5 hK2 ⊢
            clear et LV CT
            have hTm : Hid (Tk ⟨true, sn, livF sn bk.L⟩ L) := hT9.out.move hcl
            obtain ⟨hs, hbh⟩ : ∃ hs, bk.has = hs := ⟨_, rfl⟩
            rw [hbh]
            cases hs with
            | false =>
              have L1 := last_any bb mb (⟨true, sn, livF sn bk.L⟩ : Bk) w5 hB5.out
              simp only at L1
              have N1 : Hid (∀ q, Calls Try.prog 18 #[.pointer (some ⟨bb, 0, none⟩)] (w5.drewN q) fun e w' => e = .returned (.int .i64 (((⟨true, sn, livF sn bk.L⟩ : Bk)).L.length : Nat)) ∧ w' = w5.drewN q) := fun q => len_any bb mb (⟨true, sn, livF sn bk.L⟩ : Bk) (w5.drewN q) ⟨(hB5.out).cells, (hB5.out).own, (hB5.out).ne⟩
              have C1 : Hid (∀ q, Calls Try.prog 21 #[.slice av L.length cv, .int .i64 (sn)] (w5.drewN q) fun e w' => e = .returned (.int .i64 (livF (sn) (lastOnes (L))).length) ∧ ∃ q2, w' = (w5.drewN q).drewN q2) := fun q => count_any av cv (L) (sn) (w5.drewN q) hRL.out (by first | omega | (simp; omega))
              have hlen : (((⟨true, sn, livF sn bk.L⟩ : Bk)).L).length = (livF (sn) (lastOnes (L))).length := (hTm.out).perm.length_eq
              rw [hlen] at N1
              obtain ⟨ct, hct⟩ : ∃ ct, (livF (sn) (lastOnes (L))).length = ct := ⟨_, rfl⟩
              rw [hct] at N1 C1
              clear hct hlen
              go_wp2_with fail
              refine L1.mono ?_
              rintro e wa ⟨rfl, qa, rfl⟩
              clear L1
              go_wp2_with fail
              refine (N1.out _).mono ?_
              rintro e wb ⟨rfl, rfl⟩
              go_wp2_with fail
              refine (C1.out _).mono ?_
              rintro e wc ⟨rfl, qc, rfl⟩
              go_wp2_with fail
              exact ⟨⟨k + 1, bb, mb, (⟨true, sn, livF sn bk.L⟩ : Bk), L, by go_num, rfl, rfl, rfl, by omega, by omega, hbb, hmb, ⟨(hB5.out).cells, (hB5.out).own, (hB5.out).ne⟩, hK2.out, hTm.out, (hO5.out).drewN _, below_drewN hb5.out _⟩, by simp [intOf]; omega⟩
            | true =>
              have q : decide (sn < bk.clk) = false := by
                have : ¬ sn < bk.clk := fun h => h2 ⟨hbh, h⟩
                simpa using this
              have q2 : ¬ sn < bk.clk := by simpa using q
              have L1 := last_any bb mb (⟨true, sn, livF sn bk.L⟩ : Bk) w5 hB5.out
              simp only at L1
              have N1 : Hid (∀ q, Calls Try.prog 18 #[.pointer (some ⟨bb, 0, none⟩)] (w5.drewN q) fun e w' => e = .returned (.int .i64 (((⟨true, sn, livF sn bk.L⟩ : Bk)).L.length : Nat)) ∧ w' = w5.drewN q) := fun q => len_any bb mb (⟨true, sn, livF sn bk.L⟩ : Bk) (w5.drewN q) ⟨(hB5.out).cells, (hB5.out).own, (hB5.out).ne⟩
              have C1 : Hid (∀ q, Calls Try.prog 21 #[.slice av L.length cv, .int .i64 (sn)] (w5.drewN q) fun e w' => e = .returned (.int .i64 (livF (sn) (lastOnes (L))).length) ∧ ∃ q2, w' = (w5.drewN q).drewN q2) := fun q => count_any av cv (L) (sn) (w5.drewN q) hRL.out (by first | omega | (simp; omega))
              have hlen : (((⟨true, sn, livF sn bk.L⟩ : Bk)).L).length = (livF (sn) (lastOnes (L))).length := (hTm.out).perm.length_eq
              rw [hlen] at N1
              obtain ⟨ct, hct⟩ : ∃ ct, (livF (sn) (lastOnes (L))).length = ct := ⟨_, rfl⟩
              rw [hct] at N1 C1
              clear hct hlen
              go_wp2_with fail
              refine L1.mono ?_
              rintro e wa ⟨rfl, qa, rfl⟩
              clear L1
              go_wp2_with fail
              refine (N1.out _).mono ?_
              rintro e wb ⟨rfl, rfl⟩
              go_wp2_with fail
              refine (C1.out _).mono ?_
              rintro e wc ⟨rfl, qc, rfl⟩
              go_wp2_with fail
              exact ⟨⟨k + 1, bb, mb, (⟨true, sn, livF sn bk.L⟩ : Bk), L, by go_num, rfl, rfl, rfl, by omega, by omega, hbb, hmb, ⟨(hB5.out).cells, (hB5.out).own, (hB5.out).ne⟩, hK2.out, hTm.out, (hO5.out).drewN _, below_drewN hb5.out _⟩, by simp [intOf]; omega⟩
          by_cases h4 : hasF sj (livF sn bk.L) = true
          · have et : takeF bk sj su sn = (160, ⟨true, sn, livF sn bk.L⟩) := by unfold takeF; rw [if_neg h1, if_neg h2, if_neg h3, if_pos h4]
            simp only [et] at hB5 hK2 ⊢
            rw [h4] at LV
            clear et CT
            have hTm : Hid (Tk ⟨true, sn, livF sn bk.L⟩ L) := hT9.out.move hcl
            obtain ⟨hs, hbh⟩ : ∃ hs, bk.has = hs := ⟨_, rfl⟩
            rw [hbh]
            cases hs with
            | false =>
              go_wp2_with fail
              refine LV.mono ?_
              rintro e wl ⟨rfl, hw⟩
              rw [hw]
              clear hw LV
              have L1 := last_any bb mb (⟨true, sn, livF sn bk.L⟩ : Bk) w5 hB5.out
              simp only at L1
              have N1 : Hid (∀ q, Calls Try.prog 18 #[.pointer (some ⟨bb, 0, none⟩)] (w5.drewN q) fun e w' => e = .returned (.int .i64 (((⟨true, sn, livF sn bk.L⟩ : Bk)).L.length : Nat)) ∧ w' = w5.drewN q) := fun q => len_any bb mb (⟨true, sn, livF sn bk.L⟩ : Bk) (w5.drewN q) ⟨(hB5.out).cells, (hB5.out).own, (hB5.out).ne⟩
              have C1 : Hid (∀ q, Calls Try.prog 21 #[.slice av L.length cv, .int .i64 (sn)] (w5.drewN q) fun e w' => e = .returned (.int .i64 (livF (sn) (lastOnes (L))).length) ∧ ∃ q2, w' = (w5.drewN q).drewN q2) := fun q => count_any av cv (L) (sn) (w5.drewN q) hRL.out (by first | omega | (simp; omega))
              have hlen : (((⟨true, sn, livF sn bk.L⟩ : Bk)).L).length = (livF (sn) (lastOnes (L))).length := (hTm.out).perm.length_eq
              rw [hlen] at N1
              obtain ⟨ct, hct⟩ : ∃ ct, (livF (sn) (lastOnes (L))).length = ct := ⟨_, rfl⟩
              rw [hct] at N1 C1
              clear hct hlen
              go_wp2_with fail
              refine L1.mono ?_
              rintro e wa ⟨rfl, qa, rfl⟩
              clear L1
              go_wp2_with fail
              refine (N1.out _).mono ?_
              rintro e wb ⟨rfl, rfl⟩
              go_wp2_with fail
              refine (C1.out _).mono ?_
              rintro e wc ⟨rfl, qc, rfl⟩
              go_wp2_with fail
              exact ⟨⟨k + 1, bb, mb, (⟨true, sn, livF sn bk.L⟩ : Bk), L, by go_num, rfl, rfl, rfl, by omega, by omega, hbb, hmb, ⟨(hB5.out).cells, (hB5.out).own, (hB5.out).ne⟩, hK2.out, hTm.out, (hO5.out).drewN _, below_drewN hb5.out _⟩, by simp [intOf]; omega⟩
            | true =>
              have q : decide (sn < bk.clk) = false := by
                have : ¬ sn < bk.clk := fun h => h2 ⟨hbh, h⟩
                simpa using this
              have q2 : ¬ sn < bk.clk := by simpa using q
              go_wp2_with fail
              refine LV.mono ?_
              rintro e wl ⟨rfl, hw⟩
              rw [hw]
              clear hw LV
              have L1 := last_any bb mb (⟨true, sn, livF sn bk.L⟩ : Bk) w5 hB5.out
              simp only at L1
              have N1 : Hid (∀ q, Calls Try.prog 18 #[.pointer (some ⟨bb, 0, none⟩)] (w5.drewN q) fun e w' => e = .returned (.int .i64 (((⟨true, sn, livF sn bk.L⟩ : Bk)).L.length : Nat)) ∧ w' = w5.drewN q) := fun q => len_any bb mb (⟨true, sn, livF sn bk.L⟩ : Bk) (w5.drewN q) ⟨(hB5.out).cells, (hB5.out).own, (hB5.out).ne⟩
              have C1 : Hid (∀ q, Calls Try.prog 21 #[.slice av L.length cv, .int .i64 (sn)] (w5.drewN q) fun e w' => e = .returned (.int .i64 (livF (sn) (lastOnes (L))).length) ∧ ∃ q2, w' = (w5.drewN q).drewN q2) := fun q => count_any av cv (L) (sn) (w5.drewN q) hRL.out (by first | omega | (simp; omega))
              have hlen : (((⟨true, sn, livF sn bk.L⟩ : Bk)).L).length = (livF (sn) (lastOnes (L))).length := (hTm.out).perm.length_eq
              rw [hlen] at N1
              obtain ⟨ct, hct⟩ : ∃ ct, (livF (sn) (lastOnes (L))).length = ct := ⟨_, rfl⟩
              rw [hct] at N1 C1
              clear hct hlen
              go_wp2_with fail
              refine L1.mono ?_
              rintro e wa ⟨rfl, qa, rfl⟩
              clear L1
              go_wp2_with fail
              refine (N1.out _).mono ?_
              rintro e wb ⟨rfl, rfl⟩
              go_wp2_with fail
              refine (C1.out _).mono ?_
              rintro e wc ⟨rfl, qc, rfl⟩
              go_wp2_with fail
              exact ⟨⟨k + 1, bb, mb, (⟨true, sn, livF sn bk.L⟩ : Bk), L, by go_num, rfl, rfl, rfl, by omega, by omega, hbb, hmb, ⟨(hB5.out).cells, (hB5.out).own, (hB5.out).ne⟩, hK2.out, hTm.out, (hO5.out).drewN _, below_drewN hb5.out _⟩, by simp [intOf]; omega⟩
          have h4' : hasF sj (livF sn bk.L) = false := by simpa using h4
          rw [h4'] at LV
          by_cases h5 : 4096 ≤ (livF sn bk.L).length
          · have et : takeF bk sj su sn = (161, ⟨true, sn, livF sn bk.L⟩) := by unfold takeF; rw [if_neg h1, if_neg h2, if_neg h3, if_neg h4, if_pos h5]
            have h5' : (4096 : Int) ≤ ((livF sn bk.L).length : Int) := by omega
            simp only [et] at hB5 hK2 ⊢
            clear et
            have hTm : Hid (Tk ⟨true, sn, livF sn bk.L⟩ L) := hT9.out.move hcl
            obtain ⟨hs, hbh⟩ : ∃ hs, bk.has = hs := ⟨_, rfl⟩
            rw [hbh]
            cases hs with
            | false =>
              go_wp2_with fail
              refine LV.mono ?_
              rintro e wl ⟨rfl, hw⟩
              rw [hw]
              clear hw LV
              go_wp2_with fail
              refine CT.mono ?_
              rintro e w6 ⟨rfl, qz, rfl⟩
              clear CT
              have hB6 : Hid (Bok (w5.drewN qz) bb mb (⟨true, sn, livF sn bk.L⟩ : Bk)) := ⟨hB5.out.cells, hB5.out.own, hB5.out.ne⟩
              have hO6 : Hid (Oe (w5.drewN qz) w.heap.size (.slice av L.length cv) L) := hO5.out.drewN qz
              have hb6 : Hid (Below w.heap.size w (w5.drewN qz)) := below_drewN hb5.out qz
              have hRL6 : Hid (RdE (w5.drewN qz) av L) := hRL.out
              have cq6 : Hid (Bl 27 (w5.drewN qz) nb [.int .i64 1, .string ⟨sj.toArray⟩, .int .i64 su, .int .i64 sn]) := cq5
              obtain ⟨w6, hw6⟩ : ∃ w6, w5.drewN qz = w6 := ⟨_, rfl⟩
              rw [hw6] at hB6 hO6 hb6 hRL6 cq6 ⊢
              clear hw6 hRL cq5 c0 c1 c2 c3 hB5 hO5 hb5
              have c0 := cq6.out.cell 0 (by simp)
              have c1 := cq6.out.cell 1 (by simp)
              have c2 := cq6.out.cell 2 (by simp)
              have c3 := cq6.out.cell 3 (by simp)
              simp only [List.getElem_cons_zero, List.getElem_cons_succ] at c0 c1 c2 c3
              have L1 := last_any bb mb (⟨true, sn, livF sn bk.L⟩ : Bk) w6 hB6.out
              simp only at L1
              have N1 : Hid (∀ q, Calls Try.prog 18 #[.pointer (some ⟨bb, 0, none⟩)] (w6.drewN q) fun e w' => e = .returned (.int .i64 (((⟨true, sn, livF sn bk.L⟩ : Bk)).L.length : Nat)) ∧ w' = w6.drewN q) := fun q => len_any bb mb (⟨true, sn, livF sn bk.L⟩ : Bk) (w6.drewN q) ⟨(hB6.out).cells, (hB6.out).own, (hB6.out).ne⟩
              have C1 : Hid (∀ q, Calls Try.prog 21 #[.slice av L.length cv, .int .i64 (sn)] (w6.drewN q) fun e w' => e = .returned (.int .i64 (livF (sn) (lastOnes (L))).length) ∧ ∃ q2, w' = (w6.drewN q).drewN q2) := fun q => count_any av cv (L) (sn) (w6.drewN q) hRL6.out (by first | omega | (simp; omega))
              have hlen : (((⟨true, sn, livF sn bk.L⟩ : Bk)).L).length = (livF (sn) (lastOnes (L))).length := (hTm.out).perm.length_eq
              rw [hlen] at N1
              obtain ⟨ct, hct⟩ : ∃ ct, (livF (sn) (lastOnes (L))).length = ct := ⟨_, rfl⟩
              rw [hct] at N1 C1
              clear hct hlen
              go_wp2_with fail
              refine L1.mono ?_
              rintro e wa ⟨rfl, qa, rfl⟩
              clear L1
              go_wp2_with fail
              refine (N1.out _).mono ?_
              rintro e wb ⟨rfl, rfl⟩
              go_wp2_with fail
              refine (C1.out _).mono ?_
              rintro e wc ⟨rfl, qc, rfl⟩
              go_wp2_with fail
              exact ⟨⟨k + 1, bb, mb, (⟨true, sn, livF sn bk.L⟩ : Bk), L, by go_num, rfl, rfl, rfl, by omega, by omega, hbb, hmb, ⟨(hB6.out).cells, (hB6.out).own, (hB6.out).ne⟩, hK2.out, hTm.out, (hO6.out).drewN _, below_drewN hb6.out _⟩, by simp [intOf]; omega⟩
            | true =>
              have q : decide (sn < bk.clk) = false := by
                have : ¬ sn < bk.clk := fun h => h2 ⟨hbh, h⟩
                simpa using this
              have q2 : ¬ sn < bk.clk := by simpa using q
              go_wp2_with fail
              refine LV.mono ?_
              rintro e wl ⟨rfl, hw⟩
              rw [hw]
              clear hw LV
              go_wp2_with fail
              refine CT.mono ?_
              rintro e w6 ⟨rfl, qz, rfl⟩
              clear CT
              have hB6 : Hid (Bok (w5.drewN qz) bb mb (⟨true, sn, livF sn bk.L⟩ : Bk)) := ⟨hB5.out.cells, hB5.out.own, hB5.out.ne⟩
              have hO6 : Hid (Oe (w5.drewN qz) w.heap.size (.slice av L.length cv) L) := hO5.out.drewN qz
              have hb6 : Hid (Below w.heap.size w (w5.drewN qz)) := below_drewN hb5.out qz
              have hRL6 : Hid (RdE (w5.drewN qz) av L) := hRL.out
              have cq6 : Hid (Bl 27 (w5.drewN qz) nb [.int .i64 1, .string ⟨sj.toArray⟩, .int .i64 su, .int .i64 sn]) := cq5
              obtain ⟨w6, hw6⟩ : ∃ w6, w5.drewN qz = w6 := ⟨_, rfl⟩
              rw [hw6] at hB6 hO6 hb6 hRL6 cq6 ⊢
              clear hw6 hRL cq5 c0 c1 c2 c3 hB5 hO5 hb5
              have c0 := cq6.out.cell 0 (by simp)
              have c1 := cq6.out.cell 1 (by simp)
              have c2 := cq6.out.cell 2 (by simp)
              have c3 := cq6.out.cell 3 (by simp)
              simp only [List.getElem_cons_zero, List.getElem_cons_succ] at c0 c1 c2 c3
              have L1 := last_any bb mb (⟨true, sn, livF sn bk.L⟩ : Bk) w6 hB6.out
              simp only at L1
              have N1 : Hid (∀ q, Calls Try.prog 18 #[.pointer (some ⟨bb, 0, none⟩)] (w6.drewN q) fun e w' => e = .returned (.int .i64 (((⟨true, sn, livF sn bk.L⟩ : Bk)).L.length : Nat)) ∧ w' = w6.drewN q) := fun q => len_any bb mb (⟨true, sn, livF sn bk.L⟩ : Bk) (w6.drewN q) ⟨(hB6.out).cells, (hB6.out).own, (hB6.out).ne⟩
              have C1 : Hid (∀ q, Calls Try.prog 21 #[.slice av L.length cv, .int .i64 (sn)] (w6.drewN q) fun e w' => e = .returned (.int .i64 (livF (sn) (lastOnes (L))).length) ∧ ∃ q2, w' = (w6.drewN q).drewN q2) := fun q => count_any av cv (L) (sn) (w6.drewN q) hRL6.out (by first | omega | (simp; omega))
              have hlen : (((⟨true, sn, livF sn bk.L⟩ : Bk)).L).length = (livF (sn) (lastOnes (L))).length := (hTm.out).perm.length_eq
              rw [hlen] at N1
              obtain ⟨ct, hct⟩ : ∃ ct, (livF (sn) (lastOnes (L))).length = ct := ⟨_, rfl⟩
              rw [hct] at N1 C1
              clear hct hlen
              go_wp2_with fail
              refine L1.mono ?_
              rintro e wa ⟨rfl, qa, rfl⟩
              clear L1
              go_wp2_with fail
              refine (N1.out _).mono ?_
              rintro e wb ⟨rfl, rfl⟩
              go_wp2_with fail
              refine (C1.out _).mono ?_
              rintro e wc ⟨rfl, qc, rfl⟩
              go_wp2_with fail
              exact ⟨⟨k + 1, bb, mb, (⟨true, sn, livF sn bk.L⟩ : Bk), L, by go_num, rfl, rfl, rfl, by omega, by omega, hbb, hmb, ⟨(hB6.out).cells, (hB6.out).own, (hB6.out).ne⟩, hK2.out, hTm.out, (hO6.out).drewN _, below_drewN hb6.out _⟩, by simp [intOf]; omega⟩
          have et : takeF bk sj su sn = (0, ⟨true, sn, insF sj su (livF sn bk.L)⟩) := by unfold takeF; rw [if_neg h1, if_neg h2, if_neg h3, if_neg h4, if_neg h5]
          have h5' : ((livF sn bk.L).length : Int) < (4096 : Int) := by omega
          have hTp : Hid (Tk ⟨true, sn, insF sj su (livF sn bk.L)⟩ (L ++ [(sj, su)])) := hT9.out.put hcl h4' (by omega)
          simp only [et] at hB5 hK2 ⊢
          clear et
          obtain ⟨hs, hbh⟩ : ∃ hs, bk.has = hs := ⟨_, rfl⟩
          rw [hbh]
          cases hs with
          | false =>
            go_wp2_with fail
            refine LV.mono ?_
            rintro e wl ⟨rfl, hw⟩
            rw [hw]
            clear hw LV
            go_wp2_with fail
            refine CT.mono ?_
            rintro e w6 ⟨rfl, qz, rfl⟩
            clear CT
            have hB6 : Hid (Bok (w5.drewN qz) bb mb (⟨true, sn, insF sj su (livF sn bk.L)⟩ : Bk)) := ⟨hB5.out.cells, hB5.out.own, hB5.out.ne⟩
            have hO6 : Hid (Oe (w5.drewN qz) w.heap.size (.slice av L.length cv) L) := hO5.out.drewN qz
            have hb6 : Hid (Below w.heap.size w (w5.drewN qz)) := below_drewN hb5.out qz
            have hRL6 : Hid (RdE (w5.drewN qz) av L) := hRL.out
            have cq6 : Hid (Bl 27 (w5.drewN qz) nb [.int .i64 1, .string ⟨sj.toArray⟩, .int .i64 su, .int .i64 sn]) := cq5
            obtain ⟨w6, hw6⟩ : ∃ w6, w5.drewN qz = w6 := ⟨_, rfl⟩
            rw [hw6] at hB6 hO6 hb6 hRL6 cq6 ⊢
            clear hw6 hRL cq5 c0 c1 c2 c3 hB5 hO5 hb5
            have c0 := cq6.out.cell 0 (by simp)
            have c1 := cq6.out.cell 1 (by simp)
            have c2 := cq6.out.cell 2 (by simp)
            have c3 := cq6.out.cell 3 (by simp)
            simp only [List.getElem_cons_zero, List.getElem_cons_succ] at c0 c1 c2 c3
            go_wp2_with (at_builtin; refine append_en rfl (.tmp 100) (.tmp 106) rfl w.heap.size _ L (sj, su) rfl hO6.out rfl (by omega) hb6.out.size ?_; intro v7 w7 h7 hc7; have hO7 : Hid (Oe w7 w.heap.size v7 (L ++ [(sj, su)])) := h7; have hB7 : Hid (Bok w7 bb mb (⟨true, sn, insF sj su (livF sn bk.L)⟩ : Bk)) := hB6.out.chf hc7 (fun e => hO6.out.ne hB6.out bb e (.inl rfl)) (fun e => hO6.out.ne hB6.out mb e (.inr rfl)); have hb7 : Hid (Below w.heap.size w w7) := chf_new hb6.out hc7 (own_block hO6.out); clear h7 hc7; obtain ⟨a7, c7, e7, hr7⟩ := hO7.out.rd; subst e7; rw [show (L ++ [(sj, su)]).length = L.length + 1 by simp] at hO7 ⊢; have hRL7 : Hid (RdE w7 a7 (L ++ [(sj, su)])) := hr7; clear hr7)
            have L1 := last_any bb mb (⟨true, sn, insF sj su (livF sn bk.L)⟩ : Bk) w7 hB7.out
            simp only at L1
            have N1 : Hid (∀ q, Calls Try.prog 18 #[.pointer (some ⟨bb, 0, none⟩)] (w7.drewN q) fun e w' => e = .returned (.int .i64 (((⟨true, sn, insF sj su (livF sn bk.L)⟩ : Bk)).L.length : Nat)) ∧ w' = w7.drewN q) := fun q => len_any bb mb (⟨true, sn, insF sj su (livF sn bk.L)⟩ : Bk) (w7.drewN q) ⟨(hB7.out).cells, (hB7.out).own, (hB7.out).ne⟩
            have C1 : Hid (∀ q, Calls Try.prog 21 #[.slice a7 (L.length + 1) c7, .int .i64 (sn)] (w7.drewN q) fun e w' => e = .returned (.int .i64 (livF (sn) (lastOnes ((L ++ [(sj, su)])))).length) ∧ ∃ q2, w' = (w7.drewN q).drewN q2) := fun q => by
              have h := count_any a7 c7 ((L ++ [(sj, su)])) (sn) (w7.drewN q) hRL7.out (by first | omega | (simp; omega))
              rw [show ((L ++ [(sj, su)])).length = L.length + 1 by simp] at h
              exact h
            have hlen : (((⟨true, sn, insF sj su (livF sn bk.L)⟩ : Bk)).L).length = (livF (sn) (lastOnes ((L ++ [(sj, su)])))).length := (hTp.out).perm.length_eq
            rw [hlen] at N1
            obtain ⟨ct, hct⟩ : ∃ ct, (livF (sn) (lastOnes ((L ++ [(sj, su)])))).length = ct := ⟨_, rfl⟩
            rw [hct] at N1 C1
            clear hct hlen
            go_wp2_with fail
            refine L1.mono ?_
            rintro e wa ⟨rfl, qa, rfl⟩
            clear L1
            go_wp2_with fail
            refine (N1.out _).mono ?_
            rintro e wb ⟨rfl, rfl⟩
            go_wp2_with fail
            refine (C1.out _).mono ?_
            rintro e wc ⟨rfl, qc, rfl⟩
            go_wp2_with fail
            exact ⟨⟨k + 1, bb, mb, (⟨true, sn, insF sj su (livF sn bk.L)⟩ : Bk), (L ++ [(sj, su)]), by go_num, rfl, rfl, rfl, by omega, by simp; omega, hbb, hmb, ⟨(hB7.out).cells, (hB7.out).own, (hB7.out).ne⟩, hK2.out, hTp.out, (hO7.out).drewN _, below_drewN hb7.out _⟩, by simp [intOf]; omega⟩
          | true =>
            have q : decide (sn < bk.clk) = false := by
              have : ¬ sn < bk.clk := fun h => h2 ⟨hbh, h⟩
              simpa using this
            have q2 : ¬ sn < bk.clk := by simpa using q
            go_wp2_with fail
            refine LV.mono ?_
            rintro e wl ⟨rfl, hw⟩
            rw [hw]
            clear hw LV
            go_wp2_with fail
            refine CT.mono ?_
            rintro e w6 ⟨rfl, qz, rfl⟩
            clear CT
            have hB6 : Hid (Bok (w5.drewN qz) bb mb (⟨true, sn, insF sj su (livF sn bk.L)⟩ : Bk)) := ⟨hB5.out.cells, hB5.out.own, hB5.out.ne⟩
            have hO6 : Hid (Oe (w5.drewN qz) w.heap.size (.slice av L.length cv) L) := hO5.out.drewN qz
            have hb6 : Hid (Below w.heap.size w (w5.drewN qz)) := below_drewN hb5.out qz
            have hRL6 : Hid (RdE (w5.drewN qz) av L) := hRL.out
            have cq6 : Hid (Bl 27 (w5.drewN qz) nb [.int .i64 1, .string ⟨sj.toArray⟩, .int .i64 su, .int .i64 sn]) := cq5
            obtain ⟨w6, hw6⟩ : ∃ w6, w5.drewN qz = w6 := ⟨_, rfl⟩
            rw [hw6] at hB6 hO6 hb6 hRL6 cq6 ⊢
            clear hw6 hRL cq5 c0 c1 c2 c3 hB5 hO5 hb5
            have c0 := cq6.out.cell 0 (by simp)
            have c1 := cq6.out.cell 1 (by simp)
            have c2 := cq6.out.cell 2 (by simp)
            have c3 := cq6.out.cell 3 (by simp)
            simp only [List.getElem_cons_zero, List.getElem_cons_succ] at c0 c1 c2 c3
            go_wp2_with (at_builtin; refine append_en rfl (.tmp 100) (.tmp 106) rfl w.heap.size _ L (sj, su) rfl hO6.out rfl (by omega) hb6.out.size ?_; intro v7 w7 h7 hc7; have hO7 : Hid (Oe w7 w.heap.size v7 (L ++ [(sj, su)])) := h7; have hB7 : Hid (Bok w7 bb mb (⟨true, sn, insF sj su (livF sn bk.L)⟩ : Bk)) := hB6.out.chf hc7 (fun e => hO6.out.ne hB6.out bb e (.inl rfl)) (fun e => hO6.out.ne hB6.out mb e (.inr rfl)); have hb7 : Hid (Below w.heap.size w w7) := chf_new hb6.out hc7 (own_block hO6.out); clear h7 hc7; obtain ⟨a7, c7, e7, hr7⟩ := hO7.out.rd; subst e7; rw [show (L ++ [(sj, su)]).length = L.length + 1 by simp] at hO7 ⊢; have hRL7 : Hid (RdE w7 a7 (L ++ [(sj, su)])) := hr7; clear hr7)
            have L1 := last_any bb mb (⟨true, sn, insF sj su (livF sn bk.L)⟩ : Bk) w7 hB7.out
            simp only at L1
            have N1 : Hid (∀ q, Calls Try.prog 18 #[.pointer (some ⟨bb, 0, none⟩)] (w7.drewN q) fun e w' => e = .returned (.int .i64 (((⟨true, sn, insF sj su (livF sn bk.L)⟩ : Bk)).L.length : Nat)) ∧ w' = w7.drewN q) := fun q => len_any bb mb (⟨true, sn, insF sj su (livF sn bk.L)⟩ : Bk) (w7.drewN q) ⟨(hB7.out).cells, (hB7.out).own, (hB7.out).ne⟩
            have C1 : Hid (∀ q, Calls Try.prog 21 #[.slice a7 (L.length + 1) c7, .int .i64 (sn)] (w7.drewN q) fun e w' => e = .returned (.int .i64 (livF (sn) (lastOnes ((L ++ [(sj, su)])))).length) ∧ ∃ q2, w' = (w7.drewN q).drewN q2) := fun q => by
              have h := count_any a7 c7 ((L ++ [(sj, su)])) (sn) (w7.drewN q) hRL7.out (by first | omega | (simp; omega))
              rw [show ((L ++ [(sj, su)])).length = L.length + 1 by simp] at h
              exact h
            have hlen : (((⟨true, sn, insF sj su (livF sn bk.L)⟩ : Bk)).L).length = (livF (sn) (lastOnes ((L ++ [(sj, su)])))).length := (hTp.out).perm.length_eq
            rw [hlen] at N1
            obtain ⟨ct, hct⟩ : ∃ ct, (livF (sn) (lastOnes ((L ++ [(sj, su)])))).length = ct := ⟨_, rfl⟩
            rw [hct] at N1 C1
            clear hct hlen
            go_wp2_with fail
            refine L1.mono ?_
            rintro e wa ⟨rfl, qa, rfl⟩
            clear L1
            go_wp2_with fail
            refine (N1.out _).mono ?_
            rintro e wb ⟨rfl, rfl⟩
            go_wp2_with fail
            refine (C1.out _).mono ?_
            rintro e wc ⟨rfl, qc, rfl⟩
            go_wp2_with fail
            exact ⟨⟨k + 1, bb, mb, (⟨true, sn, insF sj su (livF sn bk.L)⟩ : Bk), (L ++ [(sj, su)]), by go_num, rfl, rfl, rfl, by omega, by simp; omega, hbb, hmb, ⟨(hB7.out).cells, (hB7.out).own, (hB7.out).ne⟩, hK2.out, hTp.out, (hO7.out).drewN _, below_drewN hb7.out _⟩, by simp [intOf]; omega⟩
        · have qk : (sk == 1) = false := by simpa using hk1
          go_wp2_with fail
          go_roundw
          case rel => exact ⟨k + 1, bb, mb, bk, L, by go_num, rfl, rfl, rfl, by omega, by omega, by omega, by omega, ⟨hBN.out.cells, hBN.out.own, hBN.out.ne⟩, hK9.out, hT9.out, hON.out.drewN nq, below_drewN hbN.out nq⟩
          case measure => simp [intOf]; omega
    · obtain rfl : k = os.length := by omega
      go_wp2_with fail
      go_ret
      exact ⟨by simp, hb9.out⟩

end Go.Proofs.Ytoobhpbjojicoaa
