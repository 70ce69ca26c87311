import Derived.Test.YtoobhpbjojicoaaRv
namespace Go.Proofs.Ytoobhpbjojicoaa
open Go.RowKit Go.Maps
set_option maxRecDepth 100000

set_option maxHeartbeats 8000000 in
theorem back_any (ao : Option Addr) (cap : Nat) (l : List UInt8) (aos : Option Addr) (cos : Nat) (os : List Stp) (am : Option Addr) (cm : Nat) (ms : List Stp) (w : World)
    (hr0 : Rd w ao l) (hcap : l.length ≤ cap) (hnil : ao = none → cap = 0) (hl : l.length ≤ 10000000) (hro0 : RdO w aos os) (hol : os.length ≤ 10000000) (hos0 : ∀ s ∈ os, StpOk s) (hrm0 : RdO w am ms) (hml : ms.length ≤ 10000000) (hms0 : ∀ s ∈ ms, StpOk s) :
    Calls Try.prog 5 #[.slice ao l.length cap, .slice aos os.length cos, .slice am ms.length cm] w fun e w' => e = .returned (.bool true) ∧ Below w.heap.size w w' := by
  have hr : Hid (Rd w ao l) := hr0
  have hro : Hid (RdO w aos os) := hro0
  have hos : Hid (∀ s ∈ os, StpOk s) := hos0
  have hrm : Hid (RdO w am ms) := hrm0
  have hms : Hid (∀ s ∈ ms, StpOk s) := hms0
  clear hr0 hro0 hos0 hrm0 hms0
  go_enter Try.func5, Try.ntmps5
  go_wp2_with fail
  refine (started_any w).mono ?_
  rintro e w1 ⟨rfl, hbel1⟩
  have hb1 : Hid (Below w.heap.size w w1) := hbel1
  clear hbel1
  have OC0 := open_any ao cap l w1 (hr.out.below hb1.out (Nat.le_refl _)) hcap hnil (by omega)
  go_upto_region 3 with fail
  go_cut [7, 8, 9] from 25 to 30 (fun s7 s8 s9 wx => Hid (Below w.heap.size w wx) ∧ ((s8 = .int .i64 163 ∧ s7 = .pointer none ∧ ∃ k : Nat, s9 = .int .i64 (k : Int)) ∨ ∃ bb mb b, s7 = .pointer (some ⟨bb, 0, none⟩) ∧ s8 = .int .i64 0 ∧ Bok wx bb mb b ∧ openR l = .ok b ∧ s9 = .int .i64 0))
  case first =>
    cases ho : openR l with
    | error k =>
      rw [ho] at OC0
      go_wp2_with fail
      refine OC0.mono ?_
      rintro e w2 ⟨rfl, hbel⟩
      have hb2 : Hid (Below w.heap.size w w2) := hb1.out.trans (hbel.mono hb1.out.size)
      clear hbel OC0
      go_wp2_with fail
      go_meet
      exact ⟨hb2, .inl ⟨rfl, rfl, k, rfl⟩⟩
    | ok b =>
      rw [ho] at OC0
      go_wp2_with fail
      refine OC0.mono ?_
      rintro e w2 ⟨bb, mb, rfl, hB, _, _, hbel⟩
      have hb2 : Hid (Below w.heap.size w w2) := hb1.out.trans (hbel.mono hb1.out.size)
      have hBh : Hid (Bok w2 bb mb b) := hB
      clear hbel OC0 hB
      go_wp2_with fail
      go_meet
      exact ⟨hb2, .inr ⟨bb, mb, b, rfl, rfl, hBh.out, ho, rfl⟩⟩
  case rest =>
  obtain ⟨hbX, hcs⟩ := hcut
  rename World => wX
  clear OC0
  go_upto_region 4 with fail
  go_cut [43] from 31 to 43 (fun s wx => s = .bool false ∧ Hid (Below w.heap.size w wx))
  case first =>
    rcases hcs with ⟨rfl, rfl, k, rfl⟩ | ⟨bb, mb, b, rfl, rfl, hB, ho, rfl⟩
    · go_wp2_with fail
      go_meet
      exact ⟨rfl, hbX⟩
    · obtain ⟨hok, him⟩ := img_open ho
      have I0 := image_any bb mb b wX hB hok
      rw [him] at I0
      have hrX : Hid (Rd wX ao l) := hr.out.below hbX.out (Nat.le_refl _)
      clear hB ho hok him
      go_wp2_with fail
      refine I0.mono ?_
      rintro e w3 ⟨v3, rfl, hob⟩
      obtain ⟨a3, c3, rfl, hc3, hr3⟩ := hob.own.nb
      have hb3 : Hid (Below w.heap.size w w3) := hbX.out.trans (hob.bel.mono hbX.out.size)
      have SM := same_any a3 ao c3 cap l l w3 hr3 (hrX.out.below hob.bel (Nat.le_refl _)) (by omega)
      rw [decide_eq_true rfl] at SM
      clear hob hr3 I0
      go_wp2_with fail
      refine SM.mono ?_
      rintro e w4 ⟨rfl, q, rfl⟩
      go_wp2_with fail
      go_meet
      exact ⟨rfl, below_drewN hb3.out q⟩
  case rest =>
  obtain ⟨rfl, hb2'⟩ := hcut
  clear hcs hbX
  rename World => w2
  have hb2 : Hid (Below w.heap.size w w2) := hb2'
  clear hb2'
  go_wp2_with fail
  refine (opened_any ao cap l w2 (hr.out.below hb2.out (Nat.le_refl _)) hcap hnil (by omega)).mono ?_
  rintro e w3 ⟨bb, mb, rfl, hB3', hbb', hmb', hbel3⟩
  have hbb : w.heap.size ≤ bb := Nat.le_trans hb2.out.size hbb'
  have hmb : w.heap.size ≤ mb := Nat.le_trans hb2.out.size hmb'
  have hb3 : Hid (Below w.heap.size w w3) := hb2.out.trans (hbel3.mono hb2.out.size)
  have hB3 : Hid (Bok w3 bb mb (openB l)) := hB3'
  clear hB3' hbb' hmb' hbel3
  have hfr : ∀ k, (k = bb ∨ k = mb) → w.heap.size ≤ k := by rintro k (rfl | rfl) <;> assumption
  go_wp2_with fail
  go_loopw [11] (fun s wr => ∃ k : Nat, s = .int .i64 (k : Int) ∧ k ≤ os.length ∧ Bok wr bb mb (runB (openB l) (os.take k)) ∧ Below w.heap.size w wr) (fun s _ => os.length - (intOf s).toNat)
  case atStart => exact ⟨0, rfl, Nat.zero_le _, hB3.out, hb3.out⟩
  case round =>
    obtain ⟨k, rfl, hk, hBk, hbk⟩ := hrel
    have hBr : Hid (Bok wr bb mb (runB (openB l) (os.take k))) := hBk
    have hbr : Hid (Below w.heap.size w wr) := hbk
    clear hBk hbk
    by_cases hlt : k < os.length
    · obtain ⟨g, off, hao, _, o0, o1, o2, o3⟩ := (hro.out.below hbr.out (Nat.le_refl _)).at' hlt
      subst hao
      have hst := stp_at hos.out hlt
      have hnx : Hid (runB (openB l) (os.take (k + 1)) = if (os.getD k stp0).k = 1 then (takeF (runB (openB l) (os.take k)) (os.getD k stp0).j (os.getD k stp0).u (os.getD k stp0).n).2 else runB (openB l) (os.take k)) := runB_snoc _ _ hlt
      have hok : Hid (BkOk (runB (openB l) (os.take k))) := runB_ok (openB_ok l) (fun s hs => hos.out s (List.mem_of_mem_take hs))
      generalize runB (openB l) (os.take k) = bk at hBr hnx hok
      generalize os.getD k stp0 = s at o0 o1 o2 o3 hst hnx
      obtain ⟨sk, sj, su, sn⟩ := s
      simp only at o0 o1 o2 o3 hnx
      have hsj : Hid (StpOk ⟨sk, sj, su, sn⟩) := hst
      clear hst
      by_cases hk1 : sk = 1
      · subst hk1
        go_wp2_with fail
        refine wp_region_tail 16 (by kernel_rfl) (by kernel_rfl) ?_
        simp only [List.take_succ_cons, List.take_zero, List.drop_succ_cons, List.drop_zero]
        repeat (first | go_big_quiet_skip | (go_big_quiet_want; go_big_quiet_op; go_big_quiet_on))
        refine wpQuiet_nil ?_
        go_wp2_with fail
        refine (take_any bb mb bk sj su sn (wr.drewN 1) ⟨hBr.out.cells, hBr.out.own, hBr.out.ne⟩ hok.out hsj.out.u).mono ?_
        rintro e w8 ⟨rfl, hB8, hC8⟩
        have hb8 : Hid (Below w.heap.size w w8) := chf_new (below_drewN hbr.out 1) hC8 hfr
        have hB8h : Hid (Bok w8 bb mb (takeF bk sj su sn).2) := hB8
        clear hB8 hC8
        go_wp2_with fail
        go_roundw
        case rel => exact ⟨k + 1, by go_num, by omega, by rw [hnx.out]; simpa using hB8h.out, hb8.out⟩
        case measure => simp [intOf]; omega
      · have qk : (sk == 1) = false := by simpa using hk1
        go_wp2_with fail
        go_roundw
        case rel => exact ⟨k + 1, by go_num, by omega, by rw [hnx.out, if_neg hk1]; exact hBr.out, hbr.out⟩
        case measure => simp [intOf]; omega
    · obtain rfl : k = os.length := by omega
      rw [List.take_length] at hBr
      have hOK : Hid (BkOk (runB (openB l) os)) := runB_ok (openB_ok l) hos.out
      generalize runB (openB l) os = b at hBr hOK
      have hlt1 := hBr.out.lt
      have hlt2 := hBr.out.lt2
      have hil := imgF_length hOK.out
      have hop := open_img hOK.out
      obtain ⟨im, him⟩ : ∃ im, imgF b = im := ⟨_, rfl⟩
      have himh : Hid (imgF b = im) := him
      rw [him] at hil hop
      have I1 := image_any bb mb b wr hBr.out hOK.out
      rw [him] at I1
      clear him
      go_wp2_with fail
      refine I1.mono ?_
      rintro e w5 ⟨v5, rfl, hob⟩
      obtain ⟨ai, ci, rfl, hci, hri⟩ := hob.own.nb
      have hb5 : Hid (Below w.heap.size w w5) := hbr.out.trans (hob.bel.mono hbr.out.size)
      have hB5 : Hid (Bok w5 bb mb b) := hBr.out.below hob.bel hlt1 hlt2
      have hR5 : Hid (Rd w5 ai im) := hri
      have OC := open_any ai ci im w5 hri hci (own_nil hob.own) (by omega)
      rw [hop] at OC
      clear hri hob I1
      go_wp2_with fail
      refine OC.mono ?_
      rintro e w6 ⟨cb, cm', rfl, hC6', hcb, hcm, hbel6⟩
      have hC6 : Hid (Bok w6 cb cm' b) := hC6'
      have hB6 : Hid (Bok w6 bb mb b) := hB5.out.below hbel6 hB5.out.lt hB5.out.lt2
      have hb6 : Hid (Below w.heap.size w w6) := hb5.out.trans (hbel6.mono hb5.out.size)
      have hR6 : Hid (Rd w6 ai im) := hR5.out.below hbel6 (Nat.le_refl _)
      have hn1 : bb ≠ cb := by have := hB5.out.lt; omega
      have hn2 : bb ≠ cm' := by have := hB5.out.lt; omega
      have hn3 : mb ≠ cb := by have := hB5.out.lt2; omega
      have hn4 : mb ≠ cm' := by have := hB5.out.lt2; omega
      have hfrc : ∀ k, (k = cb ∨ k = cm') → w.heap.size ≤ k := by
        have := hb5.out.size
        rintro k (rfl | rfl) <;> omega
      have I2 := image_any cb cm' b w6 hC6.out hOK.out
      rw [himh.out] at I2
      clear hC6' hbel6 OC hcb hcm
      go_wp2_with fail
      refine I2.mono ?_
      rintro e w7 ⟨v7, rfl, hob7⟩
      obtain ⟨a7, c7, rfl, hc7, hr7⟩ := hob7.own.nb
      have hb7 : Hid (Below w.heap.size w w7) := hb6.out.trans (hob7.bel.mono hb6.out.size)
      have hB7 : Hid (Bok w7 bb mb b) := hB6.out.below hob7.bel hB6.out.lt hB6.out.lt2
      have hC7 : Hid (Bok w7 cb cm' b) := hC6.out.below hob7.bel hC6.out.lt hC6.out.lt2
      have SM := same_any a7 ai c7 ci im im w7 hr7 (hR6.out.below hob7.bel (Nat.le_refl _)) (by omega)
      rw [decide_eq_true rfl] at SM
      clear hob7 hr7 I2
      go_wp2_with fail
      refine SM.mono ?_
      rintro e w8 ⟨rfl, q8, rfl⟩
      have hb8 : Hid (Below w.heap.size w (w7.drewN q8)) := below_drewN hb7.out q8
      have hB8 : Hid (Bok (w7.drewN q8) bb mb b) := ⟨hB7.out.cells, hB7.out.own, hB7.out.ne⟩
      have hC8 : Hid (Bok (w7.drewN q8) cb cm' b) := ⟨hC7.out.cells, hC7.out.own, hC7.out.ne⟩
      clear SM hR6 hR5 hop
      obtain ⟨wS, hwS⟩ : ∃ wS, w7.drewN q8 = wS := ⟨_, rfl⟩
      rw [hwS] at hb8 hB8 hC8 ⊢
      clear hwS hB7 hC7 hb7 hB6 hC6 hb6 hB5 hb5
      go_wp2_with fail
      go_loopw [16] (fun s wx => ∃ (k : Nat) (bk : Bk), s = .int .i64 (k : Int) ∧ k ≤ ms.length ∧ Bok wx bb mb bk ∧ Bok wx cb cm' bk ∧ BkOk bk ∧ Below w.heap.size w wx) (fun s _ => ms.length - (intOf s).toNat)
      case atStart => exact ⟨0, b, rfl, Nat.zero_le _, hB8.out, hC8.out, hOK.out, hb8.out⟩
      case round =>
        obtain ⟨k, bk, rfl, hk, hB, hC, hKO, hbk⟩ := hrel
        have hB9 : Hid (Bok wr bb mb bk) := hB
        have hC9 : Hid (Bok wr cb cm' bk) := hC
        have hK9 : Hid (BkOk bk) := hKO
        have hb9 : Hid (Below w.heap.size w wr) := hbk
        clear hB hC hKO hbk hB8 hC8 hb8
        by_cases hlt : k < ms.length
        · obtain ⟨g, off, hao, _, o0, o1, o2, o3⟩ := (hrm.out.below hb9.out (Nat.le_refl _)).at' hlt
          subst hao
          have hst := stp_at hms.out hlt
          generalize ms.getD k stp0 = s at o0 o1 o2 o3 hst
          obtain ⟨sk, sj, su, sn⟩ := s
          simp only at o0 o1 o2 o3
          have hsj : Hid (StpOk ⟨sk, sj, su, sn⟩) := hst
          clear hst
          go_wp2_with fail
          obtain ⟨wN, hwN⟩ : ∃ wN, wr.alloc (Obj.cells #[.int .i64 sk, .string ⟨sj.toArray⟩, .int .i64 su, .int .i64 sn] 27) = wN := ⟨_, rfl⟩
          have bN : Below wr.heap.size wr wN := hwN ▸ alloc_below _ _
          have cN0 : Bl 27 wN wr.heap.size [.int .i64 sk, .string ⟨sj.toArray⟩, .int .i64 su, .int .i64 sn] := by rw [← hwN]; exact alloc_bl wr [_, _, _, _] _
          have hBN : Hid (Bok wN bb mb bk) := hB9.out.below bN hB9.out.lt hB9.out.lt2
          have hCN : Hid (Bok wN cb cm' bk) := hC9.out.below bN hC9.out.lt hC9.out.lt2
          have hbN : Hid (Below w.heap.size w wN) := hb9.out.trans (bN.mono hb9.out.size)
          have m1 := hB9.out.lt
          have m2 := hB9.out.lt2
          have m3 := hC9.out.lt
          have m4 := hC9.out.lt2
          obtain ⟨nb, hnb⟩ : ∃ nb, wr.heap.size = nb := ⟨_, rfl⟩
          rw [hwN]
          rw [hnb] at m1 m2 m3 m4 cN0 ⊢
          have cN : Hid (Bl 27 wN nb [.int .i64 sk, .string ⟨sj.toArray⟩, .int .i64 su, .int .i64 sn]) := cN0
          have c0 := cN0.cell 0 (by simp)
          have c1 := cN0.cell 1 (by simp)
          have c2 := cN0.cell 2 (by simp)
          have c3 := cN0.cell 3 (by simp)
          simp only [List.getElem_cons_zero, List.getElem_cons_succ] at c0 c1 c2 c3
          clear hwN hnb bN cN0 o0 o1 o2 o3 hrm hB9 hC9 hb9
          have H1 : Hid (∀ q, Calls Try.prog 17 #[.pointer (some ⟨bb, 0, none⟩), .string ⟨sj.toArray⟩] (wN.drewN q) fun e w' => e = .returned (.bool (hasF sj bk.L)) ∧ w' = wN.drewN q) := fun q => has_any sj bb mb bk (wN.drewN q) ⟨hBN.out.cells, hBN.out.own, hBN.out.ne⟩ hsj.out.j
          have H2 : Hid (∀ q, Calls Try.prog 17 #[.pointer (some ⟨cb, 0, none⟩), .string ⟨sj.toArray⟩] (wN.drewN q) fun e w' => e = .returned (.bool (hasF sj bk.L)) ∧ w' = wN.drewN q) := fun q => has_any sj cb cm' bk (wN.drewN q) ⟨hCN.out.cells, hCN.out.own, hCN.out.ne⟩ hsj.out.j
          have H3 : Hid (∀ q, Calls Try.prog 18 #[.pointer (some ⟨bb, 0, none⟩)] (wN.drewN q) fun e w' => e = .returned (.int .i64 bk.L.length) ∧ w' = wN.drewN q) := fun q => len_any bb mb bk (wN.drewN q) ⟨hBN.out.cells, hBN.out.own, hBN.out.ne⟩
          have H4 : Hid (∀ q, Calls Try.prog 18 #[.pointer (some ⟨cb, 0, none⟩)] (wN.drewN q) fun e w' => e = .returned (.int .i64 bk.L.length) ∧ w' = wN.drewN q) := fun q => len_any cb cm' bk (wN.drewN q) ⟨hCN.out.cells, hCN.out.own, hCN.out.ne⟩
          obtain ⟨hb, hhb⟩ : ∃ hb, hasF sj bk.L = hb := ⟨_, rfl⟩
          obtain ⟨ln, hln⟩ : ∃ ln, bk.L.length = ln := ⟨_, rfl⟩
          rw [hhb] at H1 H2
          rw [hln] at H3 H4
          clear hhb hln
          go_quiet (first | (go_at_call_of 17 (Value.pointer (some ⟨bb, 0, none⟩)); exact Calls.quiet_of_same (H1.out _)) | (go_at_call_of 17 (Value.pointer (some ⟨cb, 0, none⟩)); exact Calls.quiet_of_same (H2.out _)) | (go_at_call_of 18 (Value.pointer (some ⟨bb, 0, none⟩)); exact Calls.quiet_of_same (H3.out _)) | (go_at_call_of 18 (Value.pointer (some ⟨cb, 0, none⟩)); exact Calls.quiet_of_same (H4.out _)))
          clear H1 H2 H3 H4
          have hBq : Hid (Bok (wN.drewN nq) bb mb bk) := ⟨hBN.out.cells, hBN.out.own, hBN.out.ne⟩
          have hCq : Hid (Bok (wN.drewN nq) cb cm' bk) := ⟨hCN.out.cells, hCN.out.own, hCN.out.ne⟩
          have hbq : Hid (Below w.heap.size w (wN.drewN nq)) := below_drewN hbN.out nq
          have cq : Hid (Bl 27 (wN.drewN nq) nb [.int .i64 sk, .string ⟨sj.toArray⟩, .int .i64 su, .int .i64 sn]) := cN
          obtain ⟨wQ, hwQ⟩ : ∃ wQ, wN.drewN nq = wQ := ⟨_, rfl⟩
          rw [hwQ] at hBq hCq hbq cq ⊢
          clear hBN hCN hbN cN c0 c1 c2 c3 hwQ
          have c0 := cq.out.cell 0 (by simp)
          have c1 := cq.out.cell 1 (by simp)
          have c2 := cq.out.cell 2 (by simp)
          have c3 := cq.out.cell 3 (by simp)
          simp only [List.getElem_cons_zero, List.getElem_cons_succ] at c0 c1 c2 c3
          by_cases hk1 : sk = 1
          · subst hk1
            have T1 := take_any bb mb bk sj su sn wQ hBq.out hK9.out hsj.out.u
            go_wp2_with fail
            refine T1.mono ?_
            rintro e w5 ⟨rfl, hB5', hc5⟩
            have hB5 : Hid (Bok w5 bb mb (takeF bk sj su sn).2) := hB5'
            have hC5 : Hid (Bok w5 cb cm' bk) := hCq.out.chf hc5 (by rintro (e | e); exact hn1 e.symm; exact hn3 e.symm) (by rintro (e | e); exact hn2 e.symm; exact hn4 e.symm)
            have hb5 : Hid (Below w.heap.size w w5) := chf_new hbq.out hc5 hfr
            have cq5 : Hid (Bl 27 w5 nb [.int .i64 1, .string ⟨sj.toArray⟩, .int .i64 su, .int .i64 sn]) := cq.out.chf hc5 (by rintro (e | e) <;> omega)
            clear T1 hB5' hc5 hBq hCq hbq cq c0 c1 c2 c3
            have c0 := cq5.out.cell 0 (by simp)
            have c1 := cq5.out.cell 1 (by simp)
            have c2 := cq5.out.cell 2 (by simp)
            have c3 := cq5.out.cell 3 (by simp)
            simp only [List.getElem_cons_zero, List.getElem_cons_succ] at c0 c1 c2 c3
            have T2 := take_any cb cm' bk sj su sn w5 hC5.out hK9.out hsj.out.u
            have hK2 : Hid (BkOk (takeF bk sj su sn).2) := takeF_ok hK9.out _ _ _ hsj.out.u hsj.out.n
            obtain ⟨cd, hcd⟩ : ∃ c, (takeF bk sj su sn).1 = c := ⟨_, rfl⟩
            obtain ⟨bk2, hbk2⟩ : ∃ c, (takeF bk sj su sn).2 = c := ⟨_, rfl⟩
            rw [hcd, hbk2] at T2
            rw [hbk2] at hK2 hB5
            rw [hcd]
            clear hcd hbk2
            go_wp2_with fail
            refine T2.mono ?_
            rintro e w6 ⟨rfl, hC6', hc6⟩
            have hC6 : Hid (Bok w6 cb cm' bk2) := hC6'
            have hB6 : Hid (Bok w6 bb mb bk2) := hB5.out.chf hc6 (by rintro (e | e); exact hn1 e; exact hn2 e) (by rintro (e | e); exact hn3 e; exact hn4 e)
            have hb6 : Hid (Below w.heap.size w w6) := chf_new hb5.out hc6 hfrc
            clear T2 hC6' hc6 hB5 hC5 hb5 cq5 c0 c1 c2 c3
            have L1 := last_any bb mb bk2 w6 hB6.out
            obtain ⟨clk, hclk⟩ : ∃ c, (bk2).clk = c := ⟨_, rfl⟩
            obtain ⟨hs_, hhs⟩ : ∃ c, (bk2).has = c := ⟨_, rfl⟩
            have hclkH : Hid ((bk2).clk = clk) := hclk
            have hhsH : Hid ((bk2).has = hs_) := hhs
            rw [hclk, hhs] at L1
            clear hclk hhs
            go_wp2_with fail
            refine L1.mono ?_
            rintro e wa ⟨rfl, qa, rfl⟩
            have L2 := last_any cb cm' bk2 (w6.drewN qa) ⟨hC6.out.cells, hC6.out.own, hC6.out.ne⟩
            rw [hclkH.out, hhsH.out] at L2
            clear L1
            go_wp2_with fail
            refine L2.mono ?_
            rintro e wb ⟨rfl, qb, rfl⟩
            clear L2
            go_wp2_with fail
            refine ⟨⟨k + 1, _, by go_num, by omega, ⟨hB6.out.cells, hB6.out.own, hB6.out.ne⟩, ⟨hC6.out.cells, hC6.out.own, hC6.out.ne⟩, hK2.out, below_drewN hb6.out _⟩, ?_⟩
            simp [intOf]; omega
          · have qk : (sk == 1) = false := by simpa using hk1
            clear cq c1 c2 c3
            have L1 := last_any bb mb bk wQ hBq.out
            obtain ⟨clk, hclk⟩ : ∃ c, (bk).clk = c := ⟨_, rfl⟩
            obtain ⟨hs_, hhs⟩ : ∃ c, (bk).has = c := ⟨_, rfl⟩
            have hclkH : Hid ((bk).clk = clk) := hclk
            have hhsH : Hid ((bk).has = hs_) := hhs
            rw [hclk, hhs] at L1
            clear hclk hhs
            go_wp2_with fail
            refine L1.mono ?_
            rintro e wa ⟨rfl, qa, rfl⟩
            have L2 := last_any cb cm' bk (wQ.drewN qa) ⟨hCq.out.cells, hCq.out.own, hCq.out.ne⟩
            rw [hclkH.out, hhsH.out] at L2
            clear L1
            go_wp2_with fail
            refine L2.mono ?_
            rintro e wb ⟨rfl, qb, rfl⟩
            clear L2
            go_wp2_with fail
            refine ⟨⟨k + 1, _, by go_num, by omega, ⟨hBq.out.cells, hBq.out.own, hBq.out.ne⟩, ⟨hCq.out.cells, hCq.out.own, hCq.out.ne⟩, hK9.out, below_drewN hbq.out _⟩, ?_⟩
            simp [intOf]; omega
        · obtain rfl : k = ms.length := by omega
          have hil2 := imgF_length hK9.out
          have I5 := image_any bb mb bk wr hB9.out hK9.out
          go_wp2_with fail
          refine I5.mono ?_
          rintro e wA ⟨vA, rfl, hobA⟩
          obtain ⟨aA, cA, rfl, hcA, hrA⟩ := hobA.own.nb
          have hbA : Hid (Below w.heap.size w wA) := hb9.out.trans (hobA.bel.mono hb9.out.size)
          have I6 := image_any cb cm' bk wA (hC9.out.below hobA.bel hC9.out.lt hC9.out.lt2) hK9.out
          clear hobA I5
          go_wp2_with fail
          refine I6.mono ?_
          rintro e wB ⟨vB, rfl, hobB⟩
          obtain ⟨aB, cB, rfl, hcB, hrB⟩ := hobB.own.nb
          have hbB : Hid (Below w.heap.size w wB) := hbA.out.trans (hobB.bel.mono hbA.out.size)
          have SM := same_any aA aB cA cB _ _ wB (hrA.below hobB.bel (Nat.le_refl _)) hrB (by omega)
          rw [decide_eq_true rfl] at SM
          clear hobB hrA hrB I6
          go_wp2_with fail
          refine SM.mono ?_
          rintro e wC ⟨rfl, q, rfl⟩
          go_wp2_with fail
          go_ret
          exact ⟨by simp, below_drewN hbB.out _⟩

end Go.Proofs.Ytoobhpbjojicoaa
