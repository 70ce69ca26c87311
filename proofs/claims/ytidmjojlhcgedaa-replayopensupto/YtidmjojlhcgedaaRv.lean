import Derived.Test.YtidmjojlhcgedaaRu
namespace Go.Proofs.Ytidmjojlhcgedaa
open Go.RowKit Go.Maps
set_option maxRecDepth 100000

theorem own_addr {w : World} {B0 : Nat} {ao : Option Addr} {n c : Nat} {l : List UInt8} (h : Owb w B0 (.slice ao n c) l) : ∀ a, ao = some a → B0 ≤ a.block := by
  intro a ha
  subst ha
  exact own_block h a.block rfl

theorem imgF_23 (b : Bk) : 23 ≤ (imgF b).length := by
  simp only [imgF, bodyF, List.length_append, headF_length, tobe_length]; omega
theorem img_names (b : Bk) : pieceF (imgF b) 15 ((imgF b).length - 23) = b.L.flatMap nameF := by
  have h := piece_mid (headF b.has b.clk ++ tobe 4 b.L.length) (b.L.flatMap nameF) (tobe 8 (sumF (bodyF b)))
  rw [List.length_append, headF_length, tobe_length] at h
  have hl : (imgF b).length - 23 = (b.L.flatMap nameF).length := by
    simp only [imgF, bodyF, List.length_append, headF_length, tobe_length]; omega
  rw [hl]
  exact h

set_option maxHeartbeats 1000000 in
theorem moved_any (ao : Option Addr) (cap : Nat) (l : List UInt8) (w : World) (hr : Rd w ao l) (hl : 23 ≤ l.length) (hl2 : l.length ≤ 1000000000) (hcap : l.length ≤ cap) :
    Calls Try.prog 22 #[.slice ao l.length cap] w fun e w' => (∃ a c, e = .returned (.slice a (pieceF l 15 (l.length - 23)).length c) ∧ Rd w' a (pieceF l 15 (l.length - 23))) ∧ w' = w := by
  rcases hr with h0 | ⟨g, off, rfl, hg, hc⟩
  · subst h0; simp at hl
  have hpl := pieceF_length (l := l) (nx := 15) (size := l.length - 23) (by omega)
  have hRp : Hid (Rd w (some ⟨g, off + 15, none⟩) (pieceF l 15 (l.length - 23))) := by
    refine .inr ⟨g, off + 15, rfl, hg, fun j hj => ?_⟩
    rw [hpl] at hj
    have := hc (15 + j) (by omega)
    rw [Nat.add_assoc]
    refine this.trans ?_
    congr 2
    unfold pieceF
    rw [List.getD_eq_getElem?_getD, List.getD_eq_getElem?_getD, List.getElem?_take, if_pos hj, List.getElem?_drop]
  rw [hpl]
  obtain ⟨n, hn⟩ : ∃ n, l.length = n := ⟨_, rfl⟩
  rw [hn] at hl hl2 hcap hRp hpl ⊢
  generalize pieceF l 15 (n - 23) = P at hRp hpl ⊢
  have hplh : Hid (P.length = n - 23) := hpl
  have hadd : (⟨g, off, none⟩ : Addr).add 15 = ⟨g, off + 15, none⟩ := Addr.add_lit _ _ _
  clear hc hn hpl
  go_enter Try.func22, Try.ntmps22
  go_wp2_with fail
  go_ret
  refine ⟨⟨some ⟨g, off + 15, none⟩, cap - 15, ?_, hRp.out⟩, rfl⟩
  show Ending.returned (.slice (some ⟨g, off + 15, none⟩) (n - 8 - 15) (cap - 15)) = _
  rw [show n - 8 - 15 = n - 23 by omega]

set_option maxHeartbeats 8000000 in
theorem refuses_any (ao : Option Addr) (cap : Nat) (l : List UInt8) (aos : Option Addr) (cos : Nat) (os : List Stp) (j : List UInt8) (u n : Int) (w : World)
    (hr0 : Rd w ao l) (hcap : l.length ≤ cap) (hnil : ao = none → cap = 0) (hl : l.length ≤ 10000000) (hro0 : RdO w aos os) (hol : os.length ≤ 10000000) (hos0 : ∀ s ∈ os, StpOk s) (hj : j.length ≤ 9223372036854775807) (hu : I64 u) (hn : I64 n) :
    Calls Try.prog 7 #[.slice ao l.length cap, .slice aos os.length cos, .string ⟨j.toArray⟩, .int .i64 u, .int .i64 n] w fun e w' => e = .returned (.bool true) ∧ Below w.heap.size w w' := by
  have hr : Hid (Rd w ao l) := hr0
  have hro : Hid (RdO w aos os) := hro0
  have hos : Hid (∀ s ∈ os, StpOk s) := hos0
  clear hr0 hro0 hos0
  go_enter Try.func7, Try.ntmps7
  go_wp2_with fail
  refine (started_any w).mono ?_
  rintro e w1 ⟨rfl, hbel1⟩
  have hb1 : Hid (Below w.heap.size w w1) := hbel1
  clear hbel1
  go_wp2_with fail
  refine (opened_any ao cap l w1 (hr.out.below hb1.out (Nat.le_refl _)) hcap hnil (by omega)).mono ?_
  rintro e w2 ⟨bb, mb, rfl, hB2', hbb', hmb', hbel2⟩
  have hbb : w.heap.size ≤ bb := Nat.le_trans hb1.out.size hbb'
  have hmb : w.heap.size ≤ mb := Nat.le_trans hb1.out.size hmb'
  have hb2 : Hid (Below w.heap.size w w2) := hb1.out.trans (hbel2.mono hb1.out.size)
  have hB2 : Hid (Bok w2 bb mb (openB l)) := hB2'
  clear hB2' hbb' hmb' hbel2
  have hfr : ∀ k, (k = bb ∨ k = mb) → w.heap.size ≤ k := by rintro k (rfl | rfl) <;> assumption
  go_wp2_with fail
  go_loopw [12] (fun s wr => ∃ k : Nat, s = .int .i64 (k : Int) ∧ k ≤ os.length ∧ Bok wr bb mb (runB (openB l) (os.take k)) ∧ Below w.heap.size w wr) (fun s _ => os.length - (intOf s).toNat)
  case atStart => exact ⟨0, rfl, Nat.zero_le _, hB2.out, hb2.out⟩
  case round =>
    obtain ⟨k, rfl, hk, hBk, hbk⟩ := hrel
    have hBr : Hid (Bok wr bb mb (runB (openB l) (os.take k))) := hBk
    have hbr : Hid (Below w.heap.size w wr) := hbk
    clear hBk hbk
    by_cases hlt : k < os.length
    · obtain ⟨g, off, hao, _, o0, o1, o2, o3⟩ := (hro.out.below hbr.out (Nat.le_refl _)).at' hlt
      subst hao
      have hst := stp_at hos.out hlt
      have hnx : Hid (runB (openB l) (os.take (k + 1)) = if (os.getD k stp0).k = 1 then (takeF (runB (openB l) (os.take k)) (os.getD k stp0).j (os.getD k stp0).u (os.getD k stp0).n).2 else runB (openB l) (os.take k)) := runB_snoc _ _ hlt
      have hok : Hid (BkOk (runB (openB l) (os.take k))) := runB_ok (openB_ok l) (fun s hs => hos.out s (List.mem_of_mem_take hs))
      generalize runB (openB l) (os.take k) = bk at hBr hnx hok
      generalize os.getD k stp0 = s at o0 o1 o2 o3 hst hnx
      obtain ⟨sk, sj, su, sn⟩ := s
      simp only at o0 o1 o2 o3 hnx
      have hsj : Hid (StpOk ⟨sk, sj, su, sn⟩) := hst
      clear hst
      by_cases hk1 : sk = 1
      · subst hk1
        go_wp2_with fail
        refine wp_region_tail 16 (by kernel_rfl) (by kernel_rfl) ?_
        simp only [List.take_succ_cons, List.take_zero, List.drop_succ_cons, List.drop_zero]
        repeat (first | go_big_quiet_skip | (go_big_quiet_want; go_big_quiet_op; go_big_quiet_on))
        refine wpQuiet_nil ?_
        go_wp2_with fail
        refine (take_any bb mb bk sj su sn (wr.drewN 1) ⟨hBr.out.cells, hBr.out.own, hBr.out.ne⟩ hok.out hsj.out.u).mono ?_
        rintro e w8 ⟨rfl, hB8, hC8⟩
        have hb8 : Hid (Below w.heap.size w w8) := chf_new (below_drewN hbr.out 1) hC8 hfr
        have hB8h : Hid (Bok w8 bb mb (takeF bk sj su sn).2) := hB8
        clear hB8 hC8
        go_wp2_with fail
        go_roundw
        case rel => exact ⟨k + 1, by go_num, by omega, by rw [hnx.out]; simpa using hB8h.out, hb8.out⟩
        case measure => simp [intOf]; omega
      · have qk : (sk == 1) = false := by simpa using hk1
        go_wp2_with fail
        go_roundw
        case rel => exact ⟨k + 1, by go_num, by omega, by rw [hnx.out, if_neg hk1]; exact hBr.out, hbr.out⟩
        case measure => simp [intOf]; omega
    · obtain rfl : k = os.length := by omega
      rw [List.take_length] at hBr
      have hOK : Hid (BkOk (runB (openB l) os)) := runB_ok (openB_ok l) hos.out
      generalize runB (openB l) os = b at hBr hOK
      have hlt1 := hBr.out.lt
      have hlt2 := hBr.out.lt2
      have hil := imgF_length hOK.out
      obtain ⟨im, him⟩ : ∃ im, imgF b = im := ⟨_, rfl⟩
      have himh : Hid (imgF b = im) := him
      rw [him] at hil
      have I1 := image_any bb mb b wr hBr.out hOK.out
      rw [him] at I1
      clear him
      go_wp2_with fail
      refine I1.mono ?_
      rintro e w4 ⟨v4, rfl, hob⟩
      obtain ⟨ai, ci, rfl, hci, hri⟩ := hob.own.nb
      have hai : Hid (∀ a, ai = some a → wr.heap.size ≤ a.block) := own_addr hob.own
      have hb4 : Hid (Below w.heap.size w w4) := hbr.out.trans (hob.bel.mono hbr.out.size)
      have hB4 : Hid (Bok w4 bb mb b) := hBr.out.below hob.bel hlt1 hlt2
      have hR4 : Hid (Rd w4 ai im) := hri
      have hs4 : wr.heap.size ≤ w4.heap.size := hob.bel.size
      clear hri hob I1
      go_wp2_with fail
      refine (len_any bb mb b w4 hB4.out).mono ?_
      rintro e w4' ⟨rfl, rfl⟩
      go_wp2_with fail
      refine (has_any j bb mb b w4' hB4.out hj).mono ?_
      rintro e w5 ⟨rfl, rfl⟩
      go_wp2_with fail
      refine (last_any bb mb b w5 hB4.out).mono ?_
      rintro e w6 ⟨rfl, q6, rfl⟩
      have I2 := image_any bb mb b (w5.drewN q6) ⟨hB4.out.cells, hB4.out.own, hB4.out.ne⟩ hOK.out
      rw [himh.out] at I2
      go_wp2_with fail
      refine I2.mono ?_
      rintro e w7 ⟨v7, rfl, hob7⟩
      obtain ⟨a7, c7, rfl, hc7, hr7⟩ := hob7.own.nb
      have hb5 : Hid (Below w5.heap.size w5 w7) := n_below (n := q6) hob7.bel
      have hR7 : Hid (Rd w7 ai im) := hR4.out.below hb5.out (Nat.le_refl _)
      have hB7 : Hid (Bok w7 bb mb b) := hB4.out.below hb5.out hB4.out.lt hB4.out.lt2
      have hb7 : Hid (Below w.heap.size w w7) := hb4.out.trans (hb5.out.mono hb4.out.size)
      have SM := same_any a7 ai c7 ci im im w7 hr7 hR7.out (by omega)
      rw [decide_eq_true rfl] at SM
      clear hob7 hr7 I2
      go_wp2_with fail
      refine SM.mono ?_
      rintro e w8 ⟨rfl, q8, rfl⟩
      have hB8 : Hid (Bok (w7.drewN q8) bb mb b) := ⟨hB7.out.cells, hB7.out.own, hB7.out.ne⟩
      have hb8 : Hid (Below w.heap.size w (w7.drewN q8)) := below_drewN hb7.out q8
      have TK := take_any bb mb b j u n (w7.drewN q8) hB8.out hOK.out hu
      have hOK9 : Hid (BkOk (takeF b j u n).2) := takeF_ok hOK.out j u n hu hn
      clear SM
      obtain ⟨wz, hwz⟩ : ∃ wz, w7.drewN q8 = wz := ⟨_, rfl⟩
      have hRz : Hid (Rd wz ai im) := by subst hwz; exact hR7.out
      rw [hwz] at hB8 hb8 TK ⊢
      have hsz : wr.heap.size ≤ wz.heap.size := by subst hwz; exact Nat.le_trans hs4 hb5.out.size
      clear hwz hR7 hB7 hb7 hb5
      have hTF : Hid (takeF b j u n = takeF b j u n) := rfl
      obtain ⟨cd, b9, hT⟩ : ∃ cd b9, takeF b j u n = (cd, b9) := ⟨_, _, rfl⟩
      rw [hT] at TK hOK9
      have hTh : Hid (takeF b j u n = (cd, b9)) := hT
      clear hT hTF
      go_wp2_with fail
      refine TK.mono ?_
      rintro e w9 ⟨rfl, hB9', hC9⟩
      have hB9 : Hid (Bok w9 bb mb b9) := hB9'
      have hb9 : Hid (Below w.heap.size w w9) := chf_new hb8.out hC9 hfr
      have hR9 : Hid (Rd w9 ai im) := hRz.out.chf hC9 (fun _ a ha => by have := hai.out a ha; rintro (h | h) <;> omega)
      clear hB9' hC9 TK hRz hB8
      have hil9 := imgF_length hOK9.out
      obtain ⟨im9, him9⟩ : ∃ im9, imgF b9 = im9 := ⟨_, rfl⟩
      have him9h : Hid (imgF b9 = im9) := him9
      have I3 := image_any bb mb b9 w9 hB9.out hOK9.out
      rw [him9] at I3 hil9
      clear him9
      go_wp2_with fail
      refine I3.mono ?_
      rintro e wA ⟨vA, rfl, hobA⟩
      obtain ⟨aA, cA, rfl, hcA, hrA⟩ := hobA.own.nb
      have hbA : Hid (Below w.heap.size w wA) := hb9.out.trans (hobA.bel.mono hb9.out.size)
      have hBA : Hid (Bok wA bb mb b9) := hB9.out.below hobA.bel hB9.out.lt hB9.out.lt2
      have hRA : Hid (Rd wA ai im) := hR9.out.below hobA.bel (Nat.le_refl _)
      have hRB : Hid (Rd wA aA im9) := hrA
      clear hobA hrA I3 hR9 hB9
      have hcases : (cd = 10 ∧ b9 = b) ∨ (cd = 162 ∧ b9 = b) ∨ (cd = 0 ∧ b9 = ⟨true, n, insF j u (livF n b.L)⟩ ∧ hasF j b9.L = true ∧ 1 ≤ b9.L.length ∧ b9.L.length ≤ b.L.length + 1) ∨ ((cd = 134 ∨ cd = 160 ∨ cd = 161) ∧ b9 = ⟨true, n, livF n b.L⟩) := by
        have h := hTh.out
        unfold takeF at h
        split at h
        · cases h; exact .inl ⟨rfl, rfl⟩
        split at h
        · cases h; exact .inr (.inl ⟨rfl, rfl⟩)
        split at h
        · cases h; exact .inr (.inr (.inr ⟨.inl rfl, rfl⟩))
        split at h
        · cases h; exact .inr (.inr (.inr ⟨.inr (.inl rfl), rfl⟩))
        split at h
        · cases h; exact .inr (.inr (.inr ⟨.inr (.inr rfl), rfl⟩))
        · cases h
          refine .inr (.inr (.inl ⟨rfl, rfl, ?_, ?_, ?_⟩))
          · rw [hasF_ins]; simp
          · show 1 ≤ (insF j u _).length
            rw [length_insF]; omega
          · show (insF j u _).length ≤ _
            rw [length_insF]
            have := livF_le n b.L
            omega
      have LN := len_any bb mb b9 wA hBA.out
      have HS := has_any j bb mb b9 wA hBA.out hj
      have LS := last_any bb mb b9 wA hBA.out
      obtain ⟨N, hN⟩ : ∃ N, b.L.length = N := ⟨_, rfl⟩
      have hNh : Hid (b.L.length = N) := hN
      have hN4 : N ≤ 4096 := by rw [← hN]; exact hOK.out.len
      rw [hN]
      obtain ⟨M, hM⟩ : ∃ M, b9.L.length = M := ⟨_, rfl⟩
      have hMh : Hid (b9.L.length = M) := hM
      have hM4 : M ≤ 4096 := by rw [← hM]; exact hOK9.out.len
      rw [hM, hN] at hcases
      rw [hM] at LN
      clear hN hM
      rcases hcases with ⟨rfl, hb⟩ | ⟨rfl, hb⟩ | ⟨rfl, hb, hh, h1, h2⟩ | ⟨hcd, hb⟩
      · have e1 : im9 = im := by rw [← him9h.out, ← himh.out, hb]
        have e2 : M = N := by rw [← hMh.out, ← hNh.out, hb]
        subst e1 e2
        have SM := same_any aA ai cA ci im9 im9 wA hRB.out hRA.out (by omega)
        rw [decide_eq_true rfl] at SM
        clear hb LS HS
        go_wp2_with fail
        refine SM.mono ?_
        rintro e wB ⟨rfl, qB, rfl⟩
        go_wp2_with fail
        refine (len_any bb mb b9 (wA.drewN qB) ⟨hBA.out.cells, hBA.out.own, hBA.out.ne⟩).mono ?_
        rintro e wC ⟨rfl, rfl⟩
        rw [hMh.out]
        go_wp2_with fail
        go_ret
        exact ⟨by simp, below_drewN hbA.out _⟩
      · have e1 : im9 = im := by rw [← him9h.out, ← himh.out, hb]
        have e2 : M = N := by rw [← hMh.out, ← hNh.out, hb]
        subst e1 e2
        have SM := same_any aA ai cA ci im9 im9 wA hRB.out hRA.out (by omega)
        rw [decide_eq_true rfl] at SM
        clear hb LS HS
        go_wp2_with fail
        refine SM.mono ?_
        rintro e wB ⟨rfl, qB, rfl⟩
        go_wp2_with fail
        refine (len_any bb mb b9 (wA.drewN qB) ⟨hBA.out.cells, hBA.out.own, hBA.out.ne⟩).mono ?_
        rintro e wC ⟨rfl, rfl⟩
        rw [hMh.out]
        go_wp2_with fail
        go_ret
        exact ⟨by simp, below_drewN hbA.out _⟩
      · rw [hh] at HS
        have q1 : decide ((M : Int) ≤ (N : Int) + 1) = true := by simp; omega
        have q2 : decide ((M : Int) ≥ 1) = true := by simp; omega
        clear hb LS hh
        go_wp2_with fail
        refine HS.mono ?_
        rintro e wB ⟨rfl, rfl⟩
        go_wp2_with fail
        refine LN.mono ?_
        rintro e wB' ⟨rfl, rfl⟩
        go_wp2_with fail
        refine LN.mono ?_
        rintro e wB ⟨rfl, rfl⟩
        go_wp2_with fail
        go_ret
        exact ⟨by simp, hbA.out⟩
      · rcases hcd with rfl | rfl | rfl
        · have hcl : b9.clk = n := by rw [hb]
          have hhs : b9.has = true := by rw [hb]
          rw [hcl, hhs] at LS
          have hMN : M ≤ N := by rw [← hMh.out, ← hNh.out, hb]; exact livF_le n b.L
          have q1 : decide ((M : Int) > (N : Int)) = false := by simp; omega
          have hbH : Hid (b9 = ⟨true, n, livF n b.L⟩) := hb
          clear hb hcl hhs LN
          go_wp2_with fail
          refine LS.mono ?_
          rintro e wB ⟨rfl, qB, rfl⟩
          have LN := len_any bb mb b9 (wA.drewN qB) ⟨hBA.out.cells, hBA.out.own, hBA.out.ne⟩
          rw [hMh.out] at LN
          have hRA2 : Hid (Rd (wA.drewN qB) ai im) := hRA.out
          have hRB2 : Hid (Rd (wA.drewN qB) aA im9) := hRB.out
          have hbA2 : Hid (Below w.heap.size w (wA.drewN qB)) := below_drewN hbA.out qB
          obtain ⟨wD, hwD⟩ : ∃ wD, wA.drewN qB = wD := ⟨_, rfl⟩
          rw [hwD] at LN hRA2 hRB2 hbA2 ⊢
          clear hwD hRA hRB LS
          go_wp2_with fail
          refine LN.mono ?_
          rintro e wE ⟨rfl, rfl⟩
          go_wp2_with fail
          refine LN.mono ?_
          rintro e wE ⟨rfl, rfl⟩
          by_cases hlt : M < N
          · have q2 : decide ((M : Int) < (N : Int)) = true := by simp; omega
            go_wp2_with fail
            go_ret
            exact ⟨by simp, hbA2.out⟩
          · obtain rfl : M = N := by omega
            have hLL : b9.L = b.L := by
              rw [hbH.out]
              show livF n b.L = b.L
              have h1 := hMh.out
              rw [hbH.out, ← hNh.out] at h1
              exact List.filter_eq_self.2 (List.length_filter_eq_length_iff.1 h1)
            have M1 := moved_any aA cA im9 wE hRB2.out (by rw [← him9h.out]; exact imgF_23 b9) (by omega) hcA
            have M2 := moved_any ai ci im wE hRA2.out (by rw [← himh.out]; exact imgF_23 b) (by omega) hci
            rw [← him9h.out, img_names, him9h.out] at M1
            rw [← himh.out, img_names, himh.out] at M2
            rw [hLL] at M1
            have hfl := names_le b.L hOK.out.nm
            have hlN := hOK.out.len
            obtain ⟨F, hF⟩ : ∃ F, b.L.flatMap nameF = F := ⟨_, rfl⟩
            rw [hF] at M1 M2 hfl
            clear hF hLL
            go_wp2_with fail
            refine M1.mono ?_
            rintro e wF ⟨⟨a1, c1, rfl, hr1⟩, rfl⟩
            go_wp2_with fail
            refine M2.mono ?_
            rintro e wG ⟨⟨a2, c2, rfl, hr2⟩, rfl⟩
            have SM := same_any a1 a2 c1 c2 F F wG hr1 hr2 (by omega)
            rw [decide_eq_true rfl] at SM
            clear M1 M2 hr1 hr2
            go_wp2_with fail
            refine SM.mono ?_
            rintro e wH ⟨rfl, qH, rfl⟩
            go_wp2_with fail
            go_ret
            exact ⟨by simp, below_drewN hbA2.out _⟩
        · have hcl : b9.clk = n := by rw [hb]
          have hhs : b9.has = true := by rw [hb]
          rw [hcl, hhs] at LS
          have hMN : M ≤ N := by rw [← hMh.out, ← hNh.out, hb]; exact livF_le n b.L
          have q1 : decide ((M : Int) > (N : Int)) = false := by simp; omega
          have hbH : Hid (b9 = ⟨true, n, livF n b.L⟩) := hb
          clear hb hcl hhs LN
          go_wp2_with fail
          refine LS.mono ?_
          rintro e wB ⟨rfl, qB, rfl⟩
          have LN := len_any bb mb b9 (wA.drewN qB) ⟨hBA.out.cells, hBA.out.own, hBA.out.ne⟩
          rw [hMh.out] at LN
          have hRA2 : Hid (Rd (wA.drewN qB) ai im) := hRA.out
          have hRB2 : Hid (Rd (wA.drewN qB) aA im9) := hRB.out
          have hbA2 : Hid (Below w.heap.size w (wA.drewN qB)) := below_drewN hbA.out qB
          obtain ⟨wD, hwD⟩ : ∃ wD, wA.drewN qB = wD := ⟨_, rfl⟩
          rw [hwD] at LN hRA2 hRB2 hbA2 ⊢
          clear hwD hRA hRB LS
          go_wp2_with fail
          refine LN.mono ?_
          rintro e wE ⟨rfl, rfl⟩
          go_wp2_with fail
          refine LN.mono ?_
          rintro e wE ⟨rfl, rfl⟩
          by_cases hlt : M < N
          · have q2 : decide ((M : Int) < (N : Int)) = true := by simp; omega
            go_wp2_with fail
            go_ret
            exact ⟨by simp, hbA2.out⟩
          · obtain rfl : M = N := by omega
            have hLL : b9.L = b.L := by
              rw [hbH.out]
              show livF n b.L = b.L
              have h1 := hMh.out
              rw [hbH.out, ← hNh.out] at h1
              exact List.filter_eq_self.2 (List.length_filter_eq_length_iff.1 h1)
            have M1 := moved_any aA cA im9 wE hRB2.out (by rw [← him9h.out]; exact imgF_23 b9) (by omega) hcA
            have M2 := moved_any ai ci im wE hRA2.out (by rw [← himh.out]; exact imgF_23 b) (by omega) hci
            rw [← him9h.out, img_names, him9h.out] at M1
            rw [← himh.out, img_names, himh.out] at M2
            rw [hLL] at M1
            have hfl := names_le b.L hOK.out.nm
            have hlN := hOK.out.len
            obtain ⟨F, hF⟩ : ∃ F, b.L.flatMap nameF = F := ⟨_, rfl⟩
            rw [hF] at M1 M2 hfl
            clear hF hLL
            go_wp2_with fail
            refine M1.mono ?_
            rintro e wF ⟨⟨a1, c1, rfl, hr1⟩, rfl⟩
            go_wp2_with fail
            refine M2.mono ?_
            rintro e wG ⟨⟨a2, c2, rfl, hr2⟩, rfl⟩
            have SM := same_any a1 a2 c1 c2 F F wG hr1 hr2 (by omega)
            rw [decide_eq_true rfl] at SM
            clear M1 M2 hr1 hr2
            go_wp2_with fail
            refine SM.mono ?_
            rintro e wH ⟨rfl, qH, rfl⟩
            go_wp2_with fail
            go_ret
            exact ⟨by simp, below_drewN hbA2.out _⟩
        · have hcl : b9.clk = n := by rw [hb]
          have hhs : b9.has = true := by rw [hb]
          rw [hcl, hhs] at LS
          have hMN : M ≤ N := by rw [← hMh.out, ← hNh.out, hb]; exact livF_le n b.L
          have q1 : decide ((M : Int) > (N : Int)) = false := by simp; omega
          have hbH : Hid (b9 = ⟨true, n, livF n b.L⟩) := hb
          clear hb hcl hhs LN
          go_wp2_with fail
          refine LS.mono ?_
          rintro e wB ⟨rfl, qB, rfl⟩
          have LN := len_any bb mb b9 (wA.drewN qB) ⟨hBA.out.cells, hBA.out.own, hBA.out.ne⟩
          rw [hMh.out] at LN
          have hRA2 : Hid (Rd (wA.drewN qB) ai im) := hRA.out
          have hRB2 : Hid (Rd (wA.drewN qB) aA im9) := hRB.out
          have hbA2 : Hid (Below w.heap.size w (wA.drewN qB)) := below_drewN hbA.out qB
          obtain ⟨wD, hwD⟩ : ∃ wD, wA.drewN qB = wD := ⟨_, rfl⟩
          rw [hwD] at LN hRA2 hRB2 hbA2 ⊢
          clear hwD hRA hRB LS
          go_wp2_with fail
          refine LN.mono ?_
          rintro e wE ⟨rfl, rfl⟩
          go_wp2_with fail
          refine LN.mono ?_
          rintro e wE ⟨rfl, rfl⟩
          by_cases hlt : M < N
          · have q2 : decide ((M : Int) < (N : Int)) = true := by simp; omega
            go_wp2_with fail
            go_ret
            exact ⟨by simp, hbA2.out⟩
          · obtain rfl : M = N := by omega
            have hLL : b9.L = b.L := by
              rw [hbH.out]
              show livF n b.L = b.L
              have h1 := hMh.out
              rw [hbH.out, ← hNh.out] at h1
              exact List.filter_eq_self.2 (List.length_filter_eq_length_iff.1 h1)
            have M1 := moved_any aA cA im9 wE hRB2.out (by rw [← him9h.out]; exact imgF_23 b9) (by omega) hcA
            have M2 := moved_any ai ci im wE hRA2.out (by rw [← himh.out]; exact imgF_23 b) (by omega) hci
            rw [← him9h.out, img_names, him9h.out] at M1
            rw [← himh.out, img_names, himh.out] at M2
            rw [hLL] at M1
            have hfl := names_le b.L hOK.out.nm
            have hlN := hOK.out.len
            obtain ⟨F, hF⟩ : ∃ F, b.L.flatMap nameF = F := ⟨_, rfl⟩
            rw [hF] at M1 M2 hfl
            clear hF hLL
            go_wp2_with fail
            refine M1.mono ?_
            rintro e wF ⟨⟨a1, c1, rfl, hr1⟩, rfl⟩
            go_wp2_with fail
            refine M2.mono ?_
            rintro e wG ⟨⟨a2, c2, rfl, hr2⟩, rfl⟩
            have SM := same_any a1 a2 c1 c2 F F wG hr1 hr2 (by omega)
            rw [decide_eq_true rfl] at SM
            clear M1 M2 hr1 hr2
            go_wp2_with fail
            refine SM.mono ?_
            rintro e wH ⟨rfl, qH, rfl⟩
            go_wp2_with fail
            go_ret
            exact ⟨by simp, below_drewN hbA2.out _⟩


end Go.Proofs.Ytidmjojlhcgedaa
