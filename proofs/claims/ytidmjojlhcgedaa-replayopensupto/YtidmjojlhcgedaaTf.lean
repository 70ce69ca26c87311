import Derived.Test.YtidmjojlhcgedaaTe
namespace Go.Proofs.Ytidmjojlhcgedaa
open Go.RowKit Go.Maps
set_option maxRecDepth 100000

theorem put_cut {O : List En} {x : En} {j : Nat} (hj : 0 < j) (hl : j ≤ O.length) : (O.take j ++ x :: O.drop j).set j (O.getD (j - 1) en0) = O.take (j - 1) ++ (O.getD (j - 1) en0) :: O.drop (j - 1) := by
  rw [List.set_append_right _ _ (by rw [List.length_take]; omega), List.length_take, Nat.min_eq_left hl, Nat.sub_self, List.set_cons_zero]
  obtain ⟨m, rfl⟩ : ∃ m, j = m + 1 := ⟨j - 1, by omega⟩
  rw [Nat.add_sub_cancel, getD_eq _ _ (show m < O.length by omega), List.take_succ_eq_append_getElem (show m < O.length by omega), ← List.drop_eq_getElem_cons (show m < O.length by omega), List.append_assoc]
  congr 1
theorem put_end {O : List En} {p x : En} {j : Nat} (hl : j ≤ O.length) : (O.take j ++ x :: O.drop j).set j p = O.take j ++ p :: O.drop j := by
  rw [List.set_append_right _ _ (by rw [List.length_take]; omega), List.length_take, Nat.min_eq_left hl, Nat.sub_self, List.set_cons_zero]
theorem cut_get {O : List En} {x : En} {j : Nat} (hj : 0 < j) (hl : j ≤ O.length) : (O.take j ++ x :: O.drop j).getD (j - 1) en0 = O.getD (j - 1) en0 := by
  rw [List.getD_eq_getElem?_getD, List.getElem?_append_left (by rw [List.length_take]; omega), List.getElem?_take_of_lt (by omega), ← List.getD_eq_getElem?_getD]
theorem cut_len {O : List En} {x : En} {j : Nat} (hl : j ≤ O.length) : (O.take j ++ x :: O.drop j).length = O.length + 1 := by
  rw [List.length_append, List.length_cons, List.length_take, List.length_drop]; omega

theorem hasF_take {l O : List En} {i : Nat} {c : Int} (hn : (l.map (·.1)).Nodup) (hi : i < l.length) (hp : O.Perm (livF c (l.take i))) : hasF (l[i]).1 O = false := by
  cases hq : hasF (l[i]).1 O with
  | false => rfl
  | true =>
    obtain ⟨e, he⟩ := hasF_mem.1 hq
    have h1 := (List.mem_filter.1 (hp.mem_iff.1 he)).1
    obtain ⟨k, hk, hk2⟩ := List.getElem_of_mem h1
    have hk3 : k < i := by rw [List.length_take] at hk; omega
    rw [List.getElem_take] at hk2
    have := hasF_nodup hn hi rfl k (by omega) (by omega)
    rw [getD_eq _ _ (by omega), hk2] at this
    exact absurd rfl this
theorem Oq.addr {w : World} {base n : Nat} {v : Value} {L : List En} (h : Oq w base v L) (hn : L.length = n + 1) : ∃ g c, v = .slice (some ⟨g, 0, none⟩) (n + 1) c ∧ base ≤ g ∧ g < w.heap.size := by
  rcases h.2 with ⟨_, h0⟩ | ⟨g, cap, cur, rfl, hg, hh, _⟩
  · omega
  · exact ⟨g, cap, by rw [hn], hg, (Array.getElem?_eq_some_iff.1 hh).1⟩
theorem Oq.cell {w : World} {base g n c : Nat} {L : List En} (hn : L.length = n) (h : Oq w base (.slice (some ⟨g, 0, none⟩) n c) L) {i : Nat} (hi : i < L.length) : w.cell? ⟨g, i * 2, none⟩ = some (.string ⟨(L.getD i en0).1.toArray⟩) ∧ w.cell? ⟨g, i * 2 + 1, none⟩ = some (.int .i64 (L.getD i en0).2) := by
  obtain ⟨ao, c', e, hr⟩ := h.rd
  cases e
  rcases hr with h0 | ⟨g', e, _, hc⟩
  · rw [h0] at hi; simp at hi
  · cases e
    exact hc i hi
theorem live_snoc {l O : List En} {i : Nat} {c : Int} {p : En} (hi : i < l.length) (he : l[i] = p) (hS : Srt O) (hp : O.Perm (livF c (l.take i))) (hf : hasF p.1 O = false) (hc : c ≤ p.2) : Srt (insF p.1 p.2 O) ∧ (insF p.1 p.2 O).Perm (livF c (l.take (i + 1))) := by
  refine ⟨hS.ins hf, ?_⟩
  rw [List.take_succ_eq_append_getElem hi, he, livF_snoc, show livF c [p] = [p] by simp [livF, hc]]
  exact (ins_perm _ _ _).trans ((hp.cons _).trans (List.perm_append_singleton _ _).symm)
theorem dead_snoc {l O : List En} {i : Nat} {c : Int} {p : En} (hi : i < l.length) (he : l[i] = p) (hp : O.Perm (livF c (l.take i))) (hc : ¬ c ≤ p.2) : O.Perm (livF c (l.take (i + 1))) := by
  rw [List.take_succ_eq_append_getElem hi, he, livF_snoc, show livF c [p] = [] by simp [livF, hc], List.append_nil]
  exact hp

set_option maxHeartbeats 4000000 in
theorem rkept_any (gm : Nat) (has : Bool) (clk : Int) (ao : Option Addr) (cap : Nat) (l M : List En) (w : World) (h : Mok w gm has clk ao cap l) (hl : l.length ≤ 100000000) (hnd0 : (l.map (·.1)).Nodup) (hM0 : Srt M) (hp0 : M.Perm (livF clk l)) :
    Calls Try.prog 45 #[.pointer (some ⟨gm, 0, none⟩)] w fun e w' => ∃ v, e = .returned v ∧ Oq w' w.heap.size v M ∧ Below w.heap.size w w' := by
  have hm : Hid (Mok w gm has clk ao cap l) := h
  have hnd : Hid ((l.map (·.1)).Nodup) := hnd0
  have hM : Hid (Srt M) := hM0
  have hp : Hid (M.Perm (livF clk l)) := hp0
  clear h hnd0 hM0 hp0
  go_enter Try.func45, Try.ntmps45
  go_wp2_with fail
  go_loopw [3, 4] (fun s3 s wr => ∃ (i : Nat) (O : List En), s = .int .i64 (i : Int) ∧ i ≤ l.length ∧ Oq wr w.heap.size s3 O ∧ Hid (Srt O ∧ O.Perm (livF clk (l.take i))) ∧ Below w.heap.size w wr) (fun _ s _ => l.length - (intOf s).toNat)
  case atStart => exact ⟨0, [], rfl, Nat.zero_le _, Oq.nil _ _, ⟨List.Pairwise.nil, by simp [livF]⟩, Below.refl _ _⟩
  case round =>
    obtain ⟨i, O, rfl, hi, hO', hS, hb'⟩ := hrel
    obtain ⟨ao2, c2, hv2, _⟩ := hO'.rd
    subst hv2
    have hOl : O.length ≤ l.length := by
      have := hS.out.2.length_eq
      have := livF_le clk (l.take i)
      rw [List.length_take] at this
      omega
    have hO : Hid (Oq wr w.heap.size (.slice ao2 O.length c2) O) := hO'
    have hb : Hid (Below w.heap.size w wr) := hb'
    have hmr : Bl 74 wr gm [.bool has, .int .i64 clk, .slice ao l.length cap] := hm.out.cells.below hb' hm.out.cells.lt
    have m1 := hmr.cell 1 (by simp)
    have m2 := hmr.cell 2 (by simp)
    simp only [List.getElem_cons_zero, List.getElem_cons_succ] at m1 m2
    have hmh : Hid (Bl 74 wr gm [.bool has, .int .i64 clk, .slice ao l.length cap]) := hmr
    clear hO' hb' hmr
    by_cases hlt : i < l.length
    · rcases hm.out.all with h0 | ⟨g, rfl, hg, hc⟩
      · rw [h0] at hlt; simp at hlt
      have hcw : Hid (∀ w', Below w.heap.size w w' → ∀ k, k < l.length → w'.cell? ⟨g, k * 2, none⟩ = some (.string ⟨(l.getD k en0).1.toArray⟩) ∧ w'.cell? ⟨g, k * 2 + 1, none⟩ = some (.int .i64 (l.getD k en0).2)) := fun w' hb' k hk =>
        ⟨cell_but (hc k hk).1 fun _ => hb'.block g hg, cell_but (hc k hk).2 fun _ => hb'.block g hg⟩
      have hme : Hid (∀ w', Below w.heap.size w w' → Bl 74 w' gm [.bool has, .int .i64 clk, .slice (some ⟨g, 0, none⟩) l.length cap]) := fun w' hb' => hm.out.cells.below hb' hm.out.cells.lt
      clear hc
      obtain ⟨c0, c1⟩ := hcw.out wr hb.out i hlt
      have hne : Hid (∀ k, k < l.length → k ≠ i → (l.getD k en0).1 ≠ (l.getD i en0).1) := by
        have := hasF_nodup hnd.out hlt rfl
        rw [← getD_eq l _ hlt] at this
        exact this
      have hnf : Hid (hasF (l.getD i en0).1 O = false) := by
        have := hasF_take hnd.out hlt hS.out.2
        rw [← getD_eq l _ hlt] at this
        exact this
      obtain ⟨p, hpe⟩ : ∃ p, l.getD i en0 = p := ⟨_, rfl⟩
      have hpi : Hid (l[i] = p) := by show _ = _; rw [← hpe, getD_eq _ _ hlt]
      have hpd : Hid (l.getD i en0 = p) := hpe
      rw [hpe] at c0 c1 hnf hne
      clear hpe
      obtain ⟨nm, en⟩ := p
      simp only at c0 c1 hnf hne
      have hii : (i : Int) < (l.length : Int) := by omega
      go_wp2_with fail
      go_loopw [5, 6] (fun s5 s wx => ∃ (k q : Nat), s = .int .i64 (k : Int) ∧ s5 = .bool true ∧ i < k ∧ k ≤ l.length ∧ wx = wr.drewN q) (fun _ s _ => l.length - (intOf s).toNat)
      case atStart => exact ⟨i + 1, 0, by go_num, rfl, by omega, by omega, rfl⟩
      case round =>
        obtain ⟨k, q, rfl, rfl, hik, hkl, rfl⟩ := hrel
        by_cases hlk : k < l.length
        · obtain ⟨d0, d1⟩ := hcw.out wr hb.out k hlk
          have hnk := hne.out k hlk (by omega)
          generalize l.getD k en0 = p2 at d0 d1 hnk
          obtain ⟨nm2, en2⟩ := p2
          simp only at d0 d1 hnk
          have qs : (nm2 == nm) = false := by simpa using hnk
          have hkk : (k : Int) < (l.length : Int) := by omega
          clear hnk d1
          go_wp2_with fail
          go_quiet (fail)
          go_wp2_with fail
          go_roundw
          case rel => exact ⟨k + 1, _, by go_num, rfl, by omega, by omega, rfl⟩
          case measure => simp [intOf]; omega
        · obtain rfl : k = l.length := by omega
          clear hlk hik
          by_cases hlv : clk ≤ en
          · have qd : decide (en < clk) = false := by simpa using hlv
            have hSn : Hid (Srt (insF nm en O) ∧ (insF nm en O).Perm (livF clk (l.take (i + 1)))) := live_snoc hlt hpi.out hS.out.1 hS.out.2 hnf.out hlv
            have hSo : Hid (Srt O) := hS.out.1
            clear hS hlv
            go_wp2_with fail
            go_quiet (fail)
            go_wp2_with (at_builtin; refine append_rq rfl (.tmp 64) (.tmp 72) rfl w.heap.size _ O (nm, en) rfl hO.out rfl (by omega) hb.out.size ?_; intro v7 w7 h7 hc7; have hO7 : Hid (Oq w7 w.heap.size v7 (O ++ [(nm, en)])) := h7; have hb7 : Hid (Below w.heap.size w w7) := chf_new (below_drewN hb.out _) hc7 (own_block hO.out); obtain ⟨g7, c7, e7, hg7, hgl7⟩ := hO7.out.addr (n := O.length) (by simp); subst e7; clear h7 hc7)
            clear c0 c1 m1 m2
            go_loopw [7] (fun s wx => ∃ (j : Nat) (x : En), s = .int .i64 (j : Int) ∧ j ≤ O.length ∧ Oq wx w.heap.size (.slice (some ⟨g7, 0, none⟩) (O.length + 1) c7) (O.take j ++ x :: O.drop j) ∧ Hid (∀ q ∈ O.drop j, bytesBefore nm q.1 = true) ∧ Below w.heap.size w wx) (fun s _ => (intOf s).toNat)
            case atStart => exact ⟨O.length, (nm, en), rfl, Nat.le_refl _, by rw [List.take_length, List.drop_length]; exact hO7.out, fun q hq => by simp at hq, hb7.out⟩
            case round =>
              obtain ⟨j, x, rfl, hj, hO8', hD8, hb8'⟩ := hrel
              have hO8 : Hid (Oq wr w.heap.size (.slice (some ⟨g7, 0, none⟩) (O.length + 1) c7) (O.take j ++ x :: O.drop j)) := hO8'
              have hb8 : Hid (Below w.heap.size w wr) := hb8'
              clear hO8' hb8' hO7 hb7 hb hgl7
              have hmx := hme.out wr hb8.out
              have m2 := hmx.cell 2 (by simp)
              simp only [List.getElem_cons_zero, List.getElem_cons_succ] at m2
              obtain ⟨c0, c1⟩ := hcw.out wr hb8.out i hlt
              rw [hpd.out] at c0 c1
              simp only at c0 c1
              clear hmx
              by_cases hcut : ∃ m, j = m + 1 ∧ bytesBefore nm (O.getD m en0).1 = true
              · obtain ⟨m, rfl, hbm⟩ := hcut
                obtain ⟨r0, r1⟩ := hO8.out.cell (i := m) (cut_len hj) (by rw [cut_len hj]; omega)
                obtain ⟨s0, s1⟩ := hO8.out.cell (i := m + 1) (cut_len hj) (by rw [cut_len hj]; omega)
                generalize (O.take (m + 1) ++ x :: O.drop (m + 1)).getD (m + 1) en0 = x9 at s0 s1
                have ht := hO8.out.there (i := m + 1) (cut_len hj) (by rw [cut_len hj]; omega)
                rw [show (O.take (m + 1) ++ x :: O.drop (m + 1)).getD m en0 = O.getD m en0 from cut_get (by omega) hj] at r0 r1
                have hx8 : Hid (∀ q, Oq (((wr.drewN q).setCell ⟨g7, (m + 1) * 2, none⟩ (.string ⟨(O.getD m en0).1.toArray⟩)).setCell ⟨g7, (m + 1) * 2 + 1, none⟩ (.int .i64 (O.getD m en0).2)) w.heap.size (.slice (some ⟨g7, 0, none⟩) (O.length + 1) c7) (O.take m ++ (O.getD m en0) :: O.drop m) ∧ Below w.heap.size w (((wr.drewN q).setCell ⟨g7, (m + 1) * 2, none⟩ (.string ⟨(O.getD m en0).1.toArray⟩)).setCell ⟨g7, (m + 1) * 2 + 1, none⟩ (.int .i64 (O.getD m en0).2))) := fun q => by
                  have := (hO8.out.drewN q).put (i := m + 1) (cut_len hj) (by rw [cut_len hj]; omega) (O.getD m en0)
                  have e := put_cut (O := O) (x := x) (j := m + 1) (by omega) hj
                  rw [Nat.add_sub_cancel] at e
                  rw [e] at this
                  exact ⟨this.1, (below_drewN hb8.out q).grown this.2 hb8.out.size (fun k hk => by have := Option.some.inj hk; omega)⟩
                have hD9 : Hid (∀ q ∈ O.drop m, bytesBefore nm q.1 = true) := by
                  intro q hq
                  rw [List.drop_eq_getElem_cons (show m < O.length by omega), ← getD_eq O en0 (show m < O.length by omega)] at hq
                  rcases List.mem_cons.1 hq with rfl | hq
                  · exact hbm
                  · exact hD8.out q hq
                obtain ⟨q3, hq3⟩ : ∃ q3, O.getD m en0 = q3 := ⟨_, rfl⟩
                rw [hq3] at r0 r1 hbm hx8
                have hq3h : Hid (O.getD m en0 = q3) := hq3
                clear hq3 hO8 hD8
                obtain ⟨nm3, en3⟩ := q3
                simp only at r0 r1 hbm
                have f0 := (ht 0 (by omega)).2
                have f1 := (ht 1 (by omega)).2
                rw [Nat.add_zero] at f0
                have qg : Op.bytesLess nm3 nm = false := by rw [less_before]; exact bb_asymm hbm
                have qe : (nm3 == nm) = false := by simpa using fun e : nm3 = nm => bb_ne hbm e.symm
                have hjO : m + 1 < O.length + 1 := by omega
                obtain ⟨j, hjm⟩ : ∃ j, m + 1 = j := ⟨_, rfl⟩
                rw [hjm] at hx8 ht hj hjO s0 s1 f0 f1 ⊢
                have hji : (j : Int) - 1 = (m : Int) := by omega
                have hj0 : 0 < j := by omega
                have hjmh : Hid (m + 1 = j) := hjm
                clear hbm hjm
                go_wp2_with fail
                go_quiet (fail)
                go_wp2_with fail
                go_roundw
                case rel => exact ⟨m, (nm3, en3), by go_num, by omega, by rw [← hq3h.out] at hx8 ⊢; exact (hx8.out _).1, hD9, (hx8.out _).2⟩
                case measure => simp [intOf]; omega
              · have hbj : ∀ _ : 0 < j, bytesBefore nm (O.getD (j - 1) en0).1 = false := by
                  intro h0
                  obtain ⟨m, rfl⟩ : ∃ m, j = m + 1 := ⟨j - 1, by omega⟩
                  cases hq : bytesBefore nm (O.getD (m + 1 - 1) en0).1 with
                  | false => rfl
                  | true => exact absurd ⟨m, rfl, hq⟩ hcut
                have ht := hO8.out.there (i := j) (cut_len hj) (by rw [cut_len hj]; omega)
                obtain ⟨s0, s1⟩ := hO8.out.cell (i := j) (cut_len hj) (by rw [cut_len hj]; omega)
                generalize (O.take j ++ x :: O.drop j).getD j en0 = x9 at s0 s1
                have f0 := (ht 0 (by omega)).2
                have f1 := (ht 1 (by omega)).2
                rw [Nat.add_zero] at f0
                have hjO : j < O.length + 1 := by omega
                have hx8 : Hid (∀ q, Oq (((wr.drewN q).setCell ⟨g7, j * 2, none⟩ (.string ⟨nm.toArray⟩)).setCell ⟨g7, j * 2 + 1, none⟩ (.int .i64 en)) w.heap.size (.slice (some ⟨g7, 0, none⟩) (O.length + 1) c7) (insF nm en O) ∧ Below w.heap.size w (((wr.drewN q).setCell ⟨g7, j * 2, none⟩ (.string ⟨nm.toArray⟩)).setCell ⟨g7, j * 2 + 1, none⟩ (.int .i64 en))) := fun q => by
                  have := (hO8.out.drewN q).put (i := j) (cut_len hj) (by rw [cut_len hj]; omega) (nm, en)
                  rw [put_end hj, ← ins_cut hSo.out hnf.out hj hD8.out hbj] at this
                  exact ⟨this.1, (below_drewN hb8.out q).grown this.2 hb8.out.size (fun k hk => by have := Option.some.inj hk; omega)⟩
                by_cases hj0 : 0 < j
                · obtain ⟨m, hjm⟩ : ∃ m, j = m + 1 := ⟨j - 1, by omega⟩
                  have hji : (j : Int) - 1 = (m : Int) := by omega
                  obtain ⟨r0, r1⟩ := hO8.out.cell (i := m) (cut_len hj) (by rw [cut_len hj]; omega)
                  have e := cut_get (x := x) hj0 hj
                  rw [hjm, Nat.add_sub_cancel, ← hjm] at e
                  rw [e] at r0
                  have hbm := hbj hj0
                  rw [hjm, Nat.add_sub_cancel] at hbm
                  have hme : (O.getD m en0) ∈ O := by rw [getD_eq _ _ (show m < O.length by omega)]; exact List.getElem_mem _
                  generalize O.getD m en0 = q3 at r0 hbm hme
                  obtain ⟨nm3, en3⟩ := q3
                  simp only at r0 hbm
                  have qn : nm3 ≠ nm := fun e => by
                    have := hasF_mem.2 ⟨en3, hme⟩
                    rw [e, hnf.out] at this
                    cases this
                  have qg : Op.bytesLess nm3 nm = true := by rw [less_before]; exact bb_total hbm (fun e => qn e.symm)
                  have qe : (nm3 == nm) = false := by simpa using qn
                  clear hbm hme qn e r1 hbj hjm hcut hD8 hO8
                  go_wp2_with fail
                  go_quiet (fail)
                  go_wp2_with fail
                  go_roundw
                  case rel => exact ⟨i + 1, insF nm en O, by go_num, by omega, (hx8.out _).1, hSn, (hx8.out _).2⟩
                  case measure => simp [intOf]; omega
                · obtain rfl : j = 0 := by omega
                  clear hbj hcut hD8 hO8 hj0
                  go_wp2_with fail
                  go_quiet (fail)
                  go_wp2_with fail
                  go_roundw
                  case rel => exact ⟨i + 1, insF nm en O, by go_num, by omega, (hx8.out _).1, hSn, (hx8.out _).2⟩
                  case measure => simp [intOf]; omega
          · have qd : decide (en < clk) = true := by simpa using hlv
            have hS2 : Hid (Srt O ∧ O.Perm (livF clk (l.take (i + 1)))) := ⟨hS.out.1, dead_snoc hlt hpi.out hS.out.2 hlv⟩
            clear hS hlv
            go_wp2_with fail
            go_quiet (fail)
            go_wp2_with fail
            go_roundw
            case rel => exact ⟨i + 1, O, by go_num, by omega, hO.out, hS2, below_drewN hb.out _⟩
            case measure => simp [intOf]; omega
    · obtain rfl : i = l.length := by omega
      have hSS := hS.out
      rw [List.take_length] at hSS
      have e : O = M := srt_perm hSS.1 hM.out (hSS.2.trans hp.out.symm)
      subst e
      clear hS hSS
      go_wp2_with fail
      go_ret
      exact ⟨_, rfl, hO.out, hb.out⟩

end Go.Proofs.Ytidmjojlhcgedaa
