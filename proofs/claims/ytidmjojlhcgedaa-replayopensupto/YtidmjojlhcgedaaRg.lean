import Derived.Test.YtidmjojlhcgedaaRf
namespace Go.Proofs.Ytidmjojlhcgedaa
open Go.RowKit Go.Maps Go.Shelf
open Go.Proofs (encStr)
set_option maxRecDepth 100000

/-- A row of strings. -/
def RdS (w : World) (ao : Option Addr) (ks : List (List UInt8)) : Prop :=
  ks = [] ∨ ∃ g vs, ao = some ⟨g, 0, none⟩ ∧ Bl 9 w g vs ∧ ∀ j, j < ks.length → vs[j]? = some (.string ⟨(ks.getD j []).toArray⟩)
theorem RdS.kd {w w' : World} {ao : Option Addr} {ks : List (List UInt8)} (h : RdS w ao ks) (hk : Kd w w') : RdS w' ao ks := by
  rcases h with h | ⟨g, vs, e, hb, hc⟩
  · exact .inl h
  · exact .inr ⟨g, vs, e, hb.kd hk (by decide), hc⟩
theorem RdS.cell {w : World} {ao : Option Addr} {ks : List (List UInt8)} (h : RdS w ao ks) {j : Nat} (hj : j < ks.length) : ∃ g, ao = some ⟨g, 0, none⟩ ∧ w.cell? ⟨g, j, none⟩ = some (.string ⟨(ks.getD j []).toArray⟩) := by
  rcases h with h | ⟨g, vs, e, hb, hc⟩
  · subst h; simp at hj
  · refine ⟨g, e, ?_⟩
    have h1 := hc j hj
    obtain ⟨hl, h2⟩ := List.getElem?_eq_some_iff.1 h1
    rw [hb.cell j hl, h2]

theorem rows_of {w : World} {base : Nat} {v : Value} {ks : List (List UInt8)} (h : w.ownsRow base 9 1 v ks.length (ks.map encStr)) : ∃ ao c, v = .slice ao ks.length c ∧ RdS w ao ks := by
  rcases h.2 with ⟨rfl, h0⟩ | ⟨g, cap, cur, rfl, hg, hh, hn, hc, hsz, ht⟩
  · exact ⟨none, 0, by rw [h0], .inl (List.eq_nil_of_length_eq_zero h0)⟩
  · refine ⟨_, cap, rfl, .inr ⟨g, cur.toList, rfl, hh, fun j hj => ?_⟩⟩
    have h1 : (cur.toList.take (ks.length * 1))[j]? = (ks.map encStr)[j]? := by rw [ht]
    rw [List.getElem?_take, if_pos (by omega)] at h1
    rw [h1, List.getElem?_map, List.getElem?_eq_getElem hj, List.getD_eq_getElem?_getD, List.getElem?_eq_getElem hj]
    rfl

theorem flat_snoc (L : List En) (k : Nat) (h : k < L.length) : (L.take (k + 1)).flatMap nameF = (L.take k).flatMap nameF ++ nameF L[k] := by
  rw [List.take_succ_eq_append_getElem h, List.flatMap_append]; simp

theorem endF_at {L : List En} (hs : Srt L) (k : Nat) (h : k < L.length) : endF L[k].1 L = some L[k].2 := (endF_some hs).2 (List.getElem_mem h)

set_option maxHeartbeats 4000000 in
theorem appendNames_any (bb mb : Nat) (b : Bk) (v : Value) (xs : List UInt8) (w0 w : World) (h : Bok w0 bb mb b) (hk : BkOk b) (hob : OBb w0.heap.size w0 w v xs) (hxl : xs.length ≤ 100) :
    Calls Try.prog 32 #[.pointer (some ⟨bb, 0, none⟩), v] w fun e w' => ∃ v', e = .returned v' ∧ OBb w0.heap.size w0 w' v' (xs ++ tobe 4 b.L.length ++ b.L.flatMap nameF) := by
  have h2 := h.below hob.bel h.lt h.lt2
  have c0 := h2.cells.cell 0 (by simp)
  simp only [List.getElem_cons_zero] at c0
  have hown := h2.own
  have hlen := hk.len
  have HS : Hid (Maps.size (bkD b.L) = b.L.length) := size_bkD b.L
  have hcv : IntKind.u64.wrap (b.L.length : Int) = (b.L.length : Int) := u64_nat (by omega)
  have S1 : Calls Try.prog 34 #[v, .int .u64 (b.L.length : Int), .int .i64 4] w fun e w' => ∃ v', e = .returned v' ∧ OBb w0.heap.size w0 w' v' (xs ++ tobe 4 b.L.length) :=
    appendNumber_any w0.heap.size v xs b.L.length 4 w0 w hob (Nat.le_refl _) (by omega) (by omega) (by omega)
  have hw0 := hob.bel.size
  have hHk : Hid (BkOk b) := hk
  have hHb : Hid (Bok w0 bb mb b) := h
  have hHo : Hid (OBb w0.heap.size w0 w v xs) := hob
  clear hk h hob h2
  obtain ⟨N, hN⟩ : ∃ N, N = b.L.length := ⟨_, rfl⟩
  have hNh : Hid (N = b.L.length) := hN
  rw [← hN] at hcv S1 hown hlen HS
  clear hN
  go_enter Try.func32, Try.ntmps32
  go_wp2_with (at_len; refine wpList_len_own _ rfl _ 61 rfl 9 2 Try.underlying61 _ mb _ (bkD b.L) rfl hown ?_; rw [HS.out])
  refine S1.mono ?_
  rintro e w1 ⟨v1, rfl, hob1⟩
  have hB1 : Hid (Bok w1 bb mb b) := hHb.out.below hob1.bel hHb.out.lt hHb.out.lt2
  have hO1 : Hid (OBb w0.heap.size w0 w1 v1 (xs ++ tobe 4 N)) := hob1
  have d0 := hB1.out.cells.cell 0 (by simp)
  simp only [List.getElem_cons_zero] at d0
  have KC := Try.keys_call (some mb) w1
  have SC := Try.sorted_call mb b.L.length (bkD b.L) (plainElem Try.prog 2) w1 hB1.out.own (by rw [HS.out]; unfold maxLen; omega) (by rw [HS.out]; omega)
  clear hob1 c0 S1 hown
  go_wp2_with fail
  refine KC.mono ?_
  rintro e w2 ⟨rfl, rfl⟩
  go_wp2_with fail
  refine SC.mono ?_
  rintro e w3 ⟨vS, ss, rfl, hperm, hrow, hnil, hbel⟩
  obtain ⟨ks, hks⟩ : ∃ ks, ks = b.L.map (·.1) := ⟨_, rfl⟩
  have hkl : ks.length = N := by rw [hks, List.length_map, hNh.out]
  have hsl : ss.length = N := by rw [hperm.length_eq, keys_bkD, List.length_map, hNh.out]
  rw [show ss.mergeSort (fun x y => decide (x ≤ y)) = ks from by rw [hks]; exact sorted_keys hHk.out.srt hperm, hsl, ← hkl] at hrow
  obtain ⟨aoS, cS, rfl, hRS⟩ := rows_of hrow
  rw [hkl]
  have hb3 : Hid (Below w1.heap.size w1 w3) := (alloc_below w1 _).trans (hbel.mono (by rw [alloc_size]; omega))
  have hw1 : w0.heap.size ≤ w1.heap.size := hO1.out.bel.size
  have hB3 : Hid (Below w0.heap.size w0 w3) := hO1.out.bel.trans (hb3.out.mono hw1)
  have hO3 : Hid (OBb w0.heap.size w3 w3 v1 (xs ++ tobe 4 N)) := ⟨hO1.out.own.below hb3.out (Nat.le_refl _), Below.refl _ _, Kd.refl _⟩
  have hw3 : w0.heap.size ≤ w3.heap.size := hB3.out.size
  have HR : Hid (RdS w3 aoS ks) := hRS
  have hKh : Hid (ks = b.L.map (·.1)) := hks
  have hKlh : Hid (ks.length = N) := hkl
  have hKk : Hid (Kd w0 w3) := hO1.out.kd.trans (Kd.of_below hb3.out)
  clear hrow hbel hnil hperm hsl hRS hks hkl KC SC d0
  go_wp2
  go_loopw [1, 22] (fun s1 s wr => ∃ k : Nat, s = .int .i64 (k : Int) ∧ k ≤ N ∧ OBb w0.heap.size w3 wr s1 (xs ++ tobe 4 N ++ (b.L.take k).flatMap nameF)) (fun _ s _ => N - (intOf s).toNat)
  case atStart => exact ⟨0, rfl, Nat.zero_le _, by simpa using hO3.out⟩
  case round =>
    obtain ⟨k, rfl, hk, hob⟩ := hrel
    have hOr := hob
    have hHr : Hid (OBb w0.heap.size w3 wr _ (xs ++ tobe 4 N ++ (b.L.take k).flatMap nameF)) := hob
    clear hob hOr
    by_cases hlt : k < N
    · have hltL : k < b.L.length := by rw [← hNh.out]; exact hlt
      obtain ⟨g, hao, hcell⟩ := (HR.out.kd hHr.out.kd).cell (j := k) (by rw [hKlh.out]; exact hlt)
      subst hao
      have hkk : ks.getD k [] = (b.L[k]).1 := by rw [hKh.out, List.getD_eq_getElem?_getD, List.getElem?_map, List.getElem?_eq_getElem hltL]; rfl
      rw [hkk] at hcell
      have hE : Hid (endF b.L[k].1 b.L = some b.L[k].2) := endF_at hHk.out.srt k hltL
      have hF : Hid ((b.L.take (k + 1)).flatMap nameF = (b.L.take k).flatMap nameF ++ (tobe 2 b.L[k].1.length ++ b.L[k].1 ++ tobe 8 (u64 b.L[k].2))) := flat_snoc b.L k hltL
      have hnm : b.L[k].1.length ≤ 1024 := hHk.out.nm _ (List.getElem_mem hltL)
      have hfl := names_take hHk.out.nm hHk.out.len k
      generalize (b.L[k]).1 = nm at hcell hE hF hnm
      generalize (b.L[k]).2 = en at hE hF
      generalize (b.L.take k).flatMap nameF = ys at hHr hF hfl
      have hcu := u64_wrap en
      have hul := u64_lt en
      generalize u64 en = U at hcu hul hF
      clear hkk
      have hBr : Hid (Bok wr bb mb b) := hHb.out.below (hB3.out.trans hHr.out.bel) hHb.out.lt hHb.out.lt2
      have hcn : IntKind.u64.wrap (nm.length : Int) = (nm.length : Int) := u64_nat (by omega)
      have hyl : (xs ++ tobe 4 N ++ ys).length ≤ 6000000 := by simp only [List.length_append, tobe_length]; omega
      have A1 := appendNumber_any w0.heap.size _ _ nm.length 2 w3 wr hHr.out hw3 (by omega) (by omega) (by omega)
      go_wp2_with fail
      refine A1.mono ?_
      rintro e w4 ⟨v4, rfl, hob4⟩
      clear A1
      have hO4 : Hid (OBb w0.heap.size w3 w4 v4 (xs ++ tobe 4 N ++ ys ++ tobe 2 nm.length)) := hob4
      clear hob4
      go_wp2_with (first | (at_builtin; refine append_strb rfl _ _ rfl w0.heap.size _ _ nm rfl hO4.out rfl (by simp only [List.length_append, tobe_length] at hyl ⊢; omega) hw3 ?_; intro v5 w5 hob5; have hB5 : Bok w5 bb mb b := hHb.out.below (hB3.out.trans hob5.bel) hHb.out.lt hHb.out.lt2; have e0 := hB5.cells.cell 0 (by simp); simp only [List.getElem_cons_zero] at e0; have hown5 := hB5.own) | (at_lookup; refine wpList_lookup_own_int _ rfl _ _ 61 rfl 9 2 .i64 lawK Try.underlying61 Try.underlying2 (zeroI _) mb b.L.length (bkD b.L) rfl hown5 _ _ rfl (keyS (k := nm) (by omega)) ?_; intro c hat hwc; obtain rfl : c = en := (by rw [at_bkD, hE.out] at hat; simpa using hat.symm)))
      refine (appendNumber_any w0.heap.size v5 _ U 8 w3 w5 hob5 hw3 (by simp only [List.length_append, tobe_length] at hyl ⊢; omega) (by omega) hul).mono ?_
      rintro e w6 ⟨v6, rfl, hob6⟩
      have hO6 : Hid (OBb w0.heap.size w3 w6 v6 (xs ++ tobe 4 N ++ ys ++ tobe 2 nm.length ++ nm ++ tobe 8 U)) := hob6
      clear hob6 hob5 hown5 hB5 e0
      go_wp2
      go_roundw
      case rel =>
        refine ⟨k + 1, by go_num, by omega, ?_⟩
        rw [hF.out]
        have := hO6.out
        simpa [List.append_assoc] using this
      case measure => simp [intOf]; omega
    · obtain rfl : k = N := by omega
      go_wp2
      go_ret
      have hob := hHr.out
      have hl : k = b.L.length := hNh.out
      rw [List.take_of_length_le (Nat.le_of_eq hl.symm), hl] at hob
      exact ⟨_, rfl, ⟨hob.own, hB3.out.trans hob.bel, hKk.out.trans hob.kd⟩⟩

set_option maxHeartbeats 1000000 in
theorem image_any (bb mb : Nat) (b : Bk) (w : World) (h : Bok w bb mb b) (hk : BkOk b) :
    Calls Try.prog 13 #[.pointer (some ⟨bb, 0, none⟩)] w fun e w' => ∃ v', e = .returned v' ∧ OBb w.heap.size w w' v' (imgF b) := by
  have H1 := appendHead_any bb mb b w h
  have hHl := headF_length b.has b.clk
  have H2 : ∀ v1 w1, OBb w.heap.size w w1 v1 (headF b.has b.clk) → Calls Try.prog 32 #[.pointer (some ⟨bb, 0, none⟩), v1] w1 fun e w' => ∃ v', e = .returned v' ∧ OBb w.heap.size w w' v' (bodyF b) := fun v1 w1 hob => appendNames_any bb mb b v1 _ w w1 h hk hob (by omega)
  have hbl := bodyF_length hk
  have HI : Hid (imgF b = bodyF b ++ tobe 8 (sumF (bodyF b))) := rfl
  generalize imgF b = im at HI ⊢
  generalize headF b.has b.clk = hd at H1 H2
  generalize bodyF b = bd at H2 hbl HI
  clear hHl h hk
  go_enter Try.func13, Try.ntmps13
  go_wp2_with fail
  refine H1.mono ?_
  rintro e w1 ⟨v1, rfl, hob1⟩
  go_wp2_with fail
  refine (H2 v1 w1 hob1).mono ?_
  rintro e w2 ⟨v2, rfl, hob2⟩
  clear H1 H2 hob1
  obtain ⟨ao, c, rfl, hc, hr⟩ := hob2.own.nb
  have hO2 : Hid (OBb w.heap.size w w2 (.slice ao bd.length c) bd) := hob2
  clear hob2
  go_wp2_with fail
  refine (sumOf_any ao bd c w2 hr (by omega)).mono ?_
  rintro e w3 ⟨rfl, rfl⟩
  have hsl : sumF bd < 18446744073709551616 := sumF_lt bd
  go_wp2_with fail
  refine (appendNumber_any w.heap.size _ bd (sumF bd) 8 w w3 hO2.out (Nat.le_refl _) (by omega) (by omega) hsl).mono ?_
  rintro e w4 ⟨v4, rfl, hob4⟩
  have hO4 : Hid (OBb w.heap.size w w4 v4 (bd ++ tobe 8 (sumF bd))) := hob4
  clear hob4
  go_wp2
  go_ret
  exact ⟨_, rfl, by rw [HI.out]; exact hO4.out⟩

end Go.Proofs.Ytidmjojlhcgedaa
