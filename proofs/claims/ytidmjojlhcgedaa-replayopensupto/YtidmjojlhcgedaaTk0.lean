import Derived.Test.YtidmjojlhcgedaaTj
namespace Go.Proofs.Ytidmjojlhcgedaa
open Go.RowKit Go.Maps
set_option maxRecDepth 100000

/-- A call of a script, a book before and behind it. -/
def stepB (b : Bk) (s : Stp) : Bk := if s.k = 1 then (takeF b s.j s.u s.n).2 else b
theorem stepB_ok {b : Bk} (h : BkOk b) {s : Stp} (hs : StpOk s) : BkOk (stepB b s) := by
  unfold stepB
  split
  · exact takeF_ok h _ _ _ hs.u hs.n
  · exact h

set_option maxHeartbeats 4000000 in
theorem plays_any (B0 bb mb gm : Nat) (b : Bk) (s : Stp) (w : World) (hB' : Bok w bb mb b) (hM' : Mq w B0 gm b) (hk' : BkOk b) (hs' : StpOk s) (hB0 : B0 ≤ w.heap.size) (hbb : B0 ≤ bb) (hmb : B0 ≤ mb) :
    Calls Try.prog 29 #[.pointer (some ⟨bb, 0, none⟩), .pointer (some ⟨gm, 0, none⟩), .agg #[.int .i64 s.k, .string ⟨s.j.toArray⟩, .int .i64 s.u, .int .i64 s.n]] w fun e w' => e = .returned (.bool true) ∧ Bok w' bb mb (stepB b s) ∧ Mq w' B0 gm (stepB b s) ∧ Below B0 w w' ∧ Fr bb mb w w' := by
  have hB : Hid (Bok w bb mb b) := hB'
  have hM : Hid (Mq w B0 gm b) := hM'
  have hk : Hid (BkOk b) := hk'
  have hs : Hid (StpOk s) := hs'
  clear hB' hM' hk' hs'
  have hfr : Hid (∀ k, (k = bb ∨ k = mb) → B0 ≤ k) := by rintro k (rfl | rfl) <;> assumption
  obtain ⟨sk, sj, su, sn⟩ := s
  dsimp only
  by_cases h1 : sk = 1
  · subst h1
    rw [show stepB b ⟨1, sj, su, sn⟩ = (takeF b sj su sn).2 from rfl]
    have hT : Hid (takeF b sj su sn = ((takeF b sj su sn).1, (takeF b sj su sn).2)) := rfl
    have TC : Hid (∀ w', Bok w' bb mb b → Calls Try.prog 12 #[.pointer (some ⟨bb, 0, none⟩), .string ⟨sj.toArray⟩, .int .i64 su, .int .i64 sn] w' fun e w'' => e = .returned (.int .i64 (takeF b sj su sn).1) ∧ Bok w'' bb mb (takeF b sj su sn).2 ∧ Chf (fun k => k = bb ∨ k = mb) w' w'') := fun w' h => take_any bb mb b sj su sn w' h hk.out hs.out.u
    have MC : Hid (∀ w', Mq w' B0 gm b → B0 ≤ w'.heap.size → Calls Try.prog 47 #[.pointer (some ⟨gm, 0, none⟩), .string ⟨sj.toArray⟩, .int .i64 su, .int .i64 sn] w' fun e w'' => e = .returned (.int .i64 (takeF b sj su sn).1) ∧ Mq w'' B0 gm (takeF b sj su sn).2 ∧ Below B0 w' w'' ∧ Md w' w'') := fun w' h h0 => rtake_any B0 gm b sj su sn w' h h0 hk.out hs.out.n
    generalize takeF b sj su sn = P at *
    obtain ⟨c, b2⟩ := P
    dsimp only at TC MC ⊢
    clear hT hs
    have qc : (c == c) = true := by simp
    go_enter Try.func29, Try.ntmps29
    go_upto_region 1 with fail
    obtain ⟨w1, hw1⟩ : ∃ w1, w.alloc (.cells #[.int .i64 1, .string ⟨sj.toArray⟩, .int .i64 su, .int .i64 sn] 27) = w1 := ⟨_, rfl⟩
    have hx0 : Bl 27 w1 w.heap.size [.int .i64 1, .string ⟨sj.toArray⟩, .int .i64 su, .int .i64 sn] := by rw [← hw1]; exact alloc_bl w [_, _, _, _] 27
    have hb01 : Below w.heap.size w w1 := hw1 ▸ alloc_below _ _
    have hB1 : Hid (Bok w1 bb mb b) := hB.out.below hb01 hB.out.lt hB.out.lt2
    have hM1 : Hid (Mq w1 B0 gm b) := hM.out.below hb01 (Nat.le_refl _)
    have hb1 : Hid (Below B0 w w1) := hb01.mono hB0
    have hf1 : Hid (Fr bb mb w w1) := Fr.of_below hb01
    obtain ⟨gx, hgx⟩ : ∃ gx, w.heap.size = gx := ⟨_, rfl⟩
    rw [hgx] at hx0
    rw [hw1, hgx]
    have hgx0 : Hid (w.heap.size ≤ gx) := by rw [← hgx]; exact Nat.le_refl _
    have hxh : Hid (Bl 27 w1 gx [.int .i64 1, .string ⟨sj.toArray⟩, .int .i64 su, .int .i64 sn]) := hx0
    have c0 := hx0.cell 0 (by simp)
    have c1 := hx0.cell 1 (by simp)
    have c2 := hx0.cell 2 (by simp)
    have c3 := hx0.cell 3 (by simp)
    simp only [List.getElem_cons_zero, List.getElem_cons_succ] at c0 c1 c2 c3
    clear hx0 hb01 hw1 hgx hB hM
    go_wp2_with fail
    refine (TC.out w1 hB1.out).mono ?_
    rintro e w2 ⟨rfl, hB2', hc2⟩
    have hB2 : Hid (Bok w2 bb mb b2) := hB2'
    have hM2 : Hid (Mq w2 B0 gm b) := hM1.out.book hB1.out hc2
    have hb2 : Hid (Below B0 w w2) := hb1.out.trans (hc2.below (Nat.le_trans hB0 hb1.out.size) hfr.out)
    have hf2 : Hid (Fr bb mb w w2) := hf1.out.trans (Fr.of_chf hc2)
    have hx2 : Bl 27 w2 gx [.int .i64 1, .string ⟨sj.toArray⟩, .int .i64 su, .int .i64 sn] := hxh.out.chf hc2 (by have := hB1.out.cells; rintro (rfl | rfl); (have h1 := hxh.out; have h2 := hB1.out.cells; unfold Bl at h1 h2; rw [h1] at h2; simp at h2); (obtain ⟨es, clock, h2, _⟩ := hB1.out.own; have h1 := hxh.out; unfold Bl at h1; rw [h1] at h2; cases h2))
    clear c0 c1 c2 c3 hB1 hM1 hb1 hf1 hxh hB2' hc2 TC
    have c1 := hx2.cell 1 (by simp)
    have c2 := hx2.cell 2 (by simp)
    have c3 := hx2.cell 3 (by simp)
    simp only [List.getElem_cons_zero, List.getElem_cons_succ] at c1 c2 c3
    clear hx2
    go_wp2_with fail
    refine (MC.out w2 hM2.out (Nat.le_trans hB0 hb2.out.size)).mono ?_
    rintro e w3 ⟨rfl, hM3', hb3', hm3'⟩
    have hB3 : Hid (Bok w3 bb mb b2) := hB2.out.md hm3'
    have hM3 : Hid (Mq w3 B0 gm b2) := hM3'
    have hb3 : Hid (Below B0 w w3) := hb2.out.trans hb3'
    have hf3 : Hid (Fr bb mb w w3) := hf2.out.trans (Fr.of_md hm3')
    clear c1 c2 c3 hM3' hb3' hm3' MC hB2 hM2 hb2 hf2
    go_wp2_with fail
    go_ret
    exact ⟨by go_num, hB3.out, hM3.out, hb3.out, hf3.out⟩
  rw [show stepB b ⟨sk, sj, su, sn⟩ = b from if_neg h1]
  by_cases h2 : sk = 2
  · subst h2
    have HC : Hid (∀ w', Bok w' bb mb b → Calls Try.prog 17 #[.pointer (some ⟨bb, 0, none⟩), .string ⟨sj.toArray⟩] w' fun e w'' => e = .returned (.bool (hasF sj b.L)) ∧ w'' = w') := fun w' h => has_any sj bb mb b w' h hs.out.j
    have MC : Hid (∀ w', Mq w' B0 gm b → Calls Try.prog 48 #[.pointer (some ⟨gm, 0, none⟩), .string ⟨sj.toArray⟩] w' fun e w'' => e = .returned (.bool (hasF sj b.L)) ∧ ∃ q, w'' = w'.drewN q) := fun w' h => rhasq_any B0 gm b sj w' h hk.out
    obtain ⟨hb9, hhb⟩ : ∃ x, hasF sj b.L = x := ⟨_, rfl⟩
    rw [hhb] at HC MC
    clear hhb
    have qc : (hb9 == hb9) = true := by simp
    go_enter Try.func29, Try.ntmps29
    go_upto_region 1 with fail
    obtain ⟨w1, hw1⟩ : ∃ w1, w.alloc (.cells #[.int .i64 2, .string ⟨sj.toArray⟩, .int .i64 su, .int .i64 sn] 27) = w1 := ⟨_, rfl⟩
    have hx0 : Bl 27 w1 w.heap.size [.int .i64 2, .string ⟨sj.toArray⟩, .int .i64 su, .int .i64 sn] := by rw [← hw1]; exact alloc_bl w [_, _, _, _] 27
    have hb01 : Below w.heap.size w w1 := hw1 ▸ alloc_below _ _
    have hB1 : Hid (Bok w1 bb mb b) := hB.out.below hb01 hB.out.lt hB.out.lt2
    have hM1 : Hid (Mq w1 B0 gm b) := hM.out.below hb01 (Nat.le_refl _)
    have hb1 : Hid (Below B0 w w1) := hb01.mono hB0
    have hf1 : Hid (Fr bb mb w w1) := Fr.of_below hb01
    obtain ⟨gx, hgx⟩ : ∃ gx, w.heap.size = gx := ⟨_, rfl⟩
    rw [hgx] at hx0
    rw [hw1, hgx]
    have hgx0 : Hid (w.heap.size ≤ gx) := by rw [← hgx]; exact Nat.le_refl _
    have hxh : Hid (Bl 27 w1 gx [.int .i64 2, .string ⟨sj.toArray⟩, .int .i64 su, .int .i64 sn]) := hx0
    have c0 := hx0.cell 0 (by simp)
    have c1 := hx0.cell 1 (by simp)
    have c2 := hx0.cell 2 (by simp)
    have c3 := hx0.cell 3 (by simp)
    simp only [List.getElem_cons_zero, List.getElem_cons_succ] at c0 c1 c2 c3
    clear hx0 hb01 hw1 hgx hB hM
    go_wp2_with fail
    have c1h : Hid (w1.cell? ⟨gx, 1, none⟩ = some (.string ⟨sj.toArray⟩)) := c1
    refine wp_region_K 7 (fun (w' : World) => w'.cell? ⟨gx, 1, none⟩ = some (.string ⟨sj.toArray⟩)) (by kernel_rfl) ?_
    have hHeld : ((fun (w' : World) => w'.cell? ⟨gx, 1, none⟩ = some (.string ⟨sj.toArray⟩))) (World.drew w1) := c1h.out
    refine wpAnyK_take0 0 (v := ?v1) rfl (by kernel_rfl) (fun _ _ _ h => h) (Or.inl ⟨by rfl, ?hy1⟩) (fun _ => hHeld) ?_
    case hy1 => (intro w hSw; go_simp; try with_reducible rfl)
    try simp only [Act.put, List.setIfInBounds_toArray, List.set_cons_zero, List.set_cons_succ]
    refine wpAnyK_take0 1 (v := ?v2) rfl (by kernel_rfl) (fun _ _ _ h => h) (Or.inl ⟨by rfl, ?hy2⟩) (fun _ => hHeld) ?_
    case hy2 => (intro w hSw; go_simp; try with_reducible rfl)
    try simp only [Act.put, List.setIfInBounds_toArray, List.set_cons_zero, List.set_cons_succ]
    refine wpAnyK_take 2 [3, 7] (v := ?v3) rfl (by kernel_rfl) (fun _ _ _ h => h) (Or.inl ⟨by rfl, ?hy3⟩) hHeld ?_
    case hy3 => (intro w hSw; (try dsimp only at hSw); go_simp; try with_reducible rfl)
    try simp only [Act.put, List.setIfInBounds_toArray, List.set_cons_zero, List.set_cons_succ]
    refine wpAnyK_take0 4 (v := ?v4) rfl (by kernel_rfl) (fun _ _ _ h => h) (Or.inl ⟨by rfl, ?hy4⟩) (fun _ => hHeld) ?_
    case hy4 => (intro w hSw; go_simp; try with_reducible rfl)
    try simp only [Act.put, List.setIfInBounds_toArray, List.set_cons_zero, List.set_cons_succ]
    refine wpAnyK_take0 5 (v := ?v5) rfl (by kernel_rfl) (fun _ _ _ h => h) (Or.inl ⟨by rfl, ?hy5⟩) (fun _ => hHeld) ?_
    case hy5 => (intro w hSw; go_simp; try with_reducible rfl)
    try simp only [Act.put, List.setIfInBounds_toArray, List.set_cons_zero, List.set_cons_succ]
    refine wpAnyK_take 6 [7] (v := ?v6) rfl (by kernel_rfl) (fun _ _ _ h => h) (Or.inl ⟨by rfl, ?hy6⟩) hHeld ?_
    case hy6 => (intro w hSw; (try dsimp only at hSw); go_simp; try with_reducible rfl)
    try simp only [Act.put, List.setIfInBounds_toArray, List.set_cons_zero, List.set_cons_succ]
    refine wpAnyK_step 3 rfl (by kernel_rfl) (fun K hK => ?_)
    go_simp
    refine (HC.out (World.drew w1) (hB1.out.below (below_drewN (Below.refl _ _) 1) hB1.out.lt hB1.out.lt2)).mono ?_
    rintro e w2 ⟨rfl, rfl⟩
    try dsimp only
    refine hK.out _ _ ?hk7 ?_
    case hk7 => exact fun _ => c1h.out
    clear hK K
    try simp only [Act.put, List.setIfInBounds_toArray, List.set_cons_zero, List.set_cons_succ]
    refine wpAnyK_step 7 rfl (by kernel_rfl) (fun K hK => ?_)
    go_simp
    refine (MC.out (World.drew w1) (hM1.out.drewN 1)).mono ?_
    rintro e w3 ⟨rfl, q, rfl⟩
    try dsimp only
    refine hK.out _ _ ?hk8 ?_
    case hk8 => exact (fun h => nomatch (h.symm.trans (show _ = true by kernel_rfl)))
    clear hK K
    try simp only [Act.put, List.setIfInBounds_toArray, List.set_cons_zero, List.set_cons_succ]
    refine wpAnyK_take0 8 (v := ?v9) rfl (by kernel_rfl) (fun _ _ _ h => h) (Or.inl ⟨by rfl, ?hy9⟩) (fun h => nomatch (h.symm.trans (show _ = true by kernel_rfl))) ?_
    case hy9 => (intro w hSw; go_simp; try with_reducible rfl)
    try simp only [Act.put, List.setIfInBounds_toArray, List.set_cons_zero, List.set_cons_succ]
    refine wpAnyK_take0 9 (v := ?v10) rfl (by kernel_rfl) (fun _ _ _ h => h) (Or.inl ⟨by rfl, ?hy10⟩) (fun h => nomatch (h.symm.trans (show _ = true by kernel_rfl))) ?_
    case hy10 => (intro w hSw; go_simp; try with_reducible rfl)
    try simp only [Act.put, List.setIfInBounds_toArray, List.set_cons_zero, List.set_cons_succ]
    refine wpAnyK_done (by kernel_rfl) ?_ _
    go_wp2_with fail
    go_ret
    exact ⟨by go_num, hB1.out.below (below_drewN (Below.refl _ _) _) hB1.out.lt hB1.out.lt2, hM1.out.drewN _, below_drewN hb1.out _, hf1.out.drewN _⟩
  by_cases h3 : sk = 3
  · subst h3
    have TC : Hid (∀ w', Bok w' bb mb b → Mq w' B0 gm b → Calls Try.prog 26 #[.pointer (some ⟨bb, 0, none⟩), .pointer (some ⟨gm, 0, none⟩)] w' fun e w'' => e = .returned (.bool true) ∧ Below w'.heap.size w' w'') := fun w' h h2 => tells_any B0 bb mb gm b w' h h2 hk.out
    go_enter Try.func29, Try.ntmps29
    go_upto_region 1 with fail
    obtain ⟨w1, hw1⟩ : ∃ w1, w.alloc (.cells #[.int .i64 3, .string ⟨sj.toArray⟩, .int .i64 su, .int .i64 sn] 27) = w1 := ⟨_, rfl⟩
    have hx0 : Bl 27 w1 w.heap.size [.int .i64 3, .string ⟨sj.toArray⟩, .int .i64 su, .int .i64 sn] := by rw [← hw1]; exact alloc_bl w [_, _, _, _] 27
    have hb01 : Below w.heap.size w w1 := hw1 ▸ alloc_below _ _
    have hB1 : Hid (Bok w1 bb mb b) := hB.out.below hb01 hB.out.lt hB.out.lt2
    have hM1 : Hid (Mq w1 B0 gm b) := hM.out.below hb01 (Nat.le_refl _)
    have hb1 : Hid (Below B0 w w1) := hb01.mono hB0
    have hf1 : Hid (Fr bb mb w w1) := Fr.of_below hb01
    obtain ⟨gx, hgx⟩ : ∃ gx, w.heap.size = gx := ⟨_, rfl⟩
    rw [hgx] at hx0
    rw [hw1, hgx]
    have hgx0 : Hid (w.heap.size ≤ gx) := by rw [← hgx]; exact Nat.le_refl _
    have hxh : Hid (Bl 27 w1 gx [.int .i64 3, .string ⟨sj.toArray⟩, .int .i64 su, .int .i64 sn]) := hx0
    have c0 := hx0.cell 0 (by simp)
    have c1 := hx0.cell 1 (by simp)
    have c2 := hx0.cell 2 (by simp)
    have c3 := hx0.cell 3 (by simp)
    simp only [List.getElem_cons_zero, List.getElem_cons_succ] at c0 c1 c2 c3
    clear hx0 hb01 hw1 hgx hB hM
    go_wp2_with fail
    refine (TC.out w1 hB1.out hM1.out).mono ?_
    rintro e w2 ⟨rfl, hb2'⟩
    have hB2 : Hid (Bok w2 bb mb b) := hB1.out.below hb2' hB1.out.lt hB1.out.lt2
    have hM2 : Hid (Mq w2 B0 gm b) := hM1.out.below hb2' (Nat.le_refl _)
    have hb2 : Hid (Below B0 w w2) := hb1.out.trans (hb2'.mono (Nat.le_trans hB0 hb1.out.size))
    have hf2 : Hid (Fr bb mb w w2) := hf1.out.trans (Fr.of_below hb2')
    clear c0 c1 c2 c3 hB1 hM1 hb1 hf1 hxh hb2' TC
    go_wp2_with fail
    go_ret
    exact ⟨rfl, hB2.out, hM2.out, hb2.out, hf2.out⟩
  by_cases h4 : sk = 4
  · subst h4
    have HC : Hid (∀ w', Bok w' bb mb b → Calls Try.prog 13 #[.pointer (some ⟨bb, 0, none⟩)] w' fun e w'' => ∃ v', e = .returned v' ∧ OBb w'.heap.size w' w'' v' (imgF b)) := fun w' h => image_any bb mb b w' h hk.out
    have MC : Hid (∀ w', Mq w' B0 gm b → Calls Try.prog 27 #[.pointer (some ⟨gm, 0, none⟩)] w' fun e w'' => ∃ v, e = .returned v ∧ Owb w'' w'.heap.size v (imgF b) ∧ Below w'.heap.size w' w'') := fun w' h => rimage_any B0 gm b w' h hk.out
    have hil := imgF_length hk.out
    generalize imgF b = im at HC MC hil
    go_enter Try.func29, Try.ntmps29
    go_upto_region 1 with fail
    obtain ⟨w1, hw1⟩ : ∃ w1, w.alloc (.cells #[.int .i64 4, .string ⟨sj.toArray⟩, .int .i64 su, .int .i64 sn] 27) = w1 := ⟨_, rfl⟩
    have hx0 : Bl 27 w1 w.heap.size [.int .i64 4, .string ⟨sj.toArray⟩, .int .i64 su, .int .i64 sn] := by rw [← hw1]; exact alloc_bl w [_, _, _, _] 27
    have hb01 : Below w.heap.size w w1 := hw1 ▸ alloc_below _ _
    have hB1 : Hid (Bok w1 bb mb b) := hB.out.below hb01 hB.out.lt hB.out.lt2
    have hM1 : Hid (Mq w1 B0 gm b) := hM.out.below hb01 (Nat.le_refl _)
    have hb1 : Hid (Below B0 w w1) := hb01.mono hB0
    have hf1 : Hid (Fr bb mb w w1) := Fr.of_below hb01
    obtain ⟨gx, hgx⟩ : ∃ gx, w.heap.size = gx := ⟨_, rfl⟩
    rw [hgx] at hx0
    rw [hw1, hgx]
    have hgx0 : Hid (w.heap.size ≤ gx) := by rw [← hgx]; exact Nat.le_refl _
    have hxh : Hid (Bl 27 w1 gx [.int .i64 4, .string ⟨sj.toArray⟩, .int .i64 su, .int .i64 sn]) := hx0
    have c0 := hx0.cell 0 (by simp)
    have c1 := hx0.cell 1 (by simp)
    have c2 := hx0.cell 2 (by simp)
    have c3 := hx0.cell 3 (by simp)
    simp only [List.getElem_cons_zero, List.getElem_cons_succ] at c0 c1 c2 c3
    clear hx0 hb01 hw1 hgx hB hM
    go_wp2_with fail
    refine (HC.out w1 hB1.out).mono ?_
    rintro e w2 ⟨v2, rfl, ho2⟩
    have hO2 : Hid (Owb w2 B0 v2 im) := ho2.own.base (Nat.le_trans hB0 hb1.out.size)
    have hb2' := ho2.bel
    have hB2 : Hid (Bok w2 bb mb b) := hB1.out.below hb2' hB1.out.lt hB1.out.lt2
    have hM2 : Hid (Mq w2 B0 gm b) := hM1.out.below hb2' (Nat.le_refl _)
    have hb2 : Hid (Below B0 w w2) := hb1.out.trans (hb2'.mono (Nat.le_trans hB0 hb1.out.size))
    have hf2 : Hid (Fr bb mb w w2) := hf1.out.trans (Fr.of_below hb2')
    clear c0 c1 c2 c3 hB1 hM1 hb1 hf1 hxh hb2' HC ho2
    go_wp2_with fail
    refine (MC.out w2 hM2.out).mono ?_
    rintro e w3 ⟨v3, rfl, ho3, hb3'⟩
    have hO3 : Hid (Owb w3 B0 v3 im) := ho3.base (Nat.le_trans hB0 hb2.out.size)
    have hO2' : Hid (Owb w3 B0 v2 im) := hO2.out.below hb3' (Nat.le_refl _)
    have hB3 : Hid (Bok w3 bb mb b) := hB2.out.below hb3' hB2.out.lt hB2.out.lt2
    have hM3 : Hid (Mq w3 B0 gm b) := hM2.out.below hb3' (Nat.le_refl _)
    have hb3 : Hid (Below B0 w w3) := hb2.out.trans (hb3'.mono (Nat.le_trans hB0 hb2.out.size))
    have hf3 : Hid (Fr bb mb w w3) := hf2.out.trans (Fr.of_below hb3')
    clear hB2 hM2 hb2 hf2 hb3' MC ho3 hO2
    obtain ⟨a2, cc2, rfl, _, r2⟩ := hO2'.out.nb
    obtain ⟨a3, cc3, rfl, _, r3⟩ := hO3.out.nb
    have SC := same_any a2 a3 cc2 cc3 im im w3 r2 r3 (by omega)
    rw [show decide (im = im) = true by simp] at SC
    clear r2 r3 hO2' hO3
    go_wp2_with fail
    refine SC.mono ?_
    rintro e w4 ⟨rfl, q4, rfl⟩
    go_wp2_with fail
    go_ret
    exact ⟨rfl, hB3.out.below (below_drewN (Below.refl _ _) _) hB3.out.lt hB3.out.lt2, hM3.out.drewN _, below_drewN hb3.out _, hf3.out.drewN _⟩
  · have q1 : (sk == 1) = false := by simpa using h1
    have q2 : (sk == 2) = false := by simpa using h2
    have q3 : (sk == 3) = false := by simpa using h3
    have q4 : (sk == 4) = false := by simpa using h4
    clear h1 h2 h3 h4
    go_enter Try.func29, Try.ntmps29
    go_upto_region 1 with fail
    obtain ⟨w1, hw1⟩ : ∃ w1, w.alloc (.cells #[.int .i64 sk, .string ⟨sj.toArray⟩, .int .i64 su, .int .i64 sn] 27) = w1 := ⟨_, rfl⟩
    have hx0 : Bl 27 w1 w.heap.size [.int .i64 sk, .string ⟨sj.toArray⟩, .int .i64 su, .int .i64 sn] := by rw [← hw1]; exact alloc_bl w [_, _, _, _] 27
    have hb01 : Below w.heap.size w w1 := hw1 ▸ alloc_below _ _
    have hB1 : Hid (Bok w1 bb mb b) := hB.out.below hb01 hB.out.lt hB.out.lt2
    have hM1 : Hid (Mq w1 B0 gm b) := hM.out.below hb01 (Nat.le_refl _)
    have hb1 : Hid (Below B0 w w1) := hb01.mono hB0
    have hf1 : Hid (Fr bb mb w w1) := Fr.of_below hb01
    obtain ⟨gx, hgx⟩ : ∃ gx, w.heap.size = gx := ⟨_, rfl⟩
    rw [hgx] at hx0
    rw [hw1, hgx]
    have hgx0 : Hid (w.heap.size ≤ gx) := by rw [← hgx]; exact Nat.le_refl _
    have hxh : Hid (Bl 27 w1 gx [.int .i64 sk, .string ⟨sj.toArray⟩, .int .i64 su, .int .i64 sn]) := hx0
    have c0 := hx0.cell 0 (by simp)
    have c1 := hx0.cell 1 (by simp)
    have c2 := hx0.cell 2 (by simp)
    have c3 := hx0.cell 3 (by simp)
    simp only [List.getElem_cons_zero, List.getElem_cons_succ] at c0 c1 c2 c3
    clear hx0 hb01 hw1 hgx hB hM
    go_wp2_with fail
    go_ret
    exact ⟨rfl, hB1.out, hM1.out, hb1.out, hf1.out⟩

end Go.Proofs.Ytidmjojlhcgedaa
