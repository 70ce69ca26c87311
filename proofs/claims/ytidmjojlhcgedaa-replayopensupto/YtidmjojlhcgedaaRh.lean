import Derived.Test.YtidmjojlhcgedaaRc
import Derived.Test.YtidmjojlhcgedaaRg
import Derived.Test.YtidmjojlhcgedaaOrk
namespace Go.Proofs.Ytidmjojlhcgedaa
open Go.RowKit Go.Maps Go.Shelf Go.Lib
open Go.Proofs (encStr)
set_option maxRecDepth 100000

theorem sclone_any (l : List UInt8) (w : World) (hl : l.length ≤ 1073741824) : Calls Try.prog 31 #[.string ⟨l.toArray⟩] w fun e w' => e = .returned (.string ⟨l.toArray⟩) ∧ Below w.heap.size w w' := by
  have c : Calls Try.prog 49 #[.string ⟨l.toArray⟩] w fun e w' => e = .returned (.string ⟨l.toArray⟩) ∧ Below w.heap.size w w' :=
    Any.stringslite_Clone Try.laysClone ⟨l.toArray⟩ w (by show l.toArray.size ≤ _; simp; omega)
  go_enter Try.func31, Try.ntmps31
  go_wp2_with fail
  refine c.mono ?_
  rintro e w1 ⟨rfl, hB⟩
  go_wp2
  go_ret
  exact ⟨rfl, hB⟩

/-- What Take answers, and the book behind it. -/
def takeF (b : Bk) (k : List UInt8) (u now : Int) : Int × Bk :=
  if 1024 < k.length then (10, b)
  else if b.has = true ∧ now < b.clk then (162, b)
  else if u < now then (134, ⟨true, now, livF now b.L⟩)
  else if hasF k (livF now b.L) = true then (160, ⟨true, now, livF now b.L⟩)
  else if 4096 ≤ (livF now b.L).length then (161, ⟨true, now, livF now b.L⟩)
  else (0, ⟨true, now, insF k u (livF now b.L)⟩)

theorem takeF_ok {b : Bk} (h : BkOk b) (k : List UInt8) (u now : Int) (hu : I64 u) (hn : I64 now) : BkOk (takeF b k u now).2 := by
  have hl : BkOk ⟨true, now, livF now b.L⟩ := ⟨h.srt.liv now, fun p hp => h.nm p (mem_livF.1 hp).1, fun p hp => ⟨(mem_livF.1 hp).2, (h.ends p (mem_livF.1 hp).1).2⟩, Nat.le_trans (livF_le _ _) h.len, hn, fun e => by cases e⟩
  unfold takeF
  split
  · exact h
  split
  · exact h
  split
  · exact hl
  split
  · exact hl
  split
  · exact hl
  · rename_i h1 h2 h3 h4 h5
    refine ⟨hl.srt.ins (by simpa using h4), fun p hp => ?_, fun p hp => ?_, ?_, hn, fun e => by cases e⟩
    · rcases mem_insF.1 hp with rfl | hp
      · show k.length ≤ 1024; omega
      · exact hl.nm p hp
    · rcases mem_insF.1 hp with rfl | hp
      · exact ⟨by show now ≤ u; omega, hu.2⟩
      · exact hl.ends p hp
    · show (insF k u _).length ≤ 4096
      rw [length_insF]; omega

theorem n_below {w w' : World} {n : Nat} (h : Below (w.drewN n).heap.size (w.drewN n) w') : Below w.heap.size w w' := ⟨h.os, h.tape, h.output, h.size, h.block⟩

set_option maxHeartbeats 4000000 in
/-- The last step of Take. -/
theorem take_in (bb mb : Nat) (b : Bk) (nm : List UInt8) (u now : Int) (w : World) (h : Bok w bb mb b) (hk : BkOk b) (hu : I64 u) (h1 : ¬ 1024 < nm.length) (h2 : ¬ (b.has = true ∧ now < b.clk)) (h3 : ¬ u < now) (h4 : hasF nm (livF now b.L) = false) (h5 : ¬ 4096 ≤ (livF now b.L).length) :
    Calls Try.prog 12 #[.pointer (some ⟨bb, 0, none⟩), .string ⟨nm.toArray⟩, .int .i64 u, .int .i64 now] w fun e w' => e = .returned (.int .i64 0) ∧ Bok w' bb mb ⟨true, now, insF nm u (livF now b.L)⟩ ∧ Chf (fun k => k = bb ∨ k = mb) w w' := by
  have c1 := h.cells.cell 1 (by simp)
  have c2 := h.cells.cell 2 (by simp)
  simp only [List.getElem_cons_zero, List.getElem_cons_succ] at c1 c2
  have MC := moveTo_any bb mb b now w h hk.srt
  have SC := fun w => sclone_any nm w (by omega)
  have hval : plainElem (H := Unit) Try.prog 2 (.int .i64 u) = some (.lit (.int .i64 u), []) := plainElem_int Try.underlying2 (by have := hu; unfold I64 at this; simp only [Lit.wf, Bool.and_eq_true, decide_eq_true_eq]; rw [show IntKind.i64.min = -9223372036854775808 from by decide, show IntKind.i64.max = 9223372036854775807 from by decide]; exact this)
  obtain ⟨b2, hb2⟩ : ∃ b2 : Bk, b2 = ⟨true, now, livF now b.L⟩ := ⟨_, rfl⟩
  have hL2 : Hid (b2.L = livF now b.L) := by rw [hb2]; rfl
  have hc2 : Hid (b2.clk = now) := by rw [hb2]; rfl
  have hh2 : Hid (b2.has = true) := by rw [hb2]; rfl
  rw [← hb2] at MC
  have HC := fun w (hB : Bok w bb mb b2) => has_any nm bb mb b2 w hB (by omega)
  have LC := fun w (hB : Bok w bb mb b2) => len_any bb mb b2 w hB
  rw [show hasF nm b2.L = false from by rw [hL2.out]; exact h4] at HC
  have hlt : b2.L.length < 4096 := by rw [hL2.out]; omega
  have hkH : Hid (BkOk b) := hk
  have h4H : Hid (hasF nm b2.L = false) := by rw [hL2.out]; exact h4
  obtain ⟨bh, bc, bL⟩ := b
  simp only at c1 c2 h2
  clear h hk h4 h5 hb2
  cases bh
  · go_enter Try.func12, Try.ntmps12
    go_wp2_with fail
    refine MC.mono ?_
    rintro e w2 ⟨⟨v2, rfl⟩, hB2', hC2'⟩
    have hB2 : Hid (Bok w2 bb mb b2) := hB2'
    have hC2 : Hid (Chf (fun k => k = bb ∨ k = mb) w w2) := hC2'
    have d0 := hB2'.cells.cell 0 (by simp)
    simp only [List.getElem_cons_zero] at d0
    have HC2 := HC w2 hB2'
    have LC2 := LC w2 hB2'
    clear hB2' hC2' HC LC MC
    go_wp2_with fail
    refine HC2.mono ?_
    rintro e w2' ⟨rfl, rfl⟩
    go_wp2_with fail
    refine LC2.mono ?_
    rintro e w2' ⟨rfl, rfl⟩
    clear HC2 LC2
    have hlt' : ¬ 4096 ≤ b2.L.length := by omega
    go_upto_region 12 with fail
    refine wp_region_K 7 (fun (w' : World) => w'.cell? ⟨bb, 0, none⟩ = some (.map (some mb))) (by kernel_rfl) ?_
    have hHeld : ((fun (w' : World) => w'.cell? ⟨bb, 0, none⟩ = some (.map (some mb)))) (World.drew _) := d0
    refine wpAnyK_take0 0 (v := ?v1) rfl (by kernel_rfl) (fun _ _ _ h => h) (Or.inl ⟨by rfl, ?hy1⟩) (fun _ => hHeld) ?_
    case hy1 => (intro w hSw; go_simp; try with_reducible rfl)
    try simp only [Act.put, List.setIfInBounds_toArray, List.set_cons_zero, List.set_cons_succ]
    refine wpAnyK_take0 4 (v := ?v2) rfl (by kernel_rfl) (fun _ _ _ h => h) (Or.inl ⟨by rfl, ?hy2⟩) (fun _ => hHeld) ?_
    case hy2 => (intro w hSw; go_simp; try with_reducible rfl)
    try simp only [Act.put, List.setIfInBounds_toArray, List.set_cons_zero, List.set_cons_succ]
    refine wpAnyK_take0 6 (v := ?v3) rfl (by kernel_rfl) (fun _ _ _ h => h) (Or.inl ⟨by rfl, ?hy3⟩) (fun _ => hHeld) ?_
    case hy3 => (intro w hSw; go_simp; try with_reducible rfl)
    try simp only [Act.put, List.setIfInBounds_toArray, List.set_cons_zero, List.set_cons_succ]
    refine wpAnyK_take0 1 (v := ?v4) rfl (by kernel_rfl) (fun _ _ _ h => h) (Or.inl ⟨by rfl, ?hy4⟩) (fun _ => hHeld) ?_
    case hy4 => (intro w hSw; go_simp; try with_reducible rfl)
    try simp only [Act.put, List.setIfInBounds_toArray, List.set_cons_zero, List.set_cons_succ]
    refine wpAnyK_take0 2 (v := ?v5) rfl (by kernel_rfl) (fun _ _ _ h => h) (Or.inl ⟨by rfl, ?hy5⟩) (fun _ => hHeld) ?_
    case hy5 => (intro w hSw; go_simp; try with_reducible rfl)
    try simp only [Act.put, List.setIfInBounds_toArray, List.set_cons_zero, List.set_cons_succ]
    refine wpAnyK_take 3 [7] (v := ?v6) rfl (by kernel_rfl) (fun _ _ _ h => h) (Or.inl ⟨by rfl, ?hy6⟩) hHeld ?_
    case hy6 => (intro w hSw; (try dsimp only at hSw); go_simp; try with_reducible rfl)
    try simp only [Act.put, List.setIfInBounds_toArray, List.set_cons_zero, List.set_cons_succ]
    refine wpAnyK_step 5 rfl (by kernel_rfl) (fun K hK => ?_)
    go_simp
    refine (SC _).mono ?_
    rintro e w3 ⟨rfl, hbel⟩
    have hB3 : Hid (Bok w3 bb mb b2) := hB2.out.below (n_below (n := 1) hbel) hB2.out.lt hB2.out.lt2
    have hC3 : Hid (Chf (fun k => k = bb ∨ k = mb) w w3) := hC2.out.trans (Chf.of_below (n_below (n := 1) hbel))
    clear hbel
    obtain ⟨w4, hrun, hown4, hturn⟩ := hB3.out.own.store (t := 61) (e := 2) lawK Try.underlying61 (n := b2.L.length) (by unfold maxLen; omega) (keyS (k := nm) (by omega)) hval
    dsimp only
    refine hK.out _ _ ?hk7 ?_
    case hk7 => exact fun _ => (hB3.out.cells.cell 0 (by simp))
    have hHeld : ((fun (w' : World) => w'.cell? ⟨bb, 0, none⟩ = some (.map (some mb)))) _ := (hB3.out.cells.cell 0 (by simp))
    clear hK K
    try simp only [Act.put, List.setIfInBounds_toArray, List.set_cons_zero, List.set_cons_succ]
    refine wpAnyK_step 7 rfl (by kernel_rfl) (fun K hK => ?_)
    go_simp
    refine hK.out _ _ (fun h => nomatch (h.symm.trans (show _ = true by kernel_rfl))) ?_
    clear hK K
    try simp only [Act.put, List.setIfInBounds_toArray, List.set_cons_zero, List.set_cons_succ]
    refine wpAnyK_done (by kernel_rfl) ?_ _
    go_wp2
    go_ret
    refine ⟨rfl, ⟨?_, ?_, hB3.out.ne⟩, hC3.out.grown hturn.grown (fun g e => by cases e; exact .inl (.inr rfl))⟩
    · have h0 := hB3.out.cells
      have hlt3 := h0.lt
      rw [hc2.out, hh2.out] at h0
      unfold Bl at h0 ⊢
      rw [hturn.grown.block bb hlt3 (fun e => hB3.out.ne (by cases e; rfl))]
      exact h0
    · rw [put_bkD h4H.out, hL2.out] at hown4
      have := map_tight hown4
      rw [size_bkD] at this
      exact this
  · have q : decide (now < bc) = false := by simpa using h2
    have q2 : ¬ now < bc := by simpa using h2
    go_enter Try.func12, Try.ntmps12
    go_wp2_with fail
    refine MC.mono ?_
    rintro e w2 ⟨⟨v2, rfl⟩, hB2', hC2'⟩
    have hB2 : Hid (Bok w2 bb mb b2) := hB2'
    have hC2 : Hid (Chf (fun k => k = bb ∨ k = mb) w w2) := hC2'
    have d0 := hB2'.cells.cell 0 (by simp)
    simp only [List.getElem_cons_zero] at d0
    have HC2 := HC w2 hB2'
    have LC2 := LC w2 hB2'
    clear hB2' hC2' HC LC MC
    go_wp2_with fail
    refine HC2.mono ?_
    rintro e w2' ⟨rfl, rfl⟩
    go_wp2_with fail
    refine LC2.mono ?_
    rintro e w2' ⟨rfl, rfl⟩
    clear HC2 LC2
    have hlt' : ¬ 4096 ≤ b2.L.length := by omega
    go_upto_region 12 with fail
    refine wp_region_K 7 (fun (w' : World) => w'.cell? ⟨bb, 0, none⟩ = some (.map (some mb))) (by kernel_rfl) ?_
    have hHeld : ((fun (w' : World) => w'.cell? ⟨bb, 0, none⟩ = some (.map (some mb)))) (World.drew _) := d0
    refine wpAnyK_take0 0 (v := ?v9) rfl (by kernel_rfl) (fun _ _ _ h => h) (Or.inl ⟨by rfl, ?hy9⟩) (fun _ => hHeld) ?_
    case hy9 => (intro w hSw; go_simp; try with_reducible rfl)
    try simp only [Act.put, List.setIfInBounds_toArray, List.set_cons_zero, List.set_cons_succ]
    refine wpAnyK_take0 4 (v := ?v10) rfl (by kernel_rfl) (fun _ _ _ h => h) (Or.inl ⟨by rfl, ?hy10⟩) (fun _ => hHeld) ?_
    case hy10 => (intro w hSw; go_simp; try with_reducible rfl)
    try simp only [Act.put, List.setIfInBounds_toArray, List.set_cons_zero, List.set_cons_succ]
    refine wpAnyK_take0 6 (v := ?v11) rfl (by kernel_rfl) (fun _ _ _ h => h) (Or.inl ⟨by rfl, ?hy11⟩) (fun _ => hHeld) ?_
    case hy11 => (intro w hSw; go_simp; try with_reducible rfl)
    try simp only [Act.put, List.setIfInBounds_toArray, List.set_cons_zero, List.set_cons_succ]
    refine wpAnyK_take0 1 (v := ?v12) rfl (by kernel_rfl) (fun _ _ _ h => h) (Or.inl ⟨by rfl, ?hy12⟩) (fun _ => hHeld) ?_
    case hy12 => (intro w hSw; go_simp; try with_reducible rfl)
    try simp only [Act.put, List.setIfInBounds_toArray, List.set_cons_zero, List.set_cons_succ]
    refine wpAnyK_take0 2 (v := ?v13) rfl (by kernel_rfl) (fun _ _ _ h => h) (Or.inl ⟨by rfl, ?hy13⟩) (fun _ => hHeld) ?_
    case hy13 => (intro w hSw; go_simp; try with_reducible rfl)
    try simp only [Act.put, List.setIfInBounds_toArray, List.set_cons_zero, List.set_cons_succ]
    refine wpAnyK_take 3 [7] (v := ?v14) rfl (by kernel_rfl) (fun _ _ _ h => h) (Or.inl ⟨by rfl, ?hy14⟩) hHeld ?_
    case hy14 => (intro w hSw; (try dsimp only at hSw); go_simp; try with_reducible rfl)
    try simp only [Act.put, List.setIfInBounds_toArray, List.set_cons_zero, List.set_cons_succ]
    refine wpAnyK_step 5 rfl (by kernel_rfl) (fun K hK => ?_)
    go_simp
    refine (SC _).mono ?_
    rintro e w3 ⟨rfl, hbel⟩
    have hB3 : Hid (Bok w3 bb mb b2) := hB2.out.below (n_below (n := 1) hbel) hB2.out.lt hB2.out.lt2
    have hC3 : Hid (Chf (fun k => k = bb ∨ k = mb) w w3) := hC2.out.trans (Chf.of_below (n_below (n := 1) hbel))
    clear hbel
    obtain ⟨w4, hrun, hown4, hturn⟩ := hB3.out.own.store (t := 61) (e := 2) lawK Try.underlying61 (n := b2.L.length) (by unfold maxLen; omega) (keyS (k := nm) (by omega)) hval
    dsimp only
    refine hK.out _ _ ?hk15 ?_
    case hk15 => exact fun _ => (hB3.out.cells.cell 0 (by simp))
    have hHeld : ((fun (w' : World) => w'.cell? ⟨bb, 0, none⟩ = some (.map (some mb)))) _ := (hB3.out.cells.cell 0 (by simp))
    clear hK K
    try simp only [Act.put, List.setIfInBounds_toArray, List.set_cons_zero, List.set_cons_succ]
    refine wpAnyK_step 7 rfl (by kernel_rfl) (fun K hK => ?_)
    go_simp
    refine hK.out _ _ (fun h => nomatch (h.symm.trans (show _ = true by kernel_rfl))) ?_
    clear hK K
    try simp only [Act.put, List.setIfInBounds_toArray, List.set_cons_zero, List.set_cons_succ]
    refine wpAnyK_done (by kernel_rfl) ?_ _
    go_wp2
    go_ret
    refine ⟨rfl, ⟨?_, ?_, hB3.out.ne⟩, hC3.out.grown hturn.grown (fun g e => by cases e; exact .inl (.inr rfl))⟩
    · have h0 := hB3.out.cells
      have hlt3 := h0.lt
      rw [hc2.out, hh2.out] at h0
      unfold Bl at h0 ⊢
      rw [hturn.grown.block bb hlt3 (fun e => hB3.out.ne (by cases e; rfl))]
      exact h0
    · rw [put_bkD h4H.out, hL2.out] at hown4
      have := map_tight hown4
      rw [size_bkD] at this
      exact this

end Go.Proofs.Ytidmjojlhcgedaa
