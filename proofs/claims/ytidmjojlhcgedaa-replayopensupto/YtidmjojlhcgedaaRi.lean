import Derived.Test.YtidmjojlhcgedaaRh
namespace Go.Proofs.Ytidmjojlhcgedaa
open Go.RowKit Go.Maps
set_option maxRecDepth 100000

theorem take_big (bb mb : Nat) (b : Bk) (nm : List UInt8) (u now : Int) (w : World) (h : Bok w bb mb b) (h1 : 1024 < nm.length) :
    Calls Try.prog 12 #[.pointer (some ⟨bb, 0, none⟩), .string ⟨nm.toArray⟩, .int .i64 u, .int .i64 now] w fun e w' => e = .returned (.int .i64 10) ∧ Bok w' bb mb b ∧ Chf (fun k => k = bb ∨ k = mb) w w' := by
  have hH : Hid (Bok w bb mb b) := h
  clear h
  go_enter Try.func12, Try.ntmps12
  go_wp2_with fail
  go_ret
  exact ⟨rfl, hH.out, Chf.refl _ _⟩

theorem take_back (bb mb : Nat) (b : Bk) (nm : List UInt8) (u now : Int) (w : World) (h : Bok w bb mb b) (h1 : ¬ 1024 < nm.length) (h2 : b.has = true ∧ now < b.clk) :
    Calls Try.prog 12 #[.pointer (some ⟨bb, 0, none⟩), .string ⟨nm.toArray⟩, .int .i64 u, .int .i64 now] w fun e w' => e = .returned (.int .i64 162) ∧ Bok w' bb mb b ∧ Chf (fun k => k = bb ∨ k = mb) w w' := by
  have c1 := h.cells.cell 1 (by simp)
  have c2 := h.cells.cell 2 (by simp)
  simp only [List.getElem_cons_zero, List.getElem_cons_succ] at c1 c2
  have hH : Hid (Bok w bb mb b) := h
  obtain ⟨q1, q2⟩ := h2
  rw [q1] at c2
  have q : decide (now < b.clk) = true := by simpa using q2
  clear h
  go_enter Try.func12, Try.ntmps12
  go_wp2_with fail
  go_ret
  exact ⟨rfl, hH.out, Chf.refl _ _⟩

set_option maxHeartbeats 1000000 in
theorem take_late (bb mb : Nat) (b : Bk) (nm : List UInt8) (u now : Int) (w : World) (h : Bok w bb mb b) (hk : BkOk b) (h1 : ¬ 1024 < nm.length) (h2 : ¬ (b.has = true ∧ now < b.clk)) (h3 : u < now) :
    Calls Try.prog 12 #[.pointer (some ⟨bb, 0, none⟩), .string ⟨nm.toArray⟩, .int .i64 u, .int .i64 now] w fun e w' => e = .returned (.int .i64 134) ∧ Bok w' bb mb ⟨true, now, livF now b.L⟩ ∧ Chf (fun k => k = bb ∨ k = mb) w w' := by
  have c1 := h.cells.cell 1 (by simp)
  have c2 := h.cells.cell 2 (by simp)
  simp only [List.getElem_cons_zero, List.getElem_cons_succ] at c1 c2
  have MC := moveTo_any bb mb b now w h hk.srt
  obtain ⟨b2, hb2⟩ : ∃ b2 : Bk, b2 = ⟨true, now, livF now b.L⟩ := ⟨_, rfl⟩
  have hL2 : Hid (b2.L = livF now b.L) := by rw [hb2]; rfl
  rw [← hb2] at MC ⊢
  have HC := fun w (hB : Bok w bb mb b2) => has_any nm bb mb b2 w hB (by omega)
  have LC := fun w (hB : Bok w bb mb b2) => len_any bb mb b2 w hB
  obtain ⟨bh, bc, bL⟩ := b
  simp only at c1 c2 h2
  clear h hk hb2
  cases bh
  · go_enter Try.func12, Try.ntmps12
    go_wp2_with fail
    refine MC.mono ?_
    rintro e w2 ⟨⟨v2, rfl⟩, hB2', hC2'⟩
    have hB2 : Hid (Bok w2 bb mb b2) := hB2'
    have hC2 : Hid (Chf (fun k => k = bb ∨ k = mb) w w2) := hC2'
    have HC2 := HC w2 hB2'
    have LC2 := LC w2 hB2'
    clear hB2' hC2' HC LC MC
    go_wp2_with fail
    go_ret
    exact ⟨rfl, hB2.out, hC2.out⟩
  · have q : decide (now < bc) = false := by simpa using h2
    have q2 : ¬ now < bc := by simpa using h2
    go_enter Try.func12, Try.ntmps12
    go_wp2_with fail
    refine MC.mono ?_
    rintro e w2 ⟨⟨v2, rfl⟩, hB2', hC2'⟩
    have hB2 : Hid (Bok w2 bb mb b2) := hB2'
    have hC2 : Hid (Chf (fun k => k = bb ∨ k = mb) w w2) := hC2'
    have HC2 := HC w2 hB2'
    have LC2 := LC w2 hB2'
    clear hB2' hC2' HC LC MC
    go_wp2_with fail
    go_ret
    exact ⟨rfl, hB2.out, hC2.out⟩

set_option maxHeartbeats 1000000 in
theorem take_twice (bb mb : Nat) (b : Bk) (nm : List UInt8) (u now : Int) (w : World) (h : Bok w bb mb b) (hk : BkOk b) (h1 : ¬ 1024 < nm.length) (h2 : ¬ (b.has = true ∧ now < b.clk)) (h3 : ¬ u < now) (h4 : hasF nm (livF now b.L) = true) :
    Calls Try.prog 12 #[.pointer (some ⟨bb, 0, none⟩), .string ⟨nm.toArray⟩, .int .i64 u, .int .i64 now] w fun e w' => e = .returned (.int .i64 160) ∧ Bok w' bb mb ⟨true, now, livF now b.L⟩ ∧ Chf (fun k => k = bb ∨ k = mb) w w' := by
  have c1 := h.cells.cell 1 (by simp)
  have c2 := h.cells.cell 2 (by simp)
  simp only [List.getElem_cons_zero, List.getElem_cons_succ] at c1 c2
  have MC := moveTo_any bb mb b now w h hk.srt
  obtain ⟨b2, hb2⟩ : ∃ b2 : Bk, b2 = ⟨true, now, livF now b.L⟩ := ⟨_, rfl⟩
  have hL2 : Hid (b2.L = livF now b.L) := by rw [hb2]; rfl
  rw [← hb2] at MC ⊢
  have HC := fun w (hB : Bok w bb mb b2) => has_any nm bb mb b2 w hB (by omega)
  have LC := fun w (hB : Bok w bb mb b2) => len_any bb mb b2 w hB
  rw [show hasF nm b2.L = true from by rw [hL2.out]; exact h4] at HC
  clear h4
  obtain ⟨bh, bc, bL⟩ := b
  simp only at c1 c2 h2
  clear h hk hb2
  cases bh
  · go_enter Try.func12, Try.ntmps12
    go_wp2_with fail
    refine MC.mono ?_
    rintro e w2 ⟨⟨v2, rfl⟩, hB2', hC2'⟩
    have hB2 : Hid (Bok w2 bb mb b2) := hB2'
    have hC2 : Hid (Chf (fun k => k = bb ∨ k = mb) w w2) := hC2'
    have HC2 := HC w2 hB2'
    have LC2 := LC w2 hB2'
    clear hB2' hC2' HC LC MC
    go_wp2_with fail
    refine HC2.mono ?_
    rintro e w2' ⟨rfl, rfl⟩
    go_wp2_with fail
    go_ret
    exact ⟨rfl, hB2.out, hC2.out⟩
  · have q : decide (now < bc) = false := by simpa using h2
    have q2 : ¬ now < bc := by simpa using h2
    go_enter Try.func12, Try.ntmps12
    go_wp2_with fail
    refine MC.mono ?_
    rintro e w2 ⟨⟨v2, rfl⟩, hB2', hC2'⟩
    have hB2 : Hid (Bok w2 bb mb b2) := hB2'
    have hC2 : Hid (Chf (fun k => k = bb ∨ k = mb) w w2) := hC2'
    have HC2 := HC w2 hB2'
    have LC2 := LC w2 hB2'
    clear hB2' hC2' HC LC MC
    go_wp2_with fail
    refine HC2.mono ?_
    rintro e w2' ⟨rfl, rfl⟩
    go_wp2_with fail
    go_ret
    exact ⟨rfl, hB2.out, hC2.out⟩

set_option maxHeartbeats 1000000 in
theorem take_full (bb mb : Nat) (b : Bk) (nm : List UInt8) (u now : Int) (w : World) (h : Bok w bb mb b) (hk : BkOk b) (h1 : ¬ 1024 < nm.length) (h2 : ¬ (b.has = true ∧ now < b.clk)) (h3 : ¬ u < now) (h4 : hasF nm (livF now b.L) = false) (h5 : 4096 ≤ (livF now b.L).length) :
    Calls Try.prog 12 #[.pointer (some ⟨bb, 0, none⟩), .string ⟨nm.toArray⟩, .int .i64 u, .int .i64 now] w fun e w' => e = .returned (.int .i64 161) ∧ Bok w' bb mb ⟨true, now, livF now b.L⟩ ∧ Chf (fun k => k = bb ∨ k = mb) w w' := by
  have c1 := h.cells.cell 1 (by simp)
  have c2 := h.cells.cell 2 (by simp)
  simp only [List.getElem_cons_zero, List.getElem_cons_succ] at c1 c2
  have MC := moveTo_any bb mb b now w h hk.srt
  obtain ⟨b2, hb2⟩ : ∃ b2 : Bk, b2 = ⟨true, now, livF now b.L⟩ := ⟨_, rfl⟩
  have hL2 : Hid (b2.L = livF now b.L) := by rw [hb2]; rfl
  rw [← hb2] at MC ⊢
  have HC := fun w (hB : Bok w bb mb b2) => has_any nm bb mb b2 w hB (by omega)
  have LC := fun w (hB : Bok w bb mb b2) => len_any bb mb b2 w hB
  rw [show hasF nm b2.L = false from by rw [hL2.out]; exact h4] at HC
  have hlt : 4096 ≤ b2.L.length := by rw [hL2.out]; exact h5
  clear h4 h5
  obtain ⟨bh, bc, bL⟩ := b
  simp only at c1 c2 h2
  clear h hk hb2
  cases bh
  · go_enter Try.func12, Try.ntmps12
    go_wp2_with fail
    refine MC.mono ?_
    rintro e w2 ⟨⟨v2, rfl⟩, hB2', hC2'⟩
    have hB2 : Hid (Bok w2 bb mb b2) := hB2'
    have hC2 : Hid (Chf (fun k => k = bb ∨ k = mb) w w2) := hC2'
    have HC2 := HC w2 hB2'
    have LC2 := LC w2 hB2'
    clear hB2' hC2' HC LC MC
    go_wp2_with fail
    refine HC2.mono ?_
    rintro e w2' ⟨rfl, rfl⟩
    go_wp2_with fail
    refine LC2.mono ?_
    rintro e w2' ⟨rfl, rfl⟩
    clear HC2 LC2
    go_wp2_with fail
    go_ret
    exact ⟨rfl, hB2.out, hC2.out⟩
  · have q : decide (now < bc) = false := by simpa using h2
    have q2 : ¬ now < bc := by simpa using h2
    go_enter Try.func12, Try.ntmps12
    go_wp2_with fail
    refine MC.mono ?_
    rintro e w2 ⟨⟨v2, rfl⟩, hB2', hC2'⟩
    have hB2 : Hid (Bok w2 bb mb b2) := hB2'
    have hC2 : Hid (Chf (fun k => k = bb ∨ k = mb) w w2) := hC2'
    have HC2 := HC w2 hB2'
    have LC2 := LC w2 hB2'
    clear hB2' hC2' HC LC MC
    go_wp2_with fail
    refine HC2.mono ?_
    rintro e w2' ⟨rfl, rfl⟩
    go_wp2_with fail
    refine LC2.mono ?_
    rintro e w2' ⟨rfl, rfl⟩
    clear HC2 LC2
    go_wp2_with fail
    go_ret
    exact ⟨rfl, hB2.out, hC2.out⟩

theorem take_any (bb mb : Nat) (b : Bk) (nm : List UInt8) (u now : Int) (w : World) (h : Bok w bb mb b) (hk : BkOk b) (hu : I64 u) :
    Calls Try.prog 12 #[.pointer (some ⟨bb, 0, none⟩), .string ⟨nm.toArray⟩, .int .i64 u, .int .i64 now] w fun e w' => e = .returned (.int .i64 (takeF b nm u now).1) ∧ Bok w' bb mb (takeF b nm u now).2 ∧ Chf (fun k => k = bb ∨ k = mb) w w' := by
  unfold takeF
  by_cases h1 : 1024 < nm.length
  · simp only [if_pos h1]; exact take_big bb mb b nm u now w h h1
  simp only [if_neg h1]
  by_cases h2 : b.has = true ∧ now < b.clk
  · simp only [if_pos h2]; exact take_back bb mb b nm u now w h h1 h2
  simp only [if_neg h2]
  by_cases h3 : u < now
  · simp only [if_pos h3]; exact take_late bb mb b nm u now w h hk h1 h2 h3
  simp only [if_neg h3]
  by_cases h4 : hasF nm (livF now b.L) = true
  · simp only [if_pos h4]; exact take_twice bb mb b nm u now w h hk h1 h2 h3 h4
  simp only [if_neg h4]
  by_cases h5 : 4096 ≤ (livF now b.L).length
  · simp only [if_pos h5]; exact take_full bb mb b nm u now w h hk h1 h2 h3 (by simpa using h4) h5
  simp only [if_neg h5]
  exact take_in bb mb b nm u now w h hk hu h1 h2 h3 (by simpa using h4) h5

end Go.Proofs.Ytidmjojlhcgedaa
