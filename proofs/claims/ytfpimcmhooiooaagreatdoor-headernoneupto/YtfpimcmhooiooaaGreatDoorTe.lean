import Derived.Test.YtfpimcmhooiooaaGreatDoorTZ
namespace Go.Proofs.YtfpimcmhooiooaaGreatDoor
open Go.RowKit Go.Shelf

set_option maxRecDepth 100000 in
set_option maxHeartbeats 4000000 in
theorem wm_leaf (n : Nd) (d : Int) (w : World) (hk : n.kind = 1 ∨ n.kind = 2 ∨ n.kind = 3) :
    Calls Tryz.prog 62 #[.agg #[.int .i64 n.kind, .string ⟨n.key.toArray⟩, .string ⟨n.text.toArray⟩, .bool n.whole, .int .i64 n.int, .int .i64 n.kids], .int .i64 d] w fun e w' => e = .returned (.bool (wmF n d)) ∧ Below w.heap.size w w' := by
  have HF : Hid (wmF n d = decide (n = { nd0 n.kind with key := n.key })) := by show _ = _; unfold wmF; rw [if_pos hk]
  have hr : ∀ w, (binOp .eql 45 (.agg #[.int .i64 n.kind, .string ⟨n.key.toArray⟩, .string ⟨n.text.toArray⟩, .bool n.whole, .int .i64 n.int, .int .i64 n.kids]) (.agg #[.int .i64 n.kind, .string ⟨n.key.toArray⟩, .string ⟨#[]⟩, .bool false, .int .i64 0, .int .i64 0])).run Tryz.prog w = .ok (.bool (decide (n = { nd0 n.kind with key := n.key }))) w := fun w => run_nodes w n { nd0 n.kind with key := n.key }
  obtain ⟨R, hR⟩ : ∃ R, decide (n = { nd0 n.kind with key := n.key }) = R := ⟨_, rfl⟩
  rw [hR] at hr HF
  have HB : Hid (Below w.heap.size w (((w.alloc (.cells #[.int .i64 n.kind, .string ⟨n.key.toArray⟩, .string ⟨n.text.toArray⟩, .bool n.whole, .int .i64 n.int, .int .i64 n.kids] 45)).alloc (.cells #[.int .i64 n.kind, .string ⟨n.key.toArray⟩, .string ⟨#[]⟩, .bool false, .int .i64 0, .int .i64 0] 45)))) := (alloc_below _ _).trans ((alloc_below _ _).mono (by rw [alloc_size]; omega))
  clear hR
  generalize n.kind = K at *
  rcases hk with rfl | rfl | rfl
  all_goals
    go_enter Tryz.func62, Tryz.ntmps62
    go_wp2
    go_ret
    rw [HF.out]
    exact ⟨rfl, HB.out⟩

theorem validString_any (l : List UInt8) (w : World) (hl : l.length ≤ 1073741824) (hT : U8 w) : Calls Tryz.prog 19 #[.string ⟨l.toArray⟩] w fun e w' => e = .returned (.bool (Lib.validD l)) ∧ Below w.heap.size w w' :=
  Any.utf8_ValidString Tryz.laysValid ⟨l.toArray⟩ w (by show l.toArray.size ≤ _; simp; omega) hT

set_option maxRecDepth 100000 in
set_option maxHeartbeats 4000000 in
theorem wm_bad (n : Nd) (d : Int) (w : World) (h1 : n.kind ≠ 1) (h2 : n.kind ≠ 2) (h3 : n.kind ≠ 3) (h4 : n.kind ≠ 4) (h5 : n.kind ≠ 5) (h6 : n.kind ≠ 6) (h7 : n.kind ≠ 7) :
    Calls Tryz.prog 62 #[.agg #[.int .i64 n.kind, .string ⟨n.key.toArray⟩, .string ⟨n.text.toArray⟩, .bool n.whole, .int .i64 n.int, .int .i64 n.kids], .int .i64 d] w fun e w' => e = .returned (.bool (wmF n d)) ∧ Below w.heap.size w w' := by
  have HF : Hid (wmF n d = false) := by show _ = _; unfold wmF; rw [if_neg (by omega), if_neg h4, if_neg h5, if_neg (by omega)]
  have HB : Hid (Below w.heap.size w (((w.alloc (.cells #[.int .i64 n.kind, .string ⟨n.key.toArray⟩, .string ⟨n.text.toArray⟩, .bool n.whole, .int .i64 n.int, .int .i64 n.kids] 45)).alloc (.cells #[.int .i64 n.kind, .string ⟨#[]⟩, .string ⟨#[]⟩, .bool false, .int .i64 0, .int .i64 0] 45)))) := (alloc_below _ _).trans ((alloc_below _ _).mono (by rw [alloc_size]; omega))
  have q1 : (n.kind == 1) = false := by simpa using h1
  have q2 : (n.kind == 2) = false := by simpa using h2
  have q3 : (n.kind == 3) = false := by simpa using h3
  have q4 : (n.kind == 4) = false := by simpa using h4
  have q5 : (n.kind == 5) = false := by simpa using h5
  have q6 : (n.kind == 6) = false := by simpa using h6
  have q7 : (n.kind == 7) = false := by simpa using h7
  clear h1 h2 h3 h4 h5 h6 h7
  generalize n.kind = K at *
  go_enter Tryz.func62, Tryz.ntmps62
  go_wp2
  go_ret
  rw [HF.out]
  exact ⟨rfl, HB.out⟩

set_option maxRecDepth 100000 in
set_option maxHeartbeats 4000000 in
theorem wm_con (n : Nd) (d : Int) (w : World) (hk : n.kind = 6 ∨ n.kind = 7) :
    Calls Tryz.prog 62 #[.agg #[.int .i64 n.kind, .string ⟨n.key.toArray⟩, .string ⟨n.text.toArray⟩, .bool n.whole, .int .i64 n.int, .int .i64 n.kids], .int .i64 d] w fun e w' => e = .returned (.bool (wmF n d)) ∧ Below w.heap.size w w' := by
  have HF : Hid (wmF n d = ((decide (0 ≤ n.kids) && decide (d < 32)) && decide (n = { nd0 n.kind with kids := n.kids, key := n.key }))) := by show _ = _; unfold wmF; rw [if_neg (by omega), if_neg (by omega), if_neg (by omega), if_pos hk]
  have hr : ∀ w, (binOp .eql 45 (.agg #[.int .i64 n.kind, .string ⟨n.key.toArray⟩, .string ⟨n.text.toArray⟩, .bool n.whole, .int .i64 n.int, .int .i64 n.kids]) (.agg #[.int .i64 n.kind, .string ⟨n.key.toArray⟩, .string ⟨#[]⟩, .bool false, .int .i64 0, .int .i64 n.kids])).run Tryz.prog w = .ok (.bool (decide (n = { nd0 n.kind with kids := n.kids, key := n.key }))) w := fun w => run_nodes w n { nd0 n.kind with kids := n.kids, key := n.key }
  obtain ⟨R, hR⟩ : ∃ R, decide (n = { nd0 n.kind with kids := n.kids, key := n.key }) = R := ⟨_, rfl⟩
  rw [hR] at hr HF
  have HB : Hid (Below w.heap.size w (((w.alloc (.cells #[.int .i64 n.kind, .string ⟨n.key.toArray⟩, .string ⟨n.text.toArray⟩, .bool n.whole, .int .i64 n.int, .int .i64 n.kids] 45)).alloc (.cells #[.int .i64 n.kind, .string ⟨n.key.toArray⟩, .string ⟨#[]⟩, .bool false, .int .i64 0, .int .i64 n.kids] 45)))) := (alloc_below _ _).trans ((alloc_below _ _).mono (by rw [alloc_size]; omega))
  clear hR
  generalize n.kind = K at *
  generalize n.kids = J at *
  by_cases hJ : 0 ≤ J
  · have qJ : decide (J ≥ 0) = true := by simpa using hJ
    by_cases hd : d < 32
    · have qd : decide (d < 32) = true := by simpa using hd
      have HF2 : Hid (wmF n d = R) := by show _ = _; rw [HF.out, decide_eq_true hJ, qd]; rfl
      rcases hk with rfl | rfl
      all_goals
        go_enter Tryz.func62, Tryz.ntmps62
        go_wp2
        go_ret
        rw [HF2.out]
        exact ⟨rfl, HB.out⟩
    · have qd : decide (d < 32) = false := by simpa using hd
      have HF2 : Hid (wmF n d = false) := by show _ = _; rw [HF.out, decide_eq_true hJ, qd]; rfl
      rcases hk with rfl | rfl
      all_goals
        go_enter Tryz.func62, Tryz.ntmps62
        go_wp2
        go_ret
        rw [HF2.out]
        exact ⟨rfl, HB.out⟩
  · have qJ : decide (J ≥ 0) = false := by simpa using hJ
    have HF2 : Hid (wmF n d = false) := by show _ = _; rw [HF.out, decide_eq_false hJ]; rfl
    rcases hk with rfl | rfl
    all_goals
      go_enter Tryz.func62, Tryz.ntmps62
      go_wp2
      go_ret
      rw [HF2.out]
      exact ⟨rfl, HB.out⟩

set_option maxRecDepth 100000 in
set_option maxHeartbeats 4000000 in
theorem wm_str (n : Nd) (d : Int) (w : World) (hk : n.kind = 5) (hl : n.text.length ≤ 1073741824) (hT : U8 w) :
    Calls Tryz.prog 62 #[.agg #[.int .i64 n.kind, .string ⟨n.key.toArray⟩, .string ⟨n.text.toArray⟩, .bool n.whole, .int .i64 n.int, .int .i64 n.kids], .int .i64 d] w fun e w' => e = .returned (.bool (wmF n d)) ∧ Below w.heap.size w w' := by
  have HF : Hid (wmF n d = (Lib.validD n.text && decide (n = { nd0 5 with text := n.text, key := n.key }))) := by show _ = _; unfold wmF; rw [if_neg (by omega), if_neg (by omega), if_pos hk]
  have hr : ∀ w, (binOp .eql 45 (.agg #[.int .i64 n.kind, .string ⟨n.key.toArray⟩, .string ⟨n.text.toArray⟩, .bool n.whole, .int .i64 n.int, .int .i64 n.kids]) (.agg #[.int .i64 5, .string ⟨n.key.toArray⟩, .string ⟨n.text.toArray⟩, .bool false, .int .i64 0, .int .i64 0])).run Tryz.prog w = .ok (.bool (decide (n = { nd0 5 with text := n.text, key := n.key }))) w := fun w => run_nodes w n { nd0 5 with text := n.text, key := n.key }
  obtain ⟨R, hR⟩ : ∃ R, decide (n = { nd0 5 with text := n.text, key := n.key }) = R := ⟨_, rfl⟩
  rw [hR] at hr HF
  rw [hk] at hr ⊢
  have hB0 := alloc_below w (.cells #[.int .i64 5, .string ⟨n.key.toArray⟩, .string ⟨n.text.toArray⟩, .bool n.whole, .int .i64 n.int, .int .i64 n.kids] 45)
  have hB1 := alloc_below (w.alloc (.cells #[.int .i64 5, .string ⟨n.key.toArray⟩, .string ⟨n.text.toArray⟩, .bool n.whole, .int .i64 n.int, .int .i64 n.kids] 45)) (.cells #[.int .i64 5, .string ⟨#[]⟩, .string ⟨n.text.toArray⟩, .bool false, .int .i64 0, .int .i64 0] 45)
  have hsz : (w.alloc (.cells #[.int .i64 5, .string ⟨n.key.toArray⟩, .string ⟨n.text.toArray⟩, .bool n.whole, .int .i64 n.int, .int .i64 n.kids] 45)).heap.size = w.heap.size + 1 := alloc_size _ _
  have HB1 : Hid (Below w.heap.size w ((w.alloc (.cells #[.int .i64 5, .string ⟨n.key.toArray⟩, .string ⟨n.text.toArray⟩, .bool n.whole, .int .i64 n.int, .int .i64 n.kids] 45)).alloc (.cells #[.int .i64 5, .string ⟨#[]⟩, .string ⟨n.text.toArray⟩, .bool false, .int .i64 0, .int .i64 0] 45))) := hB0.trans (hB1.mono (by omega))
  have HN0 : Hid (Bl 45 ((w.alloc (.cells #[.int .i64 5, .string ⟨n.key.toArray⟩, .string ⟨n.text.toArray⟩, .bool n.whole, .int .i64 n.int, .int .i64 n.kids] 45)).alloc (.cells #[.int .i64 5, .string ⟨#[]⟩, .string ⟨n.text.toArray⟩, .bool false, .int .i64 0, .int .i64 0] 45)) w.heap.size [.int .i64 5, .string ⟨n.key.toArray⟩, .string ⟨n.text.toArray⟩, .bool n.whole, .int .i64 n.int, .int .i64 n.kids]) := (alloc_bl w [.int .i64 5, .string ⟨n.key.toArray⟩, .string ⟨n.text.toArray⟩, .bool n.whole, .int .i64 n.int, .int .i64 n.kids] 45).below hB1 (by omega)
  have HN1 : Hid (Bl 45 ((w.alloc (.cells #[.int .i64 5, .string ⟨n.key.toArray⟩, .string ⟨n.text.toArray⟩, .bool n.whole, .int .i64 n.int, .int .i64 n.kids] 45)).alloc (.cells #[.int .i64 5, .string ⟨#[]⟩, .string ⟨n.text.toArray⟩, .bool false, .int .i64 0, .int .i64 0] 45)) (w.heap.size + 1) [.int .i64 5, .string ⟨#[]⟩, .string ⟨n.text.toArray⟩, .bool false, .int .i64 0, .int .i64 0]) := by have := alloc_bl (w.alloc (.cells #[.int .i64 5, .string ⟨n.key.toArray⟩, .string ⟨n.text.toArray⟩, .bool n.whole, .int .i64 n.int, .int .i64 n.kids] 45)) [.int .i64 5, .string ⟨#[]⟩, .string ⟨n.text.toArray⟩, .bool false, .int .i64 0, .int .i64 0] 45; rw [hsz] at this; exact this
  have C := validString_any n.text _ hl (hT.below HB1.out)
  obtain ⟨V, hV⟩ : ∃ V, Lib.validD n.text = V := ⟨_, rfl⟩
  rw [hV] at C HF
  clear hR hB0 hB1 hV hk hT
  go_enter Tryz.func62, Tryz.ntmps62
  go_wp2_with fail
  refine C.mono ?_
  clear C
  rintro e w2 ⟨rfl, hB2⟩
  have HB2 : Hid (Below w.heap.size w w2) := HB1.out.trans (hB2.mono HB1.out.size)
  have HM0 : Hid (Bl 45 w2 w.heap.size [.int .i64 5, .string ⟨n.key.toArray⟩, .string ⟨n.text.toArray⟩, .bool n.whole, .int .i64 n.int, .int .i64 n.kids]) := HN0.out.below hB2 HN0.out.lt
  have HM1 : Hid (Bl 45 w2 (w.heap.size + 1) [.int .i64 5, .string ⟨#[]⟩, .string ⟨n.text.toArray⟩, .bool false, .int .i64 0, .int .i64 0]) := HN1.out.below hB2 HN1.out.lt
  clear hB2
  have a0 : w2.cell? ⟨w.heap.size, 0, none⟩ = some (.int .i64 5) := HM0.out.cell 0 (by simp)
  have a1 : w2.cell? ⟨w.heap.size, 1, none⟩ = some (.string ⟨n.key.toArray⟩) := HM0.out.cell 1 (by simp)
  have a2 : w2.cell? ⟨w.heap.size, 2, none⟩ = some (.string ⟨n.text.toArray⟩) := HM0.out.cell 2 (by simp)
  have a3 : w2.cell? ⟨w.heap.size, 3, none⟩ = some (.bool n.whole) := HM0.out.cell 3 (by simp)
  have a4 : w2.cell? ⟨w.heap.size, 4, none⟩ = some (.int .i64 n.int) := HM0.out.cell 4 (by simp)
  have a5 : w2.cell? ⟨w.heap.size, 5, none⟩ = some (.int .i64 n.kids) := HM0.out.cell 5 (by simp)
  have b0 : w2.cell? ⟨w.heap.size + 1, 0, none⟩ = some (.int .i64 5) := HM1.out.cell 0 (by simp)
  have b1 : w2.cell? ⟨w.heap.size + 1, 1, none⟩ = some (.string ⟨#[]⟩) := HM1.out.cell 1 (by simp)
  have b2 : w2.cell? ⟨w.heap.size + 1, 2, none⟩ = some (.string ⟨n.text.toArray⟩) := HM1.out.cell 2 (by simp)
  have b3 : w2.cell? ⟨w.heap.size + 1, 3, none⟩ = some (.bool false) := HM1.out.cell 3 (by simp)
  have b4 : w2.cell? ⟨w.heap.size + 1, 4, none⟩ = some (.int .i64 0) := HM1.out.cell 4 (by simp)
  have b5 : w2.cell? ⟨w.heap.size + 1, 5, none⟩ = some (.int .i64 0) := HM1.out.cell 5 (by simp)
  have f1 : w2.frozen? ⟨w.heap.size + 1, 1, none⟩ = false := HM1.out.frozen 1
  have HB3 : Hid (Below w.heap.size w (w2.setCell ⟨w.heap.size + 1, 1, none⟩ (.string ⟨n.key.toArray⟩))) := Below.setCell HB2.out (Nat.le_succ _) _
  cases V
  · have HF2 : Hid (wmF n d = false) := by show _ = _; rw [HF.out]; rfl
    go_wp2
    go_ret
    rw [HF2.out]
    exact ⟨rfl, HB3.out⟩
  · have HF2 : Hid (wmF n d = R) := by show _ = _; rw [HF.out]; rfl
    go_wp2
    go_ret
    rw [HF2.out]
    exact ⟨rfl, HB3.out⟩

set_option maxRecDepth 100000 in
set_option maxHeartbeats 8000000 in
theorem wm_num {B : Nat} (n : Nd) (d : Int) (w : World) (hk : n.kind = 4) (hl : n.text.length ≤ 1073741824) (hG : GL B w) (hBw : B ≤ w.heap.size) :
    Calls Tryz.prog 62 #[.agg #[.int .i64 n.kind, .string ⟨n.key.toArray⟩, .string ⟨n.text.toArray⟩, .bool n.whole, .int .i64 n.int, .int .i64 n.kids], .int .i64 d] w fun e w' => e = .returned (.bool (wmF n d)) ∧ Below w.heap.size w w' := by
  have HF : Hid (wmF n d = ((Dec.pcut n.text).isSome && decide (n = { numN n.text with key := n.key }))) := by show _ = _; unfold wmF; rw [if_neg (by omega), if_pos hk]
  obtain ⟨X, hX⟩ : ∃ X, X = (numN n.text).int := ⟨_, rfl⟩
  obtain ⟨Y, hY⟩ : ∃ Y, Y = (numN n.text).whole := ⟨_, rfl⟩
  have hr : ∀ w, (binOp .eql 45 (.agg #[.int .i64 n.kind, .string ⟨n.key.toArray⟩, .string ⟨n.text.toArray⟩, .bool n.whole, .int .i64 n.int, .int .i64 n.kids]) (.agg #[.int .i64 4, .string ⟨n.key.toArray⟩, .string ⟨n.text.toArray⟩, .bool Y, .int .i64 X, .int .i64 0])).run Tryz.prog w = .ok (.bool (decide (n = { numN n.text with key := n.key }))) w := fun w => by rw [hX, hY]; exact run_nodes w n { numN n.text with key := n.key }
  obtain ⟨R, hR⟩ : ∃ R, decide (n = { numN n.text with key := n.key }) = R := ⟨_, rfl⟩
  rw [hR] at hr HF
  rw [hk] at hr ⊢
  have hB0 := alloc_below w (.cells #[.int .i64 4, .string ⟨n.key.toArray⟩, .string ⟨n.text.toArray⟩, .bool n.whole, .int .i64 n.int, .int .i64 n.kids] 45)
  have hB1 := alloc_below (w.alloc (.cells #[.int .i64 4, .string ⟨n.key.toArray⟩, .string ⟨n.text.toArray⟩, .bool n.whole, .int .i64 n.int, .int .i64 n.kids] 45)) (.cells #[.int .i64 4, .string ⟨#[]⟩, .string ⟨#[]⟩, .bool false, .int .i64 0, .int .i64 0] 45)
  have hsz : (w.alloc (.cells #[.int .i64 4, .string ⟨n.key.toArray⟩, .string ⟨n.text.toArray⟩, .bool n.whole, .int .i64 n.int, .int .i64 n.kids] 45)).heap.size = w.heap.size + 1 := alloc_size _ _
  have HB1 : Hid (Below w.heap.size w ((w.alloc (.cells #[.int .i64 4, .string ⟨n.key.toArray⟩, .string ⟨n.text.toArray⟩, .bool n.whole, .int .i64 n.int, .int .i64 n.kids] 45)).alloc (.cells #[.int .i64 4, .string ⟨#[]⟩, .string ⟨#[]⟩, .bool false, .int .i64 0, .int .i64 0] 45))) := hB0.trans (hB1.mono (by omega))
  have HN0 : Hid (Bl 45 ((w.alloc (.cells #[.int .i64 4, .string ⟨n.key.toArray⟩, .string ⟨n.text.toArray⟩, .bool n.whole, .int .i64 n.int, .int .i64 n.kids] 45)).alloc (.cells #[.int .i64 4, .string ⟨#[]⟩, .string ⟨#[]⟩, .bool false, .int .i64 0, .int .i64 0] 45)) w.heap.size [.int .i64 4, .string ⟨n.key.toArray⟩, .string ⟨n.text.toArray⟩, .bool n.whole, .int .i64 n.int, .int .i64 n.kids]) := (alloc_bl w [.int .i64 4, .string ⟨n.key.toArray⟩, .string ⟨n.text.toArray⟩, .bool n.whole, .int .i64 n.int, .int .i64 n.kids] 45).below hB1 (by omega)
  have HN1 : Hid (Bl 45 ((w.alloc (.cells #[.int .i64 4, .string ⟨n.key.toArray⟩, .string ⟨n.text.toArray⟩, .bool n.whole, .int .i64 n.int, .int .i64 n.kids] 45)).alloc (.cells #[.int .i64 4, .string ⟨#[]⟩, .string ⟨#[]⟩, .bool false, .int .i64 0, .int .i64 0] 45)) (w.heap.size + 1) [.int .i64 4, .string ⟨#[]⟩, .string ⟨#[]⟩, .bool false, .int .i64 0, .int .i64 0]) := by have := alloc_bl (w.alloc (.cells #[.int .i64 4, .string ⟨n.key.toArray⟩, .string ⟨n.text.toArray⟩, .bool n.whole, .int .i64 n.int, .int .i64 n.kids] 45)) [.int .i64 4, .string ⟨#[]⟩, .string ⟨#[]⟩, .bool false, .int .i64 0, .int .i64 0] 45; rw [hsz] at this; exact this
  have C := numberNode_any (B := B) n.text _ hl (hG.below (HB1.out.mono hBw)) (Nat.le_trans hBw HB1.out.size)
  have C' : Calls Tryz.prog 72 #[.string ⟨n.text.toArray⟩] ((w.alloc (.cells #[.int .i64 4, .string ⟨n.key.toArray⟩, .string ⟨n.text.toArray⟩, .bool n.whole, .int .i64 n.int, .int .i64 n.kids] 45)).alloc (.cells #[.int .i64 4, .string ⟨#[]⟩, .string ⟨#[]⟩, .bool false, .int .i64 0, .int .i64 0] 45)) fun e w' => e = .returned (.agg #[.int .i64 4, .string ⟨#[]⟩, .string ⟨n.text.toArray⟩, .bool Y, .int .i64 X, .int .i64 0]) ∧ Below ((w.alloc (.cells #[.int .i64 4, .string ⟨n.key.toArray⟩, .string ⟨n.text.toArray⟩, .bool n.whole, .int .i64 n.int, .int .i64 n.kids] 45)).alloc (.cells #[.int .i64 4, .string ⟨#[]⟩, .string ⟨#[]⟩, .bool false, .int .i64 0, .int .i64 0] 45)).heap.size ((w.alloc (.cells #[.int .i64 4, .string ⟨n.key.toArray⟩, .string ⟨n.text.toArray⟩, .bool n.whole, .int .i64 n.int, .int .i64 n.kids] 45)).alloc (.cells #[.int .i64 4, .string ⟨#[]⟩, .string ⟨#[]⟩, .bool false, .int .i64 0, .int .i64 0] 45)) w' := by rw [hX, hY]; exact C
  have CV : Hid (∀ w, Calls Tryz.prog 80 #[.string ⟨n.text.toArray⟩] w fun e w' => e = .returned (.bool (Dec.pcut n.text).isSome) ∧ Below w.heap.size w w') := fun w => Dec.valid_any n.text w (by omega)
  obtain ⟨V, hV⟩ : ∃ V, (Dec.pcut n.text).isSome = V := ⟨_, rfl⟩
  rw [hV] at CV HF
  clear hR hB0 hB1 hV hk C hX hY hG
  go_enter Tryz.func62, Tryz.ntmps62
  go_wp2_with fail
  refine C'.mono ?_
  clear C'
  rintro e w2 ⟨rfl, hB2⟩
  have HB2 : Hid (Below w.heap.size w w2) := HB1.out.trans (hB2.mono HB1.out.size)
  have HM0 : Hid (Bl 45 w2 w.heap.size [.int .i64 4, .string ⟨n.key.toArray⟩, .string ⟨n.text.toArray⟩, .bool n.whole, .int .i64 n.int, .int .i64 n.kids]) := HN0.out.below hB2 HN0.out.lt
  have HM1 : Hid (Bl 45 w2 (w.heap.size + 1) [.int .i64 4, .string ⟨#[]⟩, .string ⟨#[]⟩, .bool false, .int .i64 0, .int .i64 0]) := HN1.out.below hB2 HN1.out.lt
  clear hB2
  have a0 : w2.cell? ⟨w.heap.size, 0, none⟩ = some (.int .i64 4) := HM0.out.cell 0 (by simp)
  have a1 : w2.cell? ⟨w.heap.size, 1, none⟩ = some (.string ⟨n.key.toArray⟩) := HM0.out.cell 1 (by simp)
  have a2 : w2.cell? ⟨w.heap.size, 2, none⟩ = some (.string ⟨n.text.toArray⟩) := HM0.out.cell 2 (by simp)
  have a3 : w2.cell? ⟨w.heap.size, 3, none⟩ = some (.bool n.whole) := HM0.out.cell 3 (by simp)
  have a4 : w2.cell? ⟨w.heap.size, 4, none⟩ = some (.int .i64 n.int) := HM0.out.cell 4 (by simp)
  have a5 : w2.cell? ⟨w.heap.size, 5, none⟩ = some (.int .i64 n.kids) := HM0.out.cell 5 (by simp)
  have b0 : w2.cell? ⟨w.heap.size + 1, 0, none⟩ = some (.int .i64 4) := HM1.out.cell 0 (by simp)
  have b1 : w2.cell? ⟨w.heap.size + 1, 1, none⟩ = some (.string ⟨#[]⟩) := HM1.out.cell 1 (by simp)
  have b2 : w2.cell? ⟨w.heap.size + 1, 2, none⟩ = some (.string ⟨#[]⟩) := HM1.out.cell 2 (by simp)
  have b3 : w2.cell? ⟨w.heap.size + 1, 3, none⟩ = some (.bool false) := HM1.out.cell 3 (by simp)
  have b4 : w2.cell? ⟨w.heap.size + 1, 4, none⟩ = some (.int .i64 0) := HM1.out.cell 4 (by simp)
  have b5 : w2.cell? ⟨w.heap.size + 1, 5, none⟩ = some (.int .i64 0) := HM1.out.cell 5 (by simp)
  have f0 : w2.frozen? ⟨w.heap.size + 1, 0, none⟩ = false := HM1.out.frozen 0
  have f1 : w2.frozen? ⟨w.heap.size + 1, 1, none⟩ = false := HM1.out.frozen 1
  have f2 : w2.frozen? ⟨w.heap.size + 1, 2, none⟩ = false := HM1.out.frozen 2
  have f3 : w2.frozen? ⟨w.heap.size + 1, 3, none⟩ = false := HM1.out.frozen 3
  have f4 : w2.frozen? ⟨w.heap.size + 1, 4, none⟩ = false := HM1.out.frozen 4
  have f5 : w2.frozen? ⟨w.heap.size + 1, 5, none⟩ = false := HM1.out.frozen 5
  obtain ⟨w3, hw3⟩ : ∃ w3 : World, w3 = (((((w2.setCell ⟨w.heap.size + 1, 0, none⟩ (.int .i64 4)).setCell ⟨w.heap.size + 1, 1, none⟩ (.string ⟨#[]⟩)).setCell ⟨w.heap.size + 1, 2, none⟩ (.string ⟨n.text.toArray⟩)).setCell ⟨w.heap.size + 1, 3, none⟩ (.bool Y)).setCell ⟨w.heap.size + 1, 4, none⟩ (.int .i64 X)).setCell ⟨w.heap.size + 1, 5, none⟩ (.int .i64 0) := ⟨_, rfl⟩
  have hbut : But w2 w3 (w.heap.size + 1) := by rw [hw3]; exact ((((((But.refl _ _).set _ _).set _ _).set _ _).set _ _).set _ _).set _ _
  have HP0 : Hid (Bl 45 w3 w.heap.size [.int .i64 4, .string ⟨n.key.toArray⟩, .string ⟨n.text.toArray⟩, .bool n.whole, .int .i64 n.int, .int .i64 n.kids]) := HM0.out.but hbut (by omega)
  have HP1 : Hid (Bl 45 w3 (w.heap.size + 1) [.int .i64 4, .string ⟨#[]⟩, .string ⟨n.text.toArray⟩, .bool Y, .int .i64 X, .int .i64 0]) := by rw [hw3]; exact (((((HM1.out.set 0 _).set 1 _).set 2 _).set 3 _).set 4 _).set 5 _
  have HB3 : Hid (Below w.heap.size w w3) := HB2.out.trans (hbut.below HB2.out.size (by omega))
  have HW3 : Hid (w3 = (((((w2.setCell ⟨w.heap.size + 1, 0, none⟩ (.int .i64 4)).setCell ⟨w.heap.size + 1, 1, none⟩ (.string ⟨#[]⟩)).setCell ⟨w.heap.size + 1, 2, none⟩ (.string ⟨n.text.toArray⟩)).setCell ⟨w.heap.size + 1, 3, none⟩ (.bool Y)).setCell ⟨w.heap.size + 1, 4, none⟩ (.int .i64 X)).setCell ⟨w.heap.size + 1, 5, none⟩ (.int .i64 0)) := hw3
  clear hw3 hbut
  go_wp2_with fail
  rw [← HW3.out]
  refine (CV.out w3).mono ?_
  rintro e w4 ⟨rfl, hB4⟩
  clear a0 a1 a2 a3 a4 a5 b0 b1 b2 b3 b4 b5 f0 f1 f2 f3 f4 f5 HW3
  have HB4 : Hid (Below w.heap.size w w4) := HB3.out.trans (hB4.mono HB3.out.size)
  have HQ0 : Hid (Bl 45 w4 w.heap.size [.int .i64 4, .string ⟨n.key.toArray⟩, .string ⟨n.text.toArray⟩, .bool n.whole, .int .i64 n.int, .int .i64 n.kids]) := HP0.out.below hB4 HP0.out.lt
  have HQ1 : Hid (Bl 45 w4 (w.heap.size + 1) [.int .i64 4, .string ⟨#[]⟩, .string ⟨n.text.toArray⟩, .bool Y, .int .i64 X, .int .i64 0]) := HP1.out.below hB4 HP1.out.lt
  clear hB4
  have a0 : w4.cell? ⟨w.heap.size, 0, none⟩ = some (.int .i64 4) := HQ0.out.cell 0 (by simp)
  have a1 : w4.cell? ⟨w.heap.size, 1, none⟩ = some (.string ⟨n.key.toArray⟩) := HQ0.out.cell 1 (by simp)
  have a2 : w4.cell? ⟨w.heap.size, 2, none⟩ = some (.string ⟨n.text.toArray⟩) := HQ0.out.cell 2 (by simp)
  have a3 : w4.cell? ⟨w.heap.size, 3, none⟩ = some (.bool n.whole) := HQ0.out.cell 3 (by simp)
  have a4 : w4.cell? ⟨w.heap.size, 4, none⟩ = some (.int .i64 n.int) := HQ0.out.cell 4 (by simp)
  have a5 : w4.cell? ⟨w.heap.size, 5, none⟩ = some (.int .i64 n.kids) := HQ0.out.cell 5 (by simp)
  have b0 : w4.cell? ⟨w.heap.size + 1, 0, none⟩ = some (.int .i64 4) := HQ1.out.cell 0 (by simp)
  have b1 : w4.cell? ⟨w.heap.size + 1, 1, none⟩ = some (.string ⟨#[]⟩) := HQ1.out.cell 1 (by simp)
  have b2 : w4.cell? ⟨w.heap.size + 1, 2, none⟩ = some (.string ⟨n.text.toArray⟩) := HQ1.out.cell 2 (by simp)
  have b3 : w4.cell? ⟨w.heap.size + 1, 3, none⟩ = some (.bool Y) := HQ1.out.cell 3 (by simp)
  have b4 : w4.cell? ⟨w.heap.size + 1, 4, none⟩ = some (.int .i64 X) := HQ1.out.cell 4 (by simp)
  have b5 : w4.cell? ⟨w.heap.size + 1, 5, none⟩ = some (.int .i64 0) := HQ1.out.cell 5 (by simp)
  have f1 : w4.frozen? ⟨w.heap.size + 1, 1, none⟩ = false := HQ1.out.frozen 1
  have HB5 : Hid (Below w.heap.size w (w4.setCell ⟨w.heap.size + 1, 1, none⟩ (.string ⟨n.key.toArray⟩))) := Below.setCell HB4.out (Nat.le_succ _) _
  cases V
  · have HF2 : Hid (wmF n d = false) := by show _ = _; rw [HF.out]; rfl
    go_wp2
    go_ret
    rw [HF2.out]
    exact ⟨rfl, HB5.out⟩
  · have HF2 : Hid (wmF n d = R) := by show _ = _; rw [HF.out]; rfl
    go_wp2
    go_ret
    rw [HF2.out]
    exact ⟨rfl, HB5.out⟩

theorem wellMade_any {B : Nat} (n : Nd) (d : Int) (w : World) (hl : n.text.length ≤ 1073741824) (hG : GL B w) (hBw : B ≤ w.heap.size) :
    Calls Tryz.prog 62 #[.agg #[.int .i64 n.kind, .string ⟨n.key.toArray⟩, .string ⟨n.text.toArray⟩, .bool n.whole, .int .i64 n.int, .int .i64 n.kids], .int .i64 d] w fun e w' => e = .returned (.bool (wmF n d)) ∧ Below w.heap.size w w' := by
  by_cases h1 : n.kind = 1 ∨ n.kind = 2 ∨ n.kind = 3
  · exact wm_leaf n d w h1
  · by_cases h4 : n.kind = 4
    · exact wm_num n d w h4 hl hG hBw
    · by_cases h5 : n.kind = 5
      · exact wm_str n d w h5 hl hG.u8
      · by_cases h6 : n.kind = 6 ∨ n.kind = 7
        · exact wm_con n d w h6
        · exact wm_bad n d w (by omega) (by omega) (by omega) h4 h5 (by omega) (by omega)

end Go.Proofs.YtfpimcmhooiooaaGreatDoor
