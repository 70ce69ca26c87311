import Derived.Test.YtkfchdmlemcjhaaDoorTZ
namespace Go.Proofs.YtkfchdmlemcjhaaDoor
open Go.RowKit Go.Shelf

set_option maxRecDepth 100000 in
set_option maxHeartbeats 4000000 in
theorem wm_leaf (n : Nd) (d : Int) (w : World) (hk : n.kind = 1 ∨ n.kind = 2 ∨ n.kind = 3) :
    Calls Tryd.prog 43 #[.agg #[.int .i64 n.kind, .string ⟨n.key.toArray⟩, .string ⟨n.text.toArray⟩, .bool n.whole, .int .i64 n.int, .int .i64 n.kids], .int .i64 d] w fun e w' => e = .returned (.bool (wmF n d)) ∧ Below w.heap.size w w' := by
  have HF : Hid (wmF n d = decide (n = { nd0 n.kind with key := n.key })) := by show _ = _; unfold wmF; rw [if_pos hk]
  have hr : ∀ w, (binOp .eql 36 (.agg #[.int .i64 n.kind, .string ⟨n.key.toArray⟩, .string ⟨n.text.toArray⟩, .bool n.whole, .int .i64 n.int, .int .i64 n.kids]) (.agg #[.int .i64 n.kind, .string ⟨n.key.toArray⟩, .string ⟨#[]⟩, .bool false, .int .i64 0, .int .i64 0])).run Tryd.prog w = .ok (.bool (decide (n = { nd0 n.kind with key := n.key }))) w := fun w => run_nodes w n { nd0 n.kind with key := n.key }
  obtain ⟨R, hR⟩ : ∃ R, decide (n = { nd0 n.kind with key := n.key }) = R := ⟨_, rfl⟩
  rw [hR] at hr HF
  have HB : Hid (Below w.heap.size w (((w.alloc (.cells #[.int .i64 n.kind, .string ⟨n.key.toArray⟩, .string ⟨n.text.toArray⟩, .bool n.whole, .int .i64 n.int, .int .i64 n.kids] 36)).alloc (.cells #[.int .i64 n.kind, .string ⟨n.key.toArray⟩, .string ⟨#[]⟩, .bool false, .int .i64 0, .int .i64 0] 36)))) := (alloc_below _ _).trans ((alloc_below _ _).mono (by rw [alloc_size]; omega))
  clear hR
  generalize n.kind = K at *
  rcases hk with rfl | rfl | rfl
  all_goals
    go_enter Tryd.func43, Tryd.ntmps43
    go_wp2
    go_ret
    rw [HF.out]
    exact ⟨rfl, HB.out⟩

theorem validString_any (l : List UInt8) (w : World) (hl : l.length ≤ 1073741824) (hT : U8 w) : Calls Tryd.prog 49 #[.string ⟨l.toArray⟩] w fun e w' => e = .returned (.bool (Lib.validD l)) ∧ Below w.heap.size w w' :=
  Any.utf8_ValidString Tryd.laysValid ⟨l.toArray⟩ w (by show l.toArray.size ≤ _; simp; omega) hT

set_option maxRecDepth 100000 in
set_option maxHeartbeats 4000000 in
theorem wm_bad (n : Nd) (d : Int) (w : World) (h1 : n.kind ≠ 1) (h2 : n.kind ≠ 2) (h3 : n.kind ≠ 3) (h4 : n.kind ≠ 4) (h5 : n.kind ≠ 5) (h6 : n.kind ≠ 6) (h7 : n.kind ≠ 7) :
    Calls Tryd.prog 43 #[.agg #[.int .i64 n.kind, .string ⟨n.key.toArray⟩, .string ⟨n.text.toArray⟩, .bool n.whole, .int .i64 n.int, .int .i64 n.kids], .int .i64 d] w fun e w' => e = .returned (.bool (wmF n d)) ∧ Below w.heap.size w w' := by
  have HF : Hid (wmF n d = false) := by show _ = _; unfold wmF; rw [if_neg (by omega), if_neg h4, if_neg h5, if_neg (by omega)]
  have HB : Hid (Below w.heap.size w (((w.alloc (.cells #[.int .i64 n.kind, .string ⟨n.key.toArray⟩, .string ⟨n.text.toArray⟩, .bool n.whole, .int .i64 n.int, .int .i64 n.kids] 36)).alloc (.cells #[.int .i64 n.kind, .string ⟨#[]⟩, .string ⟨#[]⟩, .bool false, .int .i64 0, .int .i64 0] 36)))) := (alloc_below _ _).trans ((alloc_below _ _).mono (by rw [alloc_size]; omega))
  have q1 : (n.kind == 1) = false := by simpa using h1
  have q2 : (n.kind == 2) = false := by simpa using h2
  have q3 : (n.kind == 3) = false := by simpa using h3
  have q4 : (n.kind == 4) = false := by simpa using h4
  have q5 : (n.kind == 5) = false := by simpa using h5
  have q6 : (n.kind == 6) = false := by simpa using h6
  have q7 : (n.kind == 7) = false := by simpa using h7
  clear h1 h2 h3 h4 h5 h6 h7
  generalize n.kind = K at *
  go_enter Tryd.func43, Tryd.ntmps43
  go_wp2
  go_ret
  rw [HF.out]
  exact ⟨rfl, HB.out⟩

set_option maxRecDepth 100000 in
set_option maxHeartbeats 4000000 in
theorem wm_con (n : Nd) (d : Int) (w : World) (hk : n.kind = 6 ∨ n.kind = 7) :
    Calls Tryd.prog 43 #[.agg #[.int .i64 n.kind, .string ⟨n.key.toArray⟩, .string ⟨n.text.toArray⟩, .bool n.whole, .int .i64 n.int, .int .i64 n.kids], .int .i64 d] w fun e w' => e = .returned (.bool (wmF n d)) ∧ Below w.heap.size w w' := by
  have HF : Hid (wmF n d = ((decide (0 ≤ n.kids) && decide (d < 32)) && decide (n = { nd0 n.kind with kids := n.kids, key := n.key }))) := by show _ = _; unfold wmF; rw [if_neg (by omega), if_neg (by omega), if_neg (by omega), if_pos hk]
  have hr : ∀ w, (binOp .eql 36 (.agg #[.int .i64 n.kind, .string ⟨n.key.toArray⟩, .string ⟨n.text.toArray⟩, .bool n.whole, .int .i64 n.int, .int .i64 n.kids]) (.agg #[.int .i64 n.kind, .string ⟨n.key.toArray⟩, .string ⟨#[]⟩, .bool false, .int .i64 0, .int .i64 n.kids])).run Tryd.prog w = .ok (.bool (decide (n = { nd0 n.kind with kids := n.kids, key := n.key }))) w := fun w => run_nodes w n { nd0 n.kind with kids := n.kids, key := n.key }
  obtain ⟨R, hR⟩ : ∃ R, decide (n = { nd0 n.kind with kids := n.kids, key := n.key }) = R := ⟨_, rfl⟩
  rw [hR] at hr HF
  have HB : Hid (Below w.heap.size w (((w.alloc (.cells #[.int .i64 n.kind, .string ⟨n.key.toArray⟩, .string ⟨n.text.toArray⟩, .bool n.whole, .int .i64 n.int, .int .i64 n.kids] 36)).alloc (.cells #[.int .i64 n.kind, .string ⟨n.key.toArray⟩, .string ⟨#[]⟩, .bool false, .int .i64 0, .int .i64 n.kids] 36)))) := (alloc_below _ _).trans ((alloc_below _ _).mono (by rw [alloc_size]; omega))
  clear hR
  generalize n.kind = K at *
  generalize n.kids = J at *
  by_cases hJ : 0 ≤ J
  · have qJ : decide (J ≥ 0) = true := by simpa using hJ
    by_cases hd : d < 32
    · have qd : decide (d < 32) = true := by simpa using hd
      have HF2 : Hid (wmF n d = R) := by show _ = _; rw [HF.out, decide_eq_true hJ, qd]; rfl
      rcases hk with rfl | rfl
      all_goals
        go_enter Tryd.func43, Tryd.ntmps43
        go_wp2
        go_ret
        rw [HF2.out]
        exact ⟨rfl, HB.out⟩
    · have qd : decide (d < 32) = false := by simpa using hd
      have HF2 : Hid (wmF n d = false) := by show _ = _; rw [HF.out, decide_eq_true hJ, qd]; rfl
      rcases hk with rfl | rfl
      all_goals
        go_enter Tryd.func43, Tryd.ntmps43
        go_wp2
        go_ret
        rw [HF2.out]
        exact ⟨rfl, HB.out⟩
  · have qJ : decide (J ≥ 0) = false := by simpa using hJ
    have HF2 : Hid (wmF n d = false) := by show _ = _; rw [HF.out, decide_eq_false hJ]; rfl
    rcases hk with rfl | rfl
    all_goals
      go_enter Tryd.func43, Tryd.ntmps43
      go_wp2
      go_ret
      rw [HF2.out]
      exact ⟨rfl, HB.out⟩

set_option maxRecDepth 100000 in
set_option maxHeartbeats 4000000 in
theorem wm_str (n : Nd) (d : Int) (w : World) (hk : n.kind = 5) (hl : n.text.length ≤ 1073741824) (hT : U8 w) :
    Calls Tryd.prog 43 #[.agg #[.int .i64 n.kind, .string ⟨n.key.toArray⟩, .string ⟨n.text.toArray⟩, .bool n.whole, .int .i64 n.int, .int .i64 n.kids], .int .i64 d] w fun e w' => e = .returned (.bool (wmF n d)) ∧ Below w.heap.size w w' := by
  have HF : Hid (wmF n d = (Lib.validD n.text && decide (n = { nd0 5 with text := n.text, key := n.key }))) := by show _ = _; unfold wmF; rw [if_neg (by omega), if_neg (by omega), if_pos hk]
  have hr : ∀ w, (binOp .eql 36 (.agg #[.int .i64 n.kind, .string ⟨n.key.toArray⟩, .string ⟨n.text.toArray⟩, .bool n.whole, .int .i64 n.int, .int .i64 n.kids]) (.agg #[.int .i64 5, .string ⟨n.key.toArray⟩, .string ⟨n.text.toArray⟩, .bool false, .int .i64 0, .int .i64 0])).run Tryd.prog w = .ok (.bool (decide (n = { nd0 5 with text := n.text, key := n.key }))) w := fun w => run_nodes w n { nd0 5 with text := n.text, key := n.key }
  obtain ⟨R, hR⟩ : ∃ R, decide (n = { nd0 5 with text := n.text, key := n.key }) = R := ⟨_, rfl⟩
  rw [hR] at hr HF
  rw [hk] at hr ⊢
  have hB0 := alloc_below w (.cells #[.int .i64 5, .string ⟨n.key.toArray⟩, .string ⟨n.text.toArray⟩, .bool n.whole, .int .i64 n.int, .int .i64 n.kids] 36)
  have hB1 := alloc_below (w.alloc (.cells #[.int .i64 5, .string ⟨n.key.toArray⟩, .string ⟨n.text.toArray⟩, .bool n.whole, .int .i64 n.int, .int .i64 n.kids] 36)) (.cells #[.int .i64 5, .string ⟨#[]⟩, .string ⟨n.text.toArray⟩, .bool false, .int .i64 0, .int .i64 0] 36)
  have hsz : (w.alloc (.cells #[.int .i64 5, .string ⟨n.key.toArray⟩, .string ⟨n.text.toArray⟩, .bool n.whole, .int .i64 n.int, .int .i64 n.kids] 36)).heap.size = w.heap.size + 1 := alloc_size _ _
  have HB1 : Hid (Below w.heap.size w ((w.alloc (.cells #[.int .i64 5, .string ⟨n.key.toArray⟩, .string ⟨n.text.toArray⟩, .bool n.whole, .int .i64 n.int, .int .i64 n.kids] 36)).alloc (.cells #[.int .i64 5, .string ⟨#[]⟩, .string ⟨n.text.toArray⟩, .bool false, .int .i64 0, .int .i64 0] 36))) := hB0.trans (hB1.mono (by omega))
  have HN0 : Hid (Bl 36 ((w.alloc (.cells #[.int .i64 5, .string ⟨n.key.toArray⟩, .string ⟨n.text.toArray⟩, .bool n.whole, .int .i64 n.int, .int .i64 n.kids] 36)).alloc (.cells #[.int .i64 5, .string ⟨#[]⟩, .string ⟨n.text.toArray⟩, .bool false, .int .i64 0, .int .i64 0] 36)) w.heap.size [.int .i64 5, .string ⟨n.key.toArray⟩, .string ⟨n.text.toArray⟩, .bool n.whole, .int .i64 n.int, .int .i64 n.kids]) := (alloc_bl w [.int .i64 5, .string ⟨n.key.toArray⟩, .string ⟨n.text.toArray⟩, .bool n.whole, .int .i64 n.int, .int .i64 n.kids] 36).below hB1 (by omega)
  have HN1 : Hid (Bl 36 ((w.alloc (.cells #[.int .i64 5, .string ⟨n.key.toArray⟩, .string ⟨n.text.toArray⟩, .bool n.whole, .int .i64 n.int, .int .i64 n.kids] 36)).alloc (.cells #[.int .i64 5, .string ⟨#[]⟩, .string ⟨n.text.toArray⟩, .bool false, .int .i64 0, .int .i64 0] 36)) (w.heap.size + 1) [.int .i64 5, .string ⟨#[]⟩, .string ⟨n.text.toArray⟩, .bool false, .int .i64 0, .int .i64 0]) := by have := alloc_bl (w.alloc (.cells #[.int .i64 5, .string ⟨n.key.toArray⟩, .string ⟨n.text.toArray⟩, .bool n.whole, .int .i64 n.int, .int .i64 n.kids] 36)) [.int .i64 5, .string ⟨#[]⟩, .string ⟨n.text.toArray⟩, .bool false, .int .i64 0, .int .i64 0] 36; rw [hsz] at this; exact this
  have C := validString_any n.text _ hl (hT.below HB1.out)
  obtain ⟨V, hV⟩ : ∃ V, Lib.validD n.text = V := ⟨_, rfl⟩
  rw [hV] at C HF
  clear hR hB0 hB1 hV hk hT
  go_enter Tryd.func43, Tryd.ntmps43
  go_wp2_with fail
  refine C.mono ?_
  clear C
  rintro e w2 ⟨rfl, hB2⟩
  have HB2 : Hid (Below w.heap.size w w2) := HB1.out.trans (hB2.mono HB1.out.size)
  have HM0 : Hid (Bl 36 w2 w.heap.size [.int .i64 5, .string ⟨n.key.toArray⟩, .string ⟨n.text.toArray⟩, .bool n.whole, .int .i64 n.int, .int .i64 n.kids]) := HN0.out.below hB2 HN0.out.lt
  have HM1 : Hid (Bl 36 w2 (w.heap.size + 1) [.int .i64 5, .string ⟨#[]⟩, .string ⟨n.text.toArray⟩, .bool false, .int .i64 0, .int .i64 0]) := HN1.out.below hB2 HN1.out.lt
  clear hB2
  have a0 : w2.cell? ⟨w.heap.size, 0, none⟩ = some (.int .i64 5) := HM0.out.cell 0 (by simp)
  have a1 : w2.cell? ⟨w.heap.size, 1, none⟩ = some (.string ⟨n.key.toArray⟩) := HM0.out.cell 1 (by simp)
  have a2 : w2.cell? ⟨w.heap.size, 2, none⟩ = some (.string ⟨n.text.toArray⟩) := HM0.out.cell 2 (by simp)
  have a3 : w2.cell? ⟨w.heap.size, 3, none⟩ = some (.bool n.whole) := HM0.out.cell 3 (by simp)
  have a4 : w2.cell? ⟨w.heap.size, 4, none⟩ = some (.int .i64 n.int) := HM0.out.cell 4 (by simp)
  have a5 : w2.cell? ⟨w.heap.size, 5, none⟩ = some (.int .i64 n.kids) := HM0.out.cell 5 (by simp)
  have b0 : w2.cell? ⟨w.heap.size + 1, 0, none⟩ = some (.int .i64 5) := HM1.out.cell 0 (by simp)
  have b1 : w2.cell? ⟨w.heap.size + 1, 1, none⟩ = some (.string ⟨#[]⟩) := HM1.out.cell 1 (by simp)
  have b2 : w2.cell? ⟨w.heap.size + 1, 2, none⟩ = some (.string ⟨n.text.toArray⟩) := HM1.out.cell 2 (by simp)
  have b3 : w2.cell? ⟨w.heap.size + 1, 3, none⟩ = some (.bool false) := HM1.out.cell 3 (by simp)
  have b4 : w2.cell? ⟨w.heap.size + 1, 4, none⟩ = some (.int .i64 0) := HM1.out.cell 4 (by simp)
  have b5 : w2.cell? ⟨w.heap.size + 1, 5, none⟩ = some (.int .i64 0) := HM1.out.cell 5 (by simp)
  have f1 : w2.frozen? ⟨w.heap.size + 1, 1, none⟩ = false := HM1.out.frozen 1
  have HB3 : Hid (Below w.heap.size w (w2.setCell ⟨w.heap.size + 1, 1, none⟩ (.string ⟨n.key.toArray⟩))) := Below.setCell HB2.out (Nat.le_succ _) _
  cases V
  · have HF2 : Hid (wmF n d = false) := by show _ = _; rw [HF.out]; rfl
    go_wp2
    go_ret
    rw [HF2.out]
    exact ⟨rfl, HB3.out⟩
  · have HF2 : Hid (wmF n d = R) := by show _ = _; rw [HF.out]; rfl
    go_wp2
    go_ret
    rw [HF2.out]
    exact ⟨rfl, HB3.out⟩

set_option maxRecDepth 100000 in
set_option maxHeartbeats 8000000 in
theorem wm_num {B : Nat} (n : Nd) (d : Int) (w : World) (hk : n.kind = 4) (hl : n.text.length ≤ 1073741824) (hG : GL B w) (hBw : B ≤ w.heap.size) :
    Calls Tryd.prog 43 #[.agg #[.int .i64 n.kind, .string ⟨n.key.toArray⟩, .string ⟨n.text.toArray⟩, .bool n.whole, .int .i64 n.int, .int .i64 n.kids], .int .i64 d] w fun e w' => e = .returned (.bool (wmF n d)) ∧ Below w.heap.size w w' := by
  have HF : Hid (wmF n d = ((Dec.pcut n.text).isSome && decide (n = { numN n.text with key := n.key }))) := by show _ = _; unfold wmF; rw [if_neg (by omega), if_pos hk]
  obtain ⟨X, hX⟩ : ∃ X, X = (numN n.text).int := ⟨_, rfl⟩
  obtain ⟨Y, hY⟩ : ∃ Y, Y = (numN n.text).whole := ⟨_, rfl⟩
  have hr : ∀ w, (binOp .eql 36 (.agg #[.int .i64 n.kind, .string ⟨n.key.toArray⟩, .string ⟨n.text.toArray⟩, .bool n.whole, .int .i64 n.int, .int .i64 n.kids]) (.agg #[.int .i64 4, .string ⟨n.key.toArray⟩, .string ⟨n.text.toArray⟩, .bool Y, .int .i64 X, .int .i64 0])).run Tryd.prog w = .ok (.bool (decide (n = { numN n.text with key := n.key }))) w := fun w => by rw [hX, hY]; exact run_nodes w n { numN n.text with key := n.key }
  obtain ⟨R, hR⟩ : ∃ R, decide (n = { numN n.text with key := n.key }) = R := ⟨_, rfl⟩
  rw [hR] at hr HF
  rw [hk] at hr ⊢
  have hB0 := alloc_below w (.cells #[.int .i64 4, .string ⟨n.key.toArray⟩, .string ⟨n.text.toArray⟩, .bool n.whole, .int .i64 n.int, .int .i64 n.kids] 36)
  have hB1 := alloc_below (w.alloc (.cells #[.int .i64 4, .string ⟨n.key.toArray⟩, .string ⟨n.text.toArray⟩, .bool n.whole, .int .i64 n.int, .int .i64 n.kids] 36)) (.cells #[.int .i64 4, .string ⟨#[]⟩, .string ⟨#[]⟩, .bool false, .int .i64 0, .int .i64 0] 36)
  have hsz : (w.alloc (.cells #[.int .i64 4, .string ⟨n.key.toArray⟩, .string ⟨n.text.toArray⟩, .bool n.whole, .int .i64 n.int, .int .i64 n.kids] 36)).heap.size = w.heap.size + 1 := alloc_size _ _
  have HB1 : Hid (Below w.heap.size w ((w.alloc (.cells #[.int .i64 4, .string ⟨n.key.toArray⟩, .string ⟨n.text.toArray⟩, .bool n.whole, .int .i64 n.int, .int .i64 n.kids] 36)).alloc (.cells #[.int .i64 4, .string ⟨#[]⟩, .string ⟨#[]⟩, .bool false, .int .i64 0, .int .i64 0] 36))) := hB0.trans (hB1.mono (by omega))
  have HN0 : Hid (Bl 36 ((w.alloc (.cells #[.int .i64 4, .string ⟨n.key.toArray⟩, .string ⟨n.text.toArray⟩, .bool n.whole, .int .i64 n.int, .int .i64 n.kids] 36)).alloc (.cells #[.int .i64 4, .string ⟨#[]⟩, .string ⟨#[]⟩, .bool false, .int .i64 0, .int .i64 0] 36)) w.heap.size [.int .i64 4, .string ⟨n.key.toArray⟩, .string ⟨n.text.toArray⟩, .bool n.whole, .int .i64 n.int, .int .i64 n.kids]) := (alloc_bl w [.int .i64 4, .string ⟨n.key.toArray⟩, .string ⟨n.text.toArray⟩, .bool n.whole, .int .i64 n.int, .int .i64 n.kids] 36).below hB1 (by omega)
  have HN1 : Hid (Bl 36 ((w.alloc (.cells #[.int .i64 4, .string ⟨n.key.toArray⟩, .string ⟨n.text.toArray⟩, .bool n.whole, .int .i64 n.int, .int .i64 n.kids] 36)).alloc (.cells #[.int .i64 4, .string ⟨#[]⟩, .string ⟨#[]⟩, .bool false, .int .i64 0, .int .i64 0] 36)) (w.heap.size + 1) [.int .i64 4, .string ⟨#[]⟩, .string ⟨#[]⟩, .bool false, .int .i64 0, .int .i64 0]) := by have := alloc_bl (w.alloc (.cells #[.int .i64 4, .string ⟨n.key.toArray⟩, .string ⟨n.text.toArray⟩, .bool n.whole, .int .i64 n.int, .int .i64 n.kids] 36)) [.int .i64 4, .string ⟨#[]⟩, .string ⟨#[]⟩, .bool false, .int .i64 0, .int .i64 0] 36; rw [hsz] at this; exact this
  have C := numberNode_any (B := B) n.text _ hl (hG.below (HB1.out.mono hBw)) (Nat.le_trans hBw HB1.out.size)
  have C' : Calls Tryd.prog 47 #[.string ⟨n.text.toArray⟩] ((w.alloc (.cells #[.int .i64 4, .string ⟨n.key.toArray⟩, .string ⟨n.text.toArray⟩, .bool n.whole, .int .i64 n.int, .int .i64 n.kids] 36)).alloc (.cells #[.int .i64 4, .string ⟨#[]⟩, .string ⟨#[]⟩, .bool false, .int .i64 0, .int .i64 0] 36)) fun e w' => e = .returned (.agg #[.int .i64 4, .string ⟨#[]⟩, .string ⟨n.text.toArray⟩, .bool Y, .int .i64 X, .int .i64 0]) ∧ Below ((w.alloc (.cells #[.int .i64 4, .string ⟨n.key.toArray⟩, .string ⟨n.text.toArray⟩, .bool n.whole, .int .i64 n.int, .int .i64 n.kids] 36)).alloc (.cells #[.int .i64 4, .string ⟨#[]⟩, .string ⟨#[]⟩, .bool false, .int .i64 0, .int .i64 0] 36)).heap.size ((w.alloc (.cells #[.int .i64 4, .string ⟨n.key.toArray⟩, .string ⟨n.text.toArray⟩, .bool n.whole, .int .i64 n.int, .int .i64 n.kids] 36)).alloc (.cells #[.int .i64 4, .string ⟨#[]⟩, .string ⟨#[]⟩, .bool false, .int .i64 0, .int .i64 0] 36)) w' := by rw [hX, hY]; exact C
  have CV : Hid (∀ w, Calls Tryd.prog 48 #[.string ⟨n.text.toArray⟩] w fun e w' => e = .returned (.bool (Dec.pcut n.text).isSome) ∧ Below w.heap.size w w') := fun w => Dec.valid_any n.text w (by omega)
  obtain ⟨V, hV⟩ : ∃ V, (Dec.pcut n.text).isSome = V := ⟨_, rfl⟩
  rw [hV] at CV HF
  clear hR hB0 hB1 hV hk C hX hY hG
  go_enter Tryd.func43, Tryd.ntmps43
  go_wp2_with fail
  refine C'.mono ?_
  clear C'
  rintro e w2 ⟨rfl, hB2⟩
  have HB2 : Hid (Below w.heap.size w w2) := HB1.out.trans (hB2.mono HB1.out.size)
  have HM0 : Hid (Bl 36 w2 w.heap.size [.int .i64 4, .string ⟨n.key.toArray⟩, .string ⟨n.text.toArray⟩, .bool n.whole, .int .i64 n.int, .int .i64 n.kids]) := HN0.out.below hB2 HN0.out.lt
  have HM1 : Hid (Bl 36 w2 (w.heap.size + 1) [.int .i64 4, .string ⟨#[]⟩, .string ⟨#[]⟩, .bool false, .int .i64 0, .int .i64 0]) := HN1.out.below hB2 HN1.out.lt
  clear hB2
  have a0 : w2.cell? ⟨w.heap.size, 0, none⟩ = some (.int .i64 4) := HM0.out.cell 0 (by simp)
  have a1 : w2.cell? ⟨w.heap.size, 1, none⟩ = some (.string ⟨n.key.toArray⟩) := HM0.out.cell 1 (by simp)
  have a2 : w2.cell? ⟨w.heap.size, 2, none⟩ = some (.string ⟨n.text.toArray⟩) := HM0.out.cell 2 (by simp)
  have a3 : w2.cell? ⟨w.heap.size, 3, none⟩ = some (.bool n.whole) := HM0.out.cell 3 (by simp)
  have a4 : w2.cell? ⟨w.heap.size, 4, none⟩ = some (.int .i64 n.int) := HM0.out.cell 4 (by simp)
  have a5 : w2.cell? ⟨w.heap.size, 5, none⟩ = some (.int .i64 n.kids) := HM0.out.cell 5 (by simp)
  have b0 : w2.cell? ⟨w.heap.size + 1, 0, none⟩ = some (.int .i64 4) := HM1.out.cell 0 (by simp)
  have b1 : w2.cell? ⟨w.heap.size + 1, 1, none⟩ = some (.string ⟨#[]⟩) := HM1.out.cell 1 (by simp)
  have b2 : w2.cell? ⟨w.heap.size + 1, 2, none⟩ = some (.string ⟨#[]⟩) := HM1.out.cell 2 (by simp)
  have b3 : w2.cell? ⟨w.heap.size + 1, 3, none⟩ = some (.bool false) := HM1.out.cell 3 (by simp)
  have b4 : w2.cell? ⟨w.heap.size + 1, 4, none⟩ = some (.int .i64 0) := HM1.out.cell 4 (by simp)
  have b5 : w2.cell? ⟨w.heap.size + 1, 5, none⟩ = some (.int .i64 0) := HM1.out.cell 5 (by simp)
  have f0 : w2.frozen? ⟨w.heap.size + 1, 0, none⟩ = false := HM1.out.frozen 0
  have f1 : w2.frozen? ⟨w.heap.size + 1, 1, none⟩ = false := HM1.out.frozen 1
  have f2 : w2.frozen? ⟨w.heap.size + 1, 2, none⟩ = false := HM1.out.frozen 2
  have f3 : w2.frozen? ⟨w.heap.size + 1, 3, none⟩ = false := HM1.out.frozen 3
  have f4 : w2.frozen? ⟨w.heap.size + 1, 4, none⟩ = false := HM1.out.frozen 4
  have f5 : w2.frozen? ⟨w.heap.size + 1, 5, none⟩ = false := HM1.out.frozen 5
  obtain ⟨w3, hw3⟩ : ∃ w3 : World, w3 = (((((w2.setCell ⟨w.heap.size + 1, 0, none⟩ (.int .i64 4)).setCell ⟨w.heap.size + 1, 1, none⟩ (.string ⟨#[]⟩)).setCell ⟨w.heap.size + 1, 2, none⟩ (.string ⟨n.text.toArray⟩)).setCell ⟨w.heap.size + 1, 3, none⟩ (.bool Y)).setCell ⟨w.heap.size + 1, 4, none⟩ (.int .i64 X)).setCell ⟨w.heap.size + 1, 5, none⟩ (.int .i64 0) := ⟨_, rfl⟩
  have hbut : But w2 w3 (w.heap.size + 1) := by rw [hw3]; exact ((((((But.refl _ _).set _ _).set _ _).set _ _).set _ _).set _ _).set _ _
  have HP0 : Hid (Bl 36 w3 w.heap.size [.int .i64 4, .string ⟨n.key.toArray⟩, .string ⟨n.text.toArray⟩, .bool n.whole, .int .i64 n.int, .int .i64 n.kids]) := HM0.out.but hbut (by omega)
  have HP1 : Hid (Bl 36 w3 (w.heap.size + 1) [.int .i64 4, .string ⟨#[]⟩, .string ⟨n.text.toArray⟩, .bool Y, .int .i64 X, .int .i64 0]) := by rw [hw3]; exact (((((HM1.out.set 0 _).set 1 _).set 2 _).set 3 _).set 4 _).set 5 _
  have HB3 : Hid (Below w.heap.size w w3) := HB2.out.trans (hbut.below HB2.out.size (by omega))
  have HW3 : Hid (w3 = (((((w2.setCell ⟨w.heap.size + 1, 0, none⟩ (.int .i64 4)).setCell ⟨w.heap.size + 1, 1, none⟩ (.string ⟨#[]⟩)).setCell ⟨w.heap.size + 1, 2, none⟩ (.string ⟨n.text.toArray⟩)).setCell ⟨w.heap.size + 1, 3, none⟩ (.bool Y)).setCell ⟨w.heap.size + 1, 4, none⟩ (.int .i64 X)).setCell ⟨w.heap.size + 1, 5, none⟩ (.int .i64 0)) := hw3
  clear hw3 hbut
  go_wp2_with fail
  rw [← HW3.out]
  refine (CV.out w3).mono ?_
  rintro e w4 ⟨rfl, hB4⟩
  clear a0 a1 a2 a3 a4 a5 b0 b1 b2 b3 b4 b5 f0 f1 f2 f3 f4 f5 HW3
  have HB4 : Hid (Below w.heap.size w w4) := HB3.out.trans (hB4.mono HB3.out.size)
  have HQ0 : Hid (Bl 36 w4 w.heap.size [.int .i64 4, .string ⟨n.key.toArray⟩, .string ⟨n.text.toArray⟩, .bool n.whole, .int .i64 n.int, .int .i64 n.kids]) := HP0.out.below hB4 HP0.out.lt
  have HQ1 : Hid (Bl 36 w4 (w.heap.size + 1) [.int .i64 4, .string ⟨#[]⟩, .string ⟨n.text.toArray⟩, .bool Y, .int .i64 X, .int .i64 0]) := HP1.out.below hB4 HP1.out.lt
  clear hB4
  have a0 : w4.cell? ⟨w.heap.size, 0, none⟩ = some (.int .i64 4) := HQ0.out.cell 0 (by simp)
  have a1 : w4.cell? ⟨w.heap.size, 1, none⟩ = some (.string ⟨n.key.toArray⟩) := HQ0.out.cell 1 (by simp)
  have a2 : w4.cell? ⟨w.heap.size, 2, none⟩ = some (.string ⟨n.text.toArray⟩) := HQ0.out.cell 2 (by simp)
  have a3 : w4.cell? ⟨w.heap.size, 3, none⟩ = some (.bool n.whole) := HQ0.out.cell 3 (by simp)
  have a4 : w4.cell? ⟨w.heap.size, 4, none⟩ = some (.int .i64 n.int) := HQ0.out.cell 4 (by simp)
  have a5 : w4.cell? ⟨w.heap.size, 5, none⟩ = some (.int .i64 n.kids) := HQ0.out.cell 5 (by simp)
  have b0 : w4.cell? ⟨w.heap.size + 1, 0, none⟩ = some (.int .i64 4) := HQ1.out.cell 0 (by simp)
  have b1 : w4.cell? ⟨w.heap.size + 1, 1, none⟩ = some (.string ⟨#[]⟩) := HQ1.out.cell 1 (by simp)
  have b2 : w4.cell? ⟨w.heap.size + 1, 2, none⟩ = some (.string ⟨n.text.toArray⟩) := HQ1.out.cell 2 (by simp)
  have b3 : w4.cell? ⟨w.heap.size + 1, 3, none⟩ = some (.bool Y) := HQ1.out.cell 3 (by simp)
  have b4 : w4.cell? ⟨w.heap.size + 1, 4, none⟩ = some (.int .i64 X) := HQ1.out.cell 4 (by simp)
  have b5 : w4.cell? ⟨w.heap.size + 1, 5, none⟩ = some (.int .i64 0) := HQ1.out.cell 5 (by simp)
  have f1 : w4.frozen? ⟨w.heap.size + 1, 1, none⟩ = false := HQ1.out.frozen 1
  have HB5 : Hid (Below w.heap.size w (w4.setCell ⟨w.heap.size + 1, 1, none⟩ (.string ⟨n.key.toArray⟩))) := Below.setCell HB4.out (Nat.le_succ _) _
  cases V
  · have HF2 : Hid (wmF n d = false) := by show _ = _; rw [HF.out]; rfl
    go_wp2
    go_ret
    rw [HF2.out]
    exact ⟨rfl, HB5.out⟩
  · have HF2 : Hid (wmF n d = R) := by show _ = _; rw [HF.out]; rfl
    go_wp2
    go_ret
    rw [HF2.out]
    exact ⟨rfl, HB5.out⟩

theorem wellMade_any {B : Nat} (n : Nd) (d : Int) (w : World) (hl : n.text.length ≤ 1073741824) (hG : GL B w) (hBw : B ≤ w.heap.size) :
    Calls Tryd.prog 43 #[.agg #[.int .i64 n.kind, .string ⟨n.key.toArray⟩, .string ⟨n.text.toArray⟩, .bool n.whole, .int .i64 n.int, .int .i64 n.kids], .int .i64 d] w fun e w' => e = .returned (.bool (wmF n d)) ∧ Below w.heap.size w w' := by
  by_cases h1 : n.kind = 1 ∨ n.kind = 2 ∨ n.kind = 3
  · exact wm_leaf n d w h1
  · by_cases h4 : n.kind = 4
    · exact wm_num n d w h4 hl hG hBw
    · by_cases h5 : n.kind = 5
      · exact wm_str n d w h5 hl hG.u8
      · by_cases h6 : n.kind = 6 ∨ n.kind = 7
        · exact wm_con n d w h6
        · exact wm_bad n d w (by omega) (by omega) (by omega) h4 h5 (by omega) (by omega)

end Go.Proofs.YtkfchdmlemcjhaaDoor

namespace Go.Proofs.YtkfchdmlemcjhaaDoor
open Go.RowKit Go.Shelf

theorem NR.but {w w' : World} {v : Value} {l : List Nd} {ao : Option Addr} {cap mb : Nat} {m : List (Nat × List UInt8)} (h : NR w v l ao cap) (hm : Mp w mb m) (hb : But w w' mb) : NR w' v l ao cap := by
  refine ⟨h.val, h.cap, ?_⟩
  rcases h.cell with h0 | ⟨g, off, e, hg, hc⟩
  · exact .inl h0
  · refine .inr ⟨g, off, e, Nat.lt_of_lt_of_le hg hb.size, fun j u hu => cell_but (hc j u hu) fun hlt => hb.block g hlt fun e2 => ?_⟩
    subst e2
    obtain ⟨es, clk, hw, _⟩ := hm
    have := hc j u hu
    unfold World.cell? at this
    simp only [hw] at this
    cases this

/-- What the nodes' texts are bound by. -/
def TB (l : List Nd) : Prop := ∀ n ∈ l, n.text.length ≤ 1073741824 ∧ n.key.length ≤ 1073741824
theorem TB.at {l : List Nd} (h : TB l) {i : Nat} (hi : i < l.length) : (l.getD i (nd0 0)).text.length ≤ 1073741824 ∧ (l.getD i (nd0 0)).key.length ≤ 1073741824 := by
  refine h _ ?_
  rw [List.getD_eq_getElem?_getD, List.getElem?_eq_getElem hi]
  exact List.getElem_mem hi

set_option maxRecDepth 100000 in
set_option maxHeartbeats 8000000 in
theorem named_any {B : Nat} (v : Value) (l : List Nd) (ao : Option Addr) (cap : Nat) (i : Nat) (around : Int) (mb : Nat) (met : List (Nat × List UInt8)) (w : World) (h : NR w v l ao cap) (hM : Mp w mb met) (hG : GL B w) (_hBw : B ≤ w.heap.size) (ht : TB l) (hi : i < l.length) (ha : around = -1 ∨ (0 ≤ around ∧ around < l.length)) (_hl : l.length ≤ 1000000000) :
    Calls Tryd.prog 44 #[.agg #[v, .map (some mb)], .int .i64 (i : Int), .int .i64 around] w fun e w' => But w w' mb ∧
      (∀ m, nmF l i around met = some m → e = .returned (.bool true) ∧ Mp w' mb m) ∧ (nmF l i around met = none → e = .returned (.bool false)) := by
  obtain ⟨rfl, hc, _⟩ := id h
  obtain ⟨R, hR⟩ : ∃ R, nmF l i around met = R := ⟨_, rfl⟩
  rw [hR]
  have HE : Hid (nmF l i around met = R) := hR
  have htk := (ht.at hi).2
  obtain ⟨g, off, rfl, hcell⟩ := h.at hi
  obtain ⟨Y, hY⟩ : ∃ Y, (l.getD i (nd0 0)).key = Y := ⟨_, rfl⟩
  obtain ⟨W, hW⟩ : ∃ W : World, W = w.alloc (.cells #[.slice (some ⟨g, off, none⟩) l.length cap, .map (some mb)] 70) := ⟨_, rfl⟩
  have hB1 : Below w.heap.size w W := by rw [hW]; exact alloc_below _ _
  have HB1 : Hid (But w W mb) := But.of_below hB1
  have cY : W.cell? ⟨g, off + i * 6 + 1, none⟩ = some (.string ⟨Y.toArray⟩) := cell_but (hcell 1 _ (by omega) (by rw [← hY]; rfl)) fun hg => hB1.block g hg
  have hbx : Bl 70 W w.heap.size [.slice (some ⟨g, off, none⟩) l.length cap, .map (some mb)] := by rw [hW]; exact alloc_bl _ _ _
  have HBX : Hid (Bl 70 W w.heap.size [.slice (some ⟨g, off, none⟩) l.length cap, .map (some mb)]) := hbx
  have x0 : W.cell? ⟨w.heap.size, 0, none⟩ = some (.slice (some ⟨g, off, none⟩) l.length cap) := hbx.cell 0 (by simp)
  have x1 : W.cell? ⟨w.heap.size, 1, none⟩ = some (.map (some mb)) := hbx.cell 1 (by simp)
  have HM1 : Hid (Mp W mb met) := hM.keep (hB1.block mb hM.lt)
  have HN1 : Hid (NR W (.slice (some ⟨g, off, none⟩) l.length cap) l (some ⟨g, off, none⟩) cap) := h.below hB1 (Nat.le_refl _)
  have HU1 : Hid (U8 W) := hG.u8.below hB1
  rw [hY] at htk
  have hdec : (around = -1 ∨ (l.getD around.toNat (nd0 0)).kind = 6) ∨ ¬ (around = -1 ∨ (l.getD around.toNat (nd0 0)).kind = 6) := Classical.em _
  have hkind : around ≠ -1 → ∃ K, (l.getD around.toNat (nd0 0)).kind = K ∧ W.cell? ⟨g, off + around.toNat * 6, none⟩ = some (.int .i64 K) := fun hne => by
    obtain ⟨g', off', e', hc2⟩ := HN1.out.at (i := around.toNat) (by omega)
    cases e'
    have := hc2 0 (.int .i64 (l.getD around.toNat (nd0 0)).kind) (by omega) rfl
    rw [Nat.add_zero] at this
    exact ⟨_, rfl, this⟩
  have HEn : Hid (∀ c : Prop, True) := fun _ => trivial
  clear hcell h hM hG hbx hR HEn
  rcases hdec with hin | hin
  · have HZ : Hid ((if Y = [] then some met else none) = R) := by show _ = _; rw [← HE.out]; unfold nmF; rw [if_pos hin, hY]
    clear HE hY
    by_cases hm1 : around = -1
    · subst hm1
      by_cases hy0 : Y = []
      · subst hy0
        have HZ2 : Hid (R = some met) := HZ.out.symm
        clear HZ hkind hin
        subst hW
        go_enter Tryd.func44, Tryd.ntmps44
        go_wp2
        go_ret
        exact ⟨HB1.out, fun m e => by rw [HZ2.out] at e; cases e; exact ⟨rfl, HM1.out⟩, fun e => by rw [HZ2.out] at e; cases e⟩
      · have HZ2 : Hid (R = none) := by show _ = _; rw [← HZ.out, if_neg hy0]
        have hyb : (Y == []) = false := by simpa using hy0
        clear HZ hkind hin
        subst hW
        go_enter Tryd.func44, Tryd.ntmps44
        go_wp2
        go_ret
        refine ⟨HB1.out, ?_, ?_⟩
        · intro m e; rw [HZ2.out] at e; cases e
        · intro _; first | rfl | simp [hy0]
    · obtain ⟨K, hK, cK⟩ := hkind hm1
      have hK6 : K = 6 := by rw [← hK]; exact hin.resolve_left hm1
      have hz0 : 0 ≤ around ∧ around < l.length := ha.resolve_left hm1
      obtain ⟨z, rfl⟩ : ∃ z : Nat, around = (z : Int) := ⟨around.toNat, by omega⟩
      have hzl : z < l.length := by omega
      clear hz0
      rw [Int.toNat_natCast] at cK
      subst hK6
      by_cases hy0 : Y = []
      · subst hy0
        have HZ2 : Hid (R = some met) := HZ.out.symm
        clear HZ hkind hin hK hm1
        subst hW
        go_enter Tryd.func44, Tryd.ntmps44
        go_wp2
        go_ret
        exact ⟨HB1.out, fun m e => by rw [HZ2.out] at e; cases e; exact ⟨rfl, HM1.out⟩, fun e => by rw [HZ2.out] at e; cases e⟩
      · have HZ2 : Hid (R = none) := by show _ = _; rw [← HZ.out, if_neg hy0]
        have hyb : (Y == []) = false := by simpa using hy0
        clear HZ hkind hin hK hm1
        subst hW
        go_enter Tryd.func44, Tryd.ntmps44
        go_wp2
        go_ret
        refine ⟨HB1.out, ?_, ?_⟩
        · intro m e; rw [HZ2.out] at e; cases e
        · intro _; first | rfl | simp [hy0]
  · have hm1 : around ≠ -1 := fun e => hin (.inl e)
    obtain ⟨K, hK, cK⟩ := hkind hm1
    have hK6 : (K == 6) = false := by
      have : K ≠ 6 := fun e => hin (.inr (by rw [hK]; exact e))
      simpa using this
    have hz0 : 0 ≤ around ∧ around < l.length := ha.resolve_left hm1
    obtain ⟨z, rfl⟩ : ∃ z : Nat, around = (z : Int) := ⟨around.toNat, by omega⟩
    have hzl : z < l.length := by omega
    clear hz0
    rw [Int.toNat_natCast] at cK
    have HZ : Hid ((if Lib.validD Y = true ∧ (z, Y) ∉ met then some (met ++ [(z, Y)]) else none) = R) := by show _ = _; rw [← HE.out]; unfold nmF; rw [if_neg hin, hY, Int.toNat_natCast]
    have CV := validString_any Y W htk HU1.out
    clear HE hY hkind hin hK hm1
    cases hv : Lib.validD Y
    · rw [hv] at CV
      have HZ2 : Hid (R = none) := by show _ = _; rw [← HZ.out, if_neg (by rw [hv]; simp)]
      clear HZ hv
      subst hW
      go_enter Tryd.func44, Tryd.ntmps44
      go_wp2_with fail
      refine CV.mono ?_
      rintro e w2 ⟨rfl, hB2⟩
      go_wp2
      go_ret
      refine ⟨HB1.out.trans (But.of_below hB2), ?_, ?_⟩
      · intro m e; rw [HZ2.out] at e; cases e
      · intro _; rfl
    · rw [hv] at CV
      have HZ3 : Hid ((if (z, Y) ∉ met then some (met ++ [(z, Y)]) else none) = R) := by show _ = _; rw [← HZ.out, hv]; simp
      clear HZ hv
      subst hW
      by_cases hin : (z, Y) ∈ met
      · have HZ2 : Hid (R = none) := by show _ = _; rw [← HZ3.out, if_neg (by simpa using hin)]
        have Hin : Hid ((z, Y) ∈ met) := hin
        clear HZ3 hin
        go_enter Tryd.func44, Tryd.ntmps44
        go_wp2_with fail
        refine CV.mono ?_
        rintro e w2 ⟨rfl, hB2⟩
        have C3 := first_old w2 mb z Y met (HM1.out.keep (hB2.block mb HM1.out.lt)) Hin.out
        have HB2 : Hid (But w w2 mb) := HB1.out.trans (But.of_below hB2)
        have y1 : w2.cell? ⟨w.heap.size, 1, none⟩ = some (.map (some mb)) := (HBX.out.below hB2 HBX.out.lt).cell 1 (by simp)
        clear hB2 x0 x1
        go_wp2_with fail
        refine C3.mono ?_
        rintro e w3 ⟨rfl, hB3⟩
        go_wp2
        go_ret
        refine ⟨HB2.out.trans hB3, ?_, ?_⟩
        · intro m e; rw [HZ2.out] at e; cases e
        · intro _; rfl
      · have HZ2 : Hid (R = some (met ++ [(z, Y)])) := by show _ = _; rw [← HZ3.out, if_pos hin]
        have Hin : Hid ((z, Y) ∉ met) := hin
        clear HZ3 hin
        go_enter Tryd.func44, Tryd.ntmps44
        go_wp2_with fail
        refine CV.mono ?_
        rintro e w2 ⟨rfl, hB2⟩
        have C3 := first_new w2 mb z Y met (HM1.out.keep (hB2.block mb HM1.out.lt)) Hin.out
        have HB2 : Hid (But w w2 mb) := HB1.out.trans (But.of_below hB2)
        have y1 : w2.cell? ⟨w.heap.size, 1, none⟩ = some (.map (some mb)) := (HBX.out.below hB2 HBX.out.lt).cell 1 (by simp)
        clear hB2 x0 x1
        go_wp2_with fail
        refine C3.mono ?_
        rintro e w3 ⟨rfl, hB3, hM3⟩
        go_wp2
        go_ret
        exact ⟨HB2.out.trans hB3, fun m e => by rw [HZ2.out] at e; cases e; exact ⟨rfl, hM3⟩, fun e => by rw [HZ2.out] at e; cases e⟩

end Go.Proofs.YtkfchdmlemcjhaaDoor

namespace Go.Proofs.YtkfchdmlemcjhaaDoor
open Go.RowKit Go.Shelf

/-- What the reading of a shape answers, so deep at most. -/
def ShC (B : Nat) (l : List Nd) (ao : Option Addr) (cap mb f : Nat) : Prop := ∀ (w : World) (i : Nat) (around d : Int) (met : List (Nat × List UInt8)), NR w (.slice ao l.length cap) l ao cap → Mp w mb met → GL B w → B ≤ w.heap.size → i ≤ l.length → (around = -1 ∨ (0 ≤ around ∧ around < l.length)) → d + f = 33 → 0 ≤ d →
    Calls Tryd.prog 36 #[.agg #[.slice ao l.length cap, .map (some mb)], .int .i64 (i : Int), .int .i64 around, .int .i64 d] w fun e w' => But w w' mb ∧
      (∀ j m, svF l f i around d met = some (j, m) → e = .returned (.int .i64 (j : Nat)) ∧ Mp w' mb m) ∧ (svF l f i around d met = none → e = .returned (.int .i64 (-1)))

theorem wm_kids {n : Nd} {d : Int} (h : wmF n d = true) : 0 ≤ n.kids ∧ (0 < n.kids → d < 32) := by
  unfold wmF at h
  split at h
  · have h1 := congrArg Nd.kids (of_decide_eq_true h)
    have h2 : n.kids = 0 := h1
    omega
  · split at h
    · simp only [Bool.and_eq_true] at h
      have h2 : n.kids = 0 := congrArg Nd.kids (of_decide_eq_true h.2)
      omega
    · split at h
      · simp only [Bool.and_eq_true] at h
        have h2 : n.kids = 0 := congrArg Nd.kids (of_decide_eq_true h.2)
        omega
      · split at h
        · simp only [Bool.and_eq_true, decide_eq_true_eq] at h
          omega
        · cases h

set_option maxRecDepth 100000 in
set_option maxHeartbeats 16000000 in
theorem shape_step (B : Nat) (l : List Nd) (ao : Option Addr) (cap mb f : Nat) (ht : TB l) (hl : l.length ≤ 1000000000) (hmb : B ≤ mb) (ih : 1 ≤ f → ShC B l ao cap mb f) : ShC B l ao cap mb (f + 1) := by
  intro w i around d met h hM hG hBw hi ha hd hd0
  obtain ⟨R, hR⟩ : ∃ R, svF l (f + 1) i around d met = R := ⟨_, rfl⟩
  rw [hR]
  have HE : Hid (svF l (f + 1) i around d met = R) := hR
  obtain ⟨W, hW⟩ : ∃ W : World, W = w.alloc (.cells #[.slice ao l.length cap, .map (some mb)] 70) := ⟨_, rfl⟩
  have hB1 : Below w.heap.size w W := by rw [hW]; exact alloc_below _ _
  have hbn : w.heap.size ≠ mb := by have := hM.lt; omega
  have hbx : Bl 70 W w.heap.size [.slice ao l.length cap, .map (some mb)] := by rw [hW]; exact alloc_bl _ _ _
  have HBX : Hid (Bl 70 W w.heap.size [.slice ao l.length cap, .map (some mb)]) := hbx
  have x0 : W.cell? ⟨w.heap.size, 0, none⟩ = some (.slice ao l.length cap) := hbx.cell 0 (by simp)
  have x1 : W.cell? ⟨w.heap.size, 1, none⟩ = some (.map (some mb)) := hbx.cell 1 (by simp)
  have HB1 : Hid (But w W mb) := But.of_below hB1
  have HM1 : Hid (Mp W mb met) := hM.keep (hB1.block mb hM.lt)
  have HN1 : Hid (NR W (.slice ao l.length cap) l ao cap) := h.below hB1 (Nat.le_refl _)
  have HG1 : Hid (GL B W) := hG.below (hB1.mono hBw)
  have hBW : B ≤ W.heap.size := Nat.le_trans hBw hB1.size
  clear h hM hG hbx hR
  by_cases hil : i < l.length
  · have qi : decide ((i : Int) ≥ (l.length : Int)) = false := decide_eq_false (by omega)
    have qN : decide (l.length ≤ i) = false := decide_eq_false (by omega)
    obtain ⟨g, off, rfl, hcell⟩ := HN1.out.at hil
    obtain ⟨n, hn⟩ : ∃ n, l.getD i (nd0 0) = n := ⟨_, rfl⟩
    rw [hn] at hcell
    have Hnn : Hid (n = l.getD i (nd0 0)) := hn.symm
    have k0 := hcell 0 (.int .i64 n.kind) (by omega) rfl
    rw [Nat.add_zero] at k0
    have k1 := hcell 1 (.string ⟨n.key.toArray⟩) (by omega) rfl
    have k2 := hcell 2 (.string ⟨n.text.toArray⟩) (by omega) rfl
    have k3 := hcell 3 (.bool n.whole) (by omega) rfl
    have k4 := hcell 4 (.int .i64 n.int) (by omega) rfl
    have k5 := hcell 5 (.int .i64 n.kids) (by omega) rfl
    have CW := wellMade_any (B := B) n d W (by rw [← hn]; exact (ht.at hil).1) HG1.out hBW
    cases hwm : wmF n d
    · rw [hwm] at CW
      have HZ : Hid (R = none) := by show _ = _; rw [← HE.out]; unfold svF; rw [if_neg (by rw [hn, hwm]; simp)]
      clear HE hwm hcell ih hn
      subst hW
      go_enter Tryd.func36, Tryd.ntmps36
      go_wp2_with fail
      refine CW.mono ?_
      rintro e w2 ⟨rfl, hB2⟩
      go_wp2
      go_ret
      refine ⟨HB1.out.trans (But.of_below hB2), ?_, ?_⟩
      · intro j m e; rw [HZ.out] at e; cases e
      · intro _; rfl
    · rw [hwm] at CW
      have hkk := wm_kids hwm
      have hk0 := hkk.1
      have Hk1 : Hid (0 < n.kids → d < 32) := hkk.2
      have HZ : Hid ((match nmF l i around met with
        | none => none
        | some met' => skF (fun j m => svF l f j (i : Int) (d + 1) m) (l.length + 1) n.kids (i + 1) met') = R) := by
          show _ = _
          rw [← HE.out]
          conv => rhs; unfold svF
          rw [if_pos ⟨hil, by rw [hn]; exact hwm⟩, hn]
          rfl
      have CN : Hid (∀ w2, NR w2 (.slice (some ⟨g, off, none⟩) l.length cap) l (some ⟨g, off, none⟩) cap → Mp w2 mb met → GL B w2 → B ≤ w2.heap.size → Calls Tryd.prog 44 #[.agg #[.slice (some ⟨g, off, none⟩) l.length cap, .map (some mb)], .int .i64 (i : Int), .int .i64 around] w2 fun e w' => But w2 w' mb ∧
        (∀ m, nmF l i around met = some m → e = .returned (.bool true) ∧ Mp w' mb m) ∧ (nmF l i around met = none → e = .returned (.bool false))) := fun w2 h2 m2 g2 b2 => named_any _ l _ cap i around mb met w2 h2 m2 g2 b2 ht hil ha hl
      clear HE hwm hkk hcell hn ha
      cases hnm : nmF l i around met with
      | none =>
        rw [hnm] at CN
        have HZ2 : Hid (R = none) := by show _ = _; rw [← HZ.out, hnm]
        clear HZ hnm ih
        subst hW
        go_enter Tryd.func36, Tryd.ntmps36
        go_wp2_with fail
        refine CW.mono ?_
        clear CW
        rintro e w2 ⟨rfl, hB2⟩
        have y0 : w2.cell? ⟨w.heap.size, 0, none⟩ = some (.slice (some ⟨g, off, none⟩) l.length cap) := (HBX.out.below hB2 HBX.out.lt).cell 0 (by simp)
        have y1 : w2.cell? ⟨w.heap.size, 1, none⟩ = some (.map (some mb)) := (HBX.out.below hB2 HBX.out.lt).cell 1 (by simp)
        have C2 := CN.out w2 (HN1.out.below hB2 (Nat.le_refl _)) (HM1.out.keep (hB2.block mb HM1.out.lt)) (HG1.out.below (hB2.mono hBW)) (Nat.le_trans hBW hB2.size)
        have HB2 : Hid (But w w2 mb) := HB1.out.trans (But.of_below hB2)
        clear hB2 x0 x1 k0 k1 k2 k3 k4 k5
        go_wp2_with fail
        refine C2.mono ?_
        rintro e w3 ⟨hB3, _, h3⟩
        obtain rfl := h3 trivial
        go_wp2
        go_ret
        refine ⟨HB2.out.trans hB3, ?_, ?_⟩
        · intro j m e; rw [HZ2.out] at e; cases e
        · intro _; rfl
      | some met2 =>
        rw [hnm] at CN
        have HZ2 : Hid (skF (fun j m => svF l f j (i : Int) (d + 1) m) (l.length + 1) n.kids (i + 1) met2 = R) := by show _ = _; rw [← HZ.out, hnm]
        clear HZ hnm
        have IH : Hid (1 ≤ f → ShC B l (some ⟨g, off, none⟩) cap mb f) := ih
        clear ih
        subst hW
        go_enter Tryd.func36, Tryd.ntmps36
        go_wp2_with fail
        refine CW.mono ?_
        clear CW
        rintro e w2 ⟨rfl, hB2⟩
        have HBY : Hid (Bl 70 w2 w.heap.size [.slice (some ⟨g, off, none⟩) l.length cap, .map (some mb)]) := HBX.out.below hB2 HBX.out.lt
        have y0 : w2.cell? ⟨w.heap.size, 0, none⟩ = some (.slice (some ⟨g, off, none⟩) l.length cap) := HBY.out.cell 0 (by simp)
        have y1 : w2.cell? ⟨w.heap.size, 1, none⟩ = some (.map (some mb)) := HBY.out.cell 1 (by simp)
        have HM2 : Hid (Mp w2 mb met) := HM1.out.keep (hB2.block mb HM1.out.lt)
        have HN2 : Hid (NR w2 (.slice (some ⟨g, off, none⟩) l.length cap) l (some ⟨g, off, none⟩) cap) := HN1.out.below hB2 (Nat.le_refl _)
        have HG2 : Hid (GL B w2) := HG1.out.below (hB2.mono hBW)
        have C2 := CN.out w2 HN2.out HM2.out HG2.out (Nat.le_trans hBW hB2.size)
        have HB2 : Hid (But w w2 mb) := HB1.out.trans (But.of_below hB2)
        have hBW2 : B ≤ w2.heap.size := Nat.le_trans hBW hB2.size
        clear hB2 x0 x1 k0 k1 k2 k3 k4 k5
        go_wp2_with fail
        refine C2.mono ?_
        clear C2
        rintro e w3 ⟨hB3, h3, _⟩
        obtain ⟨rfl, hM3⟩ := h3 met2 rfl
        clear h3
        have HB3 : Hid (But w w3 mb) := HB2.out.trans hB3
        have HM3 : Hid (Mp w3 mb met2) := hM3
        have HN3 : Hid (NR w3 (.slice (some ⟨g, off, none⟩) l.length cap) l (some ⟨g, off, none⟩) cap) := HN2.out.but HM2.out hB3
        have HG3 : Hid (GL B w3) := HG2.out.below (hB3.below hBW2 hmb)
        have HBZ : Hid (Bl 70 w3 w.heap.size [.slice (some ⟨g, off, none⟩) l.length cap, .map (some mb)]) := HBY.out.but hB3 hbn
        have hBW3 : B ≤ w3.heap.size := Nat.le_trans hBW2 hB3.size
        have z0 : w3.cell? ⟨w.heap.size, 0, none⟩ = some (.slice (some ⟨g, off, none⟩) l.length cap) := HBZ.out.cell 0 (by simp)
        obtain ⟨g', off', e', hc3⟩ := HN3.out.at hil
        cases e'
        obtain ⟨K, hK⟩ : ∃ K, (l.getD i (nd0 0)).kids = K := ⟨_, rfl⟩
        have kK := hc3 5 (.int .i64 K) (by omega) (by rw [← hK]; rfl)
        have HKn : Hid (n.kids = K) := by show _ = _; rw [← hK, ← Hnn.out]
        clear hK
        clear hc3 hB3 hM3 y0 y1
        go_wp2
        go_loopw [9, 40] (fun s9 s40 wx => ∃ (c k : Nat) (m : List (Nat × List UInt8)), s40 = .int .i64 c ∧ s9 = .int .i64 k ∧ k ≤ l.length ∧ c < k ∧ But w wx mb ∧ Mp wx mb m ∧ NR wx (.slice (some ⟨g, off, none⟩) l.length cap) l (some ⟨g, off, none⟩) cap ∧ GL B wx ∧ B ≤ wx.heap.size ∧ Bl 70 wx w.heap.size [.slice (some ⟨g, off, none⟩) l.length cap, .map (some mb)] ∧ skF (fun j m => svF l f j (i : Int) (d + 1) m) (l.length + 1) (K - c) k m = R) (fun s _ _ => l.length - (intOf s).toNat)
        case atStart => exact ⟨0, i + 1, met2, rfl, by go_num, by omega, by omega, HB3.out, HM3.out, HN3.out, HG3.out, hBW3, HBZ.out, by have := HZ2.out; rw [HKn.out] at this; simpa using this⟩
        case round =>
          obtain ⟨c, k, m, rfl, rfl, hk, hck, hb, hm, hnr, hg, hbw, hbl, hsk⟩ := hrel
          have HBr : Hid (But w wr mb) := hb
          have HMr : Hid (Mp wr mb m) := hm
          have HNr : Hid (NR wr (.slice (some ⟨g, off, none⟩) l.length cap) l (some ⟨g, off, none⟩) cap) := hnr
          have HGr : Hid (GL B wr) := hg
          have HLr : Hid (Bl 70 wr w.heap.size [.slice (some ⟨g, off, none⟩) l.length cap, .map (some mb)]) := hbl
          have HSr : Hid (skF (fun j m => svF l f j (i : Int) (d + 1) m) (l.length + 1) (K - c) k m = R) := hsk
          clear hb hm hnr hg hbl hsk
          by_cases hcK : (c : Int) < K
          · have q0 : decide ((c : Int) < K) = true := decide_eq_true hcK
            have hd32 : d < 32 := Hk1.out (by rw [HKn.out]; omega)
            have C4 := IH.out (by omega) wr k (i : Int) (d + 1) m HNr.out HMr.out HGr.out hbw hk (.inr (by omega)) (by omega) (by omega)
            have v0 : wr.cell? ⟨w.heap.size, 0, none⟩ = some (.slice (some ⟨g, off, none⟩) l.length cap) := HLr.out.cell 0 (by simp)
            have v1 : wr.cell? ⟨w.heap.size, 1, none⟩ = some (.map (some mb)) := HLr.out.cell 1 (by simp)
            have HS2 : Hid ((match svF l f k (i : Int) (d + 1) m with
              | none => none
              | some (j, met') => skF (fun j m => svF l f j (i : Int) (d + 1) m) l.length (K - c - 1) j met') = R) := by
                show _ = _
                rw [← HSr.out]
                conv => rhs; unfold skF
                rw [if_pos (by omega)]
                rfl
            clear HSr z0 kK
            cases hsv : svF l f k (i : Int) (d + 1) m with
            | none =>
              rw [hsv] at C4
              have HZ3 : Hid (R = none) := by show _ = _; rw [← HS2.out, hsv]
              clear HS2 hsv
              go_wp2_with fail
              refine C4.mono ?_
              clear C4
              rintro e w5 ⟨hB5, _, h5⟩
              obtain rfl := h5 trivial
              go_wp2
              go_ret
              refine ⟨HBr.out.trans hB5, ?_, ?_⟩
              · intro j m e; rw [HZ3.out] at e; cases e
              · intro _; rfl
            | some jm =>
              obtain ⟨j, m2⟩ := jm
              rw [hsv] at C4
              have hgt := svF_gt f k _ _ m j m2 hsv
              have hj1 := hgt.1
              have hj2 := hgt.2
              have HZ3 : Hid (skF (fun j m => svF l f j (i : Int) (d + 1) m) (l.length + 1) (K - ((c + 1 : Nat) : Int)) j m2 = R) := by
                show _ = _
                rw [← HS2.out, hsv]
                show _ = skF _ l.length (K - c - 1) j m2
                rw [skF_fuel (v := l) (fun i m j m' h => svF_gt f i _ _ m j m' h) (fun i m h => svF_out f i _ _ m h) (l.length + 1) l.length _ j m2 (by omega) (by omega)]
                congr 1
                omega
              clear HS2 hsv hgt
              go_wp2_with fail
              refine C4.mono ?_
              clear C4
              rintro e w5 ⟨hB5, h5, _⟩
              obtain ⟨rfl, hM5⟩ := h5 j m2 rfl
              clear h5
              have HB5 : Hid (But w w5 mb) := HBr.out.trans hB5
              have HN5 : Hid (NR w5 (.slice (some ⟨g, off, none⟩) l.length cap) l (some ⟨g, off, none⟩) cap) := HNr.out.but HMr.out hB5
              have HG5 : Hid (GL B w5) := HGr.out.below (hB5.below hbw hmb)
              have HL5 : Hid (Bl 70 w5 w.heap.size [.slice (some ⟨g, off, none⟩) l.length cap, .map (some mb)]) := HLr.out.but hB5 hbn
              have hbw5 : B ≤ w5.heap.size := Nat.le_trans hbw hB5.size
              have HM5 : Hid (Mp w5 mb m2) := hM5
              have q5 : decide ((j : Int) < 0) = false := decide_eq_false (by omega)
              clear hB5 hM5 v0 v1
              go_wp2
              go_roundw
              case rel => exact ⟨c + 1, j, m2, by go_num, rfl, hj2, by omega, HB5.out, HM5.out, HN5.out, HG5.out, hbw5, HL5.out, HZ3.out⟩
              case measure => simp [intOf]; omega
          · have q0 : decide ((c : Int) < K) = false := decide_eq_false hcK
            have HZ3 : Hid (R = some (k, m)) := by show _ = _; rw [← HSr.out]; unfold skF; rw [if_neg (by omega)]
            clear HSr
            go_wp2
            go_ret
            refine ⟨HBr.out, ?_, ?_⟩
            · intro j m e; rw [HZ3.out] at e; cases e; exact ⟨rfl, HMr.out⟩
            · intro e; rw [HZ3.out] at e; cases e
  · have qi : decide ((i : Int) ≥ (l.length : Int)) = true := decide_eq_true (by omega)
    have HZ : Hid (R = none) := by show _ = _; rw [← HE.out, svF_out _ _ _ _ _ (by omega)]
    clear HE ih
    subst hW
    go_enter Tryd.func36, Tryd.ntmps36
    go_wp2
    go_ret
    refine ⟨HB1.out, ?_, ?_⟩
    · intro j m e; rw [HZ.out] at e; cases e
    · intro _; rfl

theorem shape_all (B : Nat) (l : List Nd) (ao : Option Addr) (cap mb : Nat) (ht : TB l) (hl : l.length ≤ 1000000000) (hmb : B ≤ mb) : ∀ f, ShC B l ao cap mb (f + 1)
  | 0 => shape_step B l ao cap mb 0 ht hl hmb (fun h => by omega)
  | f + 1 => shape_step B l ao cap mb (f + 1) ht hl hmb (fun _ => shape_all B l ao cap mb ht hl hmb f)

end Go.Proofs.YtkfchdmlemcjhaaDoor

namespace Go.Proofs.YtkfchdmlemcjhaaDoor
open Go.RowKit Go.Shelf

set_option maxRecDepth 100000 in
set_option maxHeartbeats 4000000 in
theorem shaped_any (v : Value) (l : List Nd) (ao : Option Addr) (cap : Nat) (w : World) (h : NR w v l ao cap) (hG : GL w.heap.size w) (ht : TB l) (hl : l.length ≤ 1000000000) :
    Calls Tryd.prog 27 #[v] w fun e w' => e = .returned (.bool (shapedF l)) ∧ Below w.heap.size w w' := by
  obtain ⟨rfl, hc, _⟩ := id h
  have hmm := @run_makeMap Tryd.prog
  have hsz1 : (w.alloc (Obj.map #[] 0)).heap.size = w.heap.size + 1 := alloc_size _ _
  have hB1 : Below w.heap.size w (w.alloc (Obj.map #[] 0)) := alloc_below _ _
  have hB2 : Below w.heap.size w ((w.alloc (Obj.map #[] 0)).alloc (Obj.cells #[.slice ao l.length cap, .map (some w.heap.size)] 70)) := hB1.trans ((alloc_below _ _).mono (by omega))
  have hM1 : (w.alloc (Obj.map #[] 0)).heap[w.heap.size]? = some (.map #[] 0) := by unfold World.alloc; simp
  have hM2 : ((w.alloc (Obj.map #[] 0)).alloc (Obj.cells #[.slice ao l.length cap, .map (some w.heap.size)] 70)).heap[w.heap.size]? = some (.map #[] 0) := by rw [(alloc_below _ _).block _ (by omega)]; exact hM1
  have hMp : Mp ((w.alloc (Obj.map #[] 0)).alloc (Obj.cells #[.slice ao l.length cap, .map (some w.heap.size)] 70)) w.heap.size [] := ⟨#[], 0, hM2, rfl, fun e he => by simp at he, fun e he => by simp at he, by simp⟩
  have C := shape_all w.heap.size l ao cap w.heap.size ht hl (Nat.le_refl _) 32 _ 0 (-1) 0 [] (h.below hB2 (Nat.le_refl _)) hMp (hG.below hB2) hB2.size (Nat.zero_le _) (.inl rfl) (by omega) (Int.le_refl _)
  have HB2 : Hid (Below w.heap.size w ((w.alloc (Obj.map #[] 0)).alloc (Obj.cells #[.slice ao l.length cap, .map (some w.heap.size)] 70))) := hB2
  have HF : Hid (∀ j m, svF l 33 0 (-1) 0 [] = some (j, m) → shapedF l = decide (j = l.length)) := fun j m e => by unfold shapedF; rw [e]
  have HN : Hid (svF l 33 0 (-1) 0 [] = none → shapedF l = false) := fun e => by unfold shapedF; rw [e]
  clear hB1 hB2 hM1 hM2 hMp hG h hsz1
  cases hsv : svF l 33 0 (-1) 0 [] with
  | none =>
    rw [hsv] at C
    have HZ : Hid (shapedF l = false) := HN.out hsv
    clear hsv HF HN
    have hq : ((-1 : Int) == (l.length : Int)) = false := by
      have : (-1 : Int) ≠ (l.length : Int) := by omega
      simp
    go_enter Tryd.func27, Tryd.ntmps27
    go_wp2_with fail
    refine C.mono ?_
    rintro e w2 ⟨hB2, _, h2⟩
    obtain rfl := h2 trivial
    have HB3 : Hid (Below w.heap.size w w2) := HB2.out.trans (hB2.below HB2.out.size (Nat.le_refl _))
    clear hB2 h2
    go_wp2
    go_ret
    rw [HZ.out]
    exact ⟨rfl, HB3.out⟩
  | some jm =>
    obtain ⟨j, m⟩ := jm
    rw [hsv] at C
    have HZ : Hid (shapedF l = decide (j = l.length)) := HF.out j m hsv
    clear hsv HF HN
    go_enter Tryd.func27, Tryd.ntmps27
    go_wp2_with fail
    refine C.mono ?_
    rintro e w2 ⟨hB2, h2, _⟩
    obtain ⟨rfl, _⟩ := h2 j m rfl
    have HB3 : Hid (Below w.heap.size w w2) := HB2.out.trans (hB2.below HB2.out.size (Nat.le_refl _))
    clear hB2 h2
    go_wp2
    go_ret
    rw [HZ.out]
    refine ⟨?_, HB3.out⟩
    by_cases hj : j = l.length
    · simp [hj]
    · have : ¬ ((j : Int) = (l.length : Int)) := by omega
      simp [hj, this]

end Go.Proofs.YtkfchdmlemcjhaaDoor
