import Derived.Test.YthlfboaidhgnlaaGreatDoorCk
namespace Go.Proofs.YthlfboaidhgnlaaGreatDoor
open Go.RowKit

set_option maxRecDepth 100000 in
set_option maxHeartbeats 4000000 in
theorem allowed_any (l : Int) (w : World) : Calls Tryz.prog 28 #[.int .i64 l] w fun e w' => e = .returned (.bool (decide (0 ≤ l ∧ l ≤ 600))) ∧ w' = w := by
  by_cases h0 : 0 ≤ l
  · have q0 : decide (0 ≤ l) = true := decide_eq_true h0
    by_cases h6 : l ≤ 600
    · have q6 : decide (l ≤ 600) = true := decide_eq_true h6
      have HF : Hid (decide (0 ≤ l ∧ l ≤ 600) = true) := decide_eq_true ⟨h0, h6⟩
      clear h0 h6
      go_enter Tryz.func28, Tryz.ntmps28
      go_wp2
      go_ret
      rw [HF.out]
      exact ⟨rfl, rfl⟩
    · have q6 : decide (l ≤ 600) = false := decide_eq_false h6
      have HF : Hid (decide (0 ≤ l ∧ l ≤ 600) = false) := decide_eq_false (fun h => h6 h.2)
      clear h0 h6
      go_enter Tryz.func28, Tryz.ntmps28
      go_wp2
      go_ret
      rw [HF.out]
      exact ⟨rfl, rfl⟩
  · have q0 : decide (0 ≤ l) = false := decide_eq_false h0
    have HF : Hid (decide (0 ≤ l ∧ l ≤ 600) = false) := decide_eq_false (fun h => h0 h.1)
    clear h0
    go_enter Tryz.func28, Tryz.ntmps28
    go_wp2
    go_ret
    rw [HF.out]
    exact ⟨rfl, rfl⟩

set_option maxRecDepth 100000 in
set_option maxHeartbeats 4000000 in
theorem firstAt_any (t : Tm) (l : Int) (w : World) (ht : I64 t.at_) (h0 : 0 ≤ l) (h6 : l ≤ 600) : Calls Tryz.prog 30 #[.agg #[.bool t.has, .int .i64 t.at_], .int .i64 l] w fun e w' => e = .returned (.int .i64 (fstF t l)) ∧ Below w.heap.size w w' := by
  obtain ⟨has, a⟩ := t
  dsimp only
  have ha : -9223372036854775808 ≤ a ∧ a ≤ 9223372036854775807 := ht
  obtain ⟨ha1, ha2⟩ := ha
  clear ht
  obtain ⟨W, hW⟩ : ∃ W : World, w.alloc (.cells #[.bool has, .int .i64 a] 25) = W := ⟨_, rfl⟩
  have hB : Below w.heap.size w W := by rw [← hW]; exact alloc_below _ _
  have hbl : Bl 25 W w.heap.size [.bool has, .int .i64 a] := by rw [← hW]; exact alloc_bl _ _ _
  have c0 : W.cell? ⟨w.heap.size, 0, none⟩ = some (.bool has) := hbl.cell 0 (by simp)
  have c1 : W.cell? ⟨w.heap.size, 1, none⟩ = some (.int .i64 a) := hbl.cell 1 (by simp)
  have HB : Hid (Below w.heap.size w W) := hB
  clear hB hbl
  cases has
  · have HF : Hid (fstF ⟨false, a⟩ l = -9223372036854775808) := by show _ = _; unfold fstF; exact if_pos (Or.inl rfl)
    go_enter Tryz.func30, Tryz.ntmps30
    go_wp2
    go_ret
    rw [HF.out]
    exact ⟨rfl, HB.out⟩
  · by_cases hx : a < -9223372036854775808 + l
    · have HF : Hid (fstF ⟨true, a⟩ l = -9223372036854775808) := by show _ = _; unfold fstF; exact if_pos (Or.inr hx)
      have qx : decide (a < -9223372036854775808 + l) = true := decide_eq_true hx
      go_enter Tryz.func30, Tryz.ntmps30
      go_wp2
      go_ret
      rw [HF.out]
      exact ⟨rfl, HB.out⟩
    · have HF : Hid (fstF ⟨true, a⟩ l = a - l) := by show _ = _; unfold fstF; exact if_neg (fun h => h.elim (fun h => by cases h) hx)
      have qx : decide (a < -9223372036854775808 + l) = false := decide_eq_false hx
      go_enter Tryz.func30, Tryz.ntmps30
      go_wp2
      go_ret
      rw [HF.out]
      exact ⟨rfl, HB.out⟩

/-- What lastAhead answers. -/
def laV (o : Option Int) : Value := match o with
  | none => .tuple #[.int .i64 0, .bool false]
  | some x => .tuple #[.int .i64 x, .bool true]
set_option maxRecDepth 100000 in
set_option maxHeartbeats 4000000 in
theorem lastAhead_any (t : Tm) (l : Int) (w : World) (ht : I64 t.at_) (h0 : 0 ≤ l) (h6 : l ≤ 600) : Calls Tryz.prog 29 #[.agg #[.bool t.has, .int .i64 t.at_], .int .i64 l] w fun e w' => e = .returned (laV (lstF t l)) ∧ Below w.heap.size w w' := by
  obtain ⟨has, a⟩ := t
  dsimp only
  have ha : -9223372036854775808 ≤ a ∧ a ≤ 9223372036854775807 := ht
  obtain ⟨ha1, ha2⟩ := ha
  clear ht
  obtain ⟨W, hW⟩ : ∃ W : World, w.alloc (.cells #[.bool has, .int .i64 a] 25) = W := ⟨_, rfl⟩
  have hB : Below w.heap.size w W := by rw [← hW]; exact alloc_below _ _
  have hbl : Bl 25 W w.heap.size [.bool has, .int .i64 a] := by rw [← hW]; exact alloc_bl _ _ _
  have c0 : W.cell? ⟨w.heap.size, 0, none⟩ = some (.bool has) := hbl.cell 0 (by simp)
  have c1 : W.cell? ⟨w.heap.size, 1, none⟩ = some (.int .i64 a) := hbl.cell 1 (by simp)
  have HB : Hid (Below w.heap.size w W) := hB
  clear hB hbl
  cases has
  · have HF : Hid (lstF ⟨false, a⟩ l = some 9223372036854775807) := by show _ = _; unfold lstF; exact if_pos (Or.inl rfl)
    go_enter Tryz.func29, Tryz.ntmps29
    go_wp2
    go_ret2
    rw [HF.out]
    exact ⟨rfl, HB.out⟩
  · by_cases hx : 9223372036854775807 - l < a
    · have HF : Hid (lstF ⟨true, a⟩ l = some 9223372036854775807) := by show _ = _; unfold lstF; exact if_pos (Or.inr hx)
      have qx : decide (a > 9223372036854775807 - l) = true := decide_eq_true hx
      go_enter Tryz.func29, Tryz.ntmps29
      go_wp2
      go_ret2
      rw [HF.out]
      exact ⟨rfl, HB.out⟩
    · have qx : decide (a > 9223372036854775807 - l) = false := decide_eq_false hx
      by_cases hz : a + l = -9223372036854775808
      · have HF : Hid (lstF ⟨true, a⟩ l = none) := by show _ = _; unfold lstF; rw [if_neg (fun h => h.elim (fun h => by cases h) hx)]; exact if_pos hz
        have qz : (a + l == -9223372036854775808) = true := by simpa using hz
        clear hz
        go_enter Tryz.func29, Tryz.ntmps29
        go_wp2
        go_ret2
        rw [HF.out]
        exact ⟨rfl, HB.out⟩
      · have HF : Hid (lstF ⟨true, a⟩ l = some (a + l - 1)) := by show _ = _; unfold lstF; rw [if_neg (fun h => h.elim (fun h => by cases h) hx)]; exact if_neg hz
        have qz : (a + l == -9223372036854775808) = false := by simpa using hz
        go_enter Tryz.func29, Tryz.ntmps29
        go_wp2
        go_ret2
        rw [HF.out]
        exact ⟨rfl, HB.out⟩

end Go.Proofs.YthlfboaidhgnlaaGreatDoor
