import Derived.Test.YtmngdaolgdhgmaaGreatDoorCSz
import Derived.Test.YtmngdaolgdhgmaaGreatDoorCEn
import Derived.Test.YtmngdaolgdhgmaaGreatDoorCJ
namespace Go.Proofs.YtmngdaolgdhgmaaGreatDoor
open Go.RowKit

set_option maxRecDepth 100000

theorem Nu.sl3 {w : World} {v : Value} {V : Nat} (h : Nu w v V) : Sl3 v := by
  obtain ⟨a, b, c, e⟩ := h.shape
  exact ⟨a, b, c, e⟩
theorem field_nn (c : Int) (h1 : c ≠ 1) (h2 : c ≠ 2) (w : World) : Calls Tryz.prog 8 #[.int .i64 c] w fun e w' => e = .returned (.slice none 0 0) ∧ Below w.heap.size w w' := by
  have hf0 : ∀ (a b c d e f g h : Value) (w : World), Sem.run Tryz.prog (Instr.field 57 (.agg #[a, b, c, d, e, f, g, h]) 0) w = .ok (.agg #[a, b]) w := fun _ _ _ _ _ _ _ _ _ => rfl
  have hf1 : ∀ (a b c d e f g h : Value) (w : World), Sem.run Tryz.prog (Instr.field 57 (.agg #[a, b, c, d, e, f, g, h]) 1) w = .ok c w := fun _ _ _ _ _ _ _ _ _ => rfl
  have hf2 : ∀ (a b c d e f g h : Value) (w : World), Sem.run Tryz.prog (Instr.field 57 (.agg #[a, b, c, d, e, f, g, h]) 2) w = .ok d w := fun _ _ _ _ _ _ _ _ _ => rfl
  have hf3 : ∀ (a b c d e f g h : Value) (w : World), Sem.run Tryz.prog (Instr.field 57 (.agg #[a, b, c, d, e, f, g, h]) 3) w = .ok (.agg #[e, f, g]) w := fun _ _ _ _ _ _ _ _ _ => rfl
  have hf4 : ∀ (a b : Value) (w : World), Sem.run Tryz.prog (Instr.field 54 (.agg #[a, b]) 0) w = .ok a w := fun _ _ _ => rfl
  go_enter Tryz.func8, Tryz.ntmps8
  go_wp2_with fail
  refine (of_none c _ h1 h2).mono ?_
  rintro e w1 ⟨rfl, hB⟩
  have HX : Hid (Below _ _ _) := hB
  clear hB
  go_wp2
  go_ret
  exact ⟨rfl, HX.out⟩
theorem order_nn (c : Int) (h1 : c ≠ 1) (h2 : c ≠ 2) (w : World) : Calls Tryz.prog 9 #[.int .i64 c] w fun e w' => e = .returned (.slice none 0 0) ∧ Below w.heap.size w w' := by
  have hf0 : ∀ (a b c d e f g h : Value) (w : World), Sem.run Tryz.prog (Instr.field 57 (.agg #[a, b, c, d, e, f, g, h]) 0) w = .ok (.agg #[a, b]) w := fun _ _ _ _ _ _ _ _ _ => rfl
  have hf1 : ∀ (a b c d e f g h : Value) (w : World), Sem.run Tryz.prog (Instr.field 57 (.agg #[a, b, c, d, e, f, g, h]) 1) w = .ok c w := fun _ _ _ _ _ _ _ _ _ => rfl
  have hf2 : ∀ (a b c d e f g h : Value) (w : World), Sem.run Tryz.prog (Instr.field 57 (.agg #[a, b, c, d, e, f, g, h]) 2) w = .ok d w := fun _ _ _ _ _ _ _ _ _ => rfl
  have hf3 : ∀ (a b c d e f g h : Value) (w : World), Sem.run Tryz.prog (Instr.field 57 (.agg #[a, b, c, d, e, f, g, h]) 3) w = .ok (.agg #[e, f, g]) w := fun _ _ _ _ _ _ _ _ _ => rfl
  have hf4 : ∀ (a b : Value) (w : World), Sem.run Tryz.prog (Instr.field 54 (.agg #[a, b]) 0) w = .ok a w := fun _ _ _ => rfl
  go_enter Tryz.func9, Tryz.ntmps9
  go_wp2_with fail
  refine (of_none c _ h1 h2).mono ?_
  rintro e w1 ⟨rfl, hB⟩
  have HX : Hid (Below _ _ _) := hB
  clear hB
  go_wp2
  go_ret
  exact ⟨rfl, HX.out⟩
set_option maxHeartbeats 4000000 in
theorem base_nn (c : Int) (h1 : c ≠ 1) (h2 : c ≠ 2) (w : World) : Calls Tryz.prog 10 #[.int .i64 c] w fun e w' => e = .returned (.agg #[.slice none 0 0, .slice none 0 0, .bool false]) ∧ Below w.heap.size w w' := by
  have HF0 : Hid (Fm w (w.alloc (.cells #[.slice none 0 0, .slice none 0 0, .bool false] 26)) [(26, [.slice none 0 0, .slice none 0 0, .bool false])] [] []) := (Fm.nil (w := w) (A := []) ar_nil).push (by simp) 26 [.slice none 0 0, .slice none 0 0, .bool false]
  have hf0 : ∀ (a b c d e f g h : Value) (w : World), Sem.run Tryz.prog (Instr.field 57 (.agg #[a, b, c, d, e, f, g, h]) 0) w = .ok (.agg #[a, b]) w := fun _ _ _ _ _ _ _ _ _ => rfl
  have hf1 : ∀ (a b c d e f g h : Value) (w : World), Sem.run Tryz.prog (Instr.field 57 (.agg #[a, b, c, d, e, f, g, h]) 1) w = .ok c w := fun _ _ _ _ _ _ _ _ _ => rfl
  have hf2 : ∀ (a b c d e f g h : Value) (w : World), Sem.run Tryz.prog (Instr.field 57 (.agg #[a, b, c, d, e, f, g, h]) 2) w = .ok d w := fun _ _ _ _ _ _ _ _ _ => rfl
  have hf3 : ∀ (a b c d e f g h : Value) (w : World), Sem.run Tryz.prog (Instr.field 57 (.agg #[a, b, c, d, e, f, g, h]) 3) w = .ok (.agg #[e, f, g]) w := fun _ _ _ _ _ _ _ _ _ => rfl
  have hf4 : ∀ (a b : Value) (w : World), Sem.run Tryz.prog (Instr.field 54 (.agg #[a, b]) 0) w = .ok a w := fun _ _ _ => rfl
  go_enter Tryz.func10, Tryz.ntmps10
  go_wp2_with fail
  generalize (w.alloc (.cells #[.slice none 0 0, .slice none 0 0, .bool false] 26)) = w0 at *
  refine (of_none c _ h1 h2).mono ?_
  rintro e w1 ⟨rfl, hB⟩
  have HF1 : Hid (Fm _ _ _ _ _) := HF0.out.below hB
  have c0 : w1.cell? ⟨w.heap.size, 0, none⟩ = some (.slice none 0 0) := HF1.out.cell 0 0 (by simp) (by simp)
  have c1 : w1.cell? ⟨w.heap.size, 1, none⟩ = some (.slice none 0 0) := HF1.out.cell 0 1 (by simp) (by simp)
  have c2 : w1.cell? ⟨w.heap.size, 2, none⟩ = some (.bool false) := HF1.out.cell 0 2 (by simp) (by simp)
  have f0 : w1.frozen? ⟨w.heap.size, 0, none⟩ = false := HF1.out.frozen 0 0 (by simp)
  have f1 : w1.frozen? ⟨w.heap.size, 1, none⟩ = false := HF1.out.frozen 0 1 (by simp)
  have f2 : w1.frozen? ⟨w.heap.size, 2, none⟩ = false := HF1.out.frozen 0 2 (by simp)
  clear hB HF0
  go_wp2
  (try simp only [Exit.inBlock, Exit.then])
  have hb := (((But.refl w1 w.heap.size).set 0 (.slice none 0 0)).set 1 (.slice none 0 0)).set 2 (.bool false)
  refine bodyPost_ret (v := .agg #[.slice none 0 0, .slice none 0 0, .bool false]) ?_ rfl ⟨rfl, HF1.out.outB 0 (by simp) hb⟩
  rw [results_cell rfl]; go_simp
set_option maxHeartbeats 4000000 in
theorem basen (c : Int) (h1 : c ≠ 1) (h2 : c ≠ 2) (w : World) : Calls Tryz.prog 15 #[.int .i64 c] w fun e w' => e = .returned (.agg #[.slice none 0 0, .slice none 0 0, .bool false]) ∧ Below w.heap.size w w' := by
  have d1 : (c == 1) = false := by simpa using h1
  have d2 : (c == 2) = false := by simpa using h2
  have HF0 : Hid (Fm w (w.alloc (.cells #[.slice none 0 0, .slice none 0 0, .bool false] 26)) [(26, [.slice none 0 0, .slice none 0 0, .bool false])] [] []) := (Fm.nil (w := w) (A := []) ar_nil).push (by simp) 26 [.slice none 0 0, .slice none 0 0, .bool false]
  have c0 : (w.alloc (.cells #[.slice none 0 0, .slice none 0 0, .bool false] 26)).cell? ⟨w.heap.size, 0, none⟩ = some (.slice none 0 0) := HF0.out.cell 0 0 (by simp) (by simp)
  have c1 : (w.alloc (.cells #[.slice none 0 0, .slice none 0 0, .bool false] 26)).cell? ⟨w.heap.size, 1, none⟩ = some (.slice none 0 0) := HF0.out.cell 0 1 (by simp) (by simp)
  have c2 : (w.alloc (.cells #[.slice none 0 0, .slice none 0 0, .bool false] 26)).cell? ⟨w.heap.size, 2, none⟩ = some (.bool false) := HF0.out.cell 0 2 (by simp) (by simp)
  have f0 : (w.alloc (.cells #[.slice none 0 0, .slice none 0 0, .bool false] 26)).frozen? ⟨w.heap.size, 0, none⟩ = false := HF0.out.frozen 0 0 (by simp)
  have f1 : (w.alloc (.cells #[.slice none 0 0, .slice none 0 0, .bool false] 26)).frozen? ⟨w.heap.size, 1, none⟩ = false := HF0.out.frozen 0 1 (by simp)
  have f2 : (w.alloc (.cells #[.slice none 0 0, .slice none 0 0, .bool false] 26)).frozen? ⟨w.heap.size, 2, none⟩ = false := HF0.out.frozen 0 2 (by simp)
  go_enter Tryz.func15, Tryz.ntmps15
  go_wp2
  (try simp only [Exit.inBlock, Exit.then])
  refine bodyPost_ret (v := .agg #[.slice none 0 0, .slice none 0 0, .bool false]) ?_ rfl ⟨rfl, HF0.out.bel⟩
  rw [results_cell rfl]; go_simp
set_option maxHeartbeats 4000000 in
theorem baseq_1 (w : World) : Calls Tryz.prog 15 #[.int .i64 1] w fun e w' => ∃ r, e = .returned r ∧ Pa w w' r (.A k256x k256y) := by
  have HF0 : Hid (Fm w (w.alloc (.cells #[.slice none 0 0, .slice none 0 0, .bool false] 26)) [(26, [.slice none 0 0, .slice none 0 0, .bool false])] [] []) := (Fm.nil (w := w) (A := []) ar_nil).push (by simp) 26 [.slice none 0 0, .slice none 0 0, .bool false]
  go_enter Tryz.func15, Tryz.ntmps15
  go_wp2_with fail
  generalize (w.alloc (.cells #[.slice none 0 0, .slice none 0 0, .bool false] 26)) = w0 at *
  refine (number_e (n := 8) (V := k256x) (by rfl) (by decide) (by decide +kernel) (by decide +kernel) (by decide +kernel)).mono ?_
  rintro e w1 ⟨r, rfl, m, hB⟩
  obtain ⟨gx0, gx1, gx2, rfl⟩ := m.nk.sl
  have HF1 : Hid (Fm _ _ _ _ _) := HF0.out.below hB
  have HX : Hid (Mk w1 w0.heap.size (.slice gx0 gx1 gx2) k256x 384) := m
  clear m hB
  go_wp2_with fail
  refine (number_e (n := 8) (V := k256y) (by rfl) (by decide) (by decide +kernel) (by decide +kernel) (by decide +kernel)).mono ?_
  rintro e w2 ⟨r, rfl, m, hB⟩
  obtain ⟨gy0, gy1, gy2, rfl⟩ := m.nk.sl
  have HF2 : Hid (Fm _ _ _ _ _) := HF1.out.below hB
  have hsz := HF0.out.sz
  rw [List.length_singleton] at hsz
  have hsz1 := HF1.out.sz
  rw [List.length_singleton] at hsz1
  have HY : Hid (Mk w2 (w.heap.size + 1) (.slice gx0 gx1 gx2) k256x 384 ∧ Mk w2 (w.heap.size + 1) (.slice gy0 gy1 gy2) k256y 384 ∧ Apt (.slice gy0 gy1 gy2) (.slice gx0 gx1 gx2)) := ⟨(HX.out.below hB).base hsz, m.base hsz1, fun g e1 e2 => by have h1 := (World.ownsRow.lt m.1 g e1).1; have h2 := (World.ownsRow.lt HX.out.1 g e2).2; omega⟩
  have c0 : w2.cell? ⟨w.heap.size, 0, none⟩ = some (.slice none 0 0) := HF2.out.cell 0 0 (by simp) (by simp)
  have c1 : w2.cell? ⟨w.heap.size, 1, none⟩ = some (.slice none 0 0) := HF2.out.cell 0 1 (by simp) (by simp)
  have c2 : w2.cell? ⟨w.heap.size, 2, none⟩ = some (.bool false) := HF2.out.cell 0 2 (by simp) (by simp)
  have f0 : w2.frozen? ⟨w.heap.size, 0, none⟩ = false := HF2.out.frozen 0 0 (by simp)
  have f1 : w2.frozen? ⟨w.heap.size, 1, none⟩ = false := HF2.out.frozen 0 1 (by simp)
  have f2 : w2.frozen? ⟨w.heap.size, 2, none⟩ = false := HF2.out.frozen 0 2 (by simp)
  clear m hB hsz hsz1 HF0 HF1 HX
  go_wp2
  (try simp only [Exit.inBlock, Exit.then])
  have hb := (((But.refl w2 w.heap.size).set 0 (.slice gx0 gx1 gx2)).set 1 (.slice gy0 gy1 gy2)).set 2 (.bool false)
  refine bodyPost_ret (v := .agg #[.slice gx0 gx1 gx2, .slice gy0 gy1 gy2, .bool false]) ?_ rfl ⟨_, rfl, ⟨_, _, rfl, (HY.out.1.but hb (by omega)).base (by omega), (HY.out.2.1.but hb (by omega)).base (by omega), HY.out.2.2⟩, HF2.out.outB 0 (by simp) hb⟩
  rw [results_cell rfl]; go_simp
set_option maxHeartbeats 4000000 in
theorem baseq_2 (w : World) : Calls Tryz.prog 15 #[.int .i64 2] w fun e w' => ∃ r, e = .returned r ∧ Pa w w' r (.A k384x k384y) := by
  have HF0 : Hid (Fm w (w.alloc (.cells #[.slice none 0 0, .slice none 0 0, .bool false] 26)) [(26, [.slice none 0 0, .slice none 0 0, .bool false])] [] []) := (Fm.nil (w := w) (A := []) ar_nil).push (by simp) 26 [.slice none 0 0, .slice none 0 0, .bool false]
  go_enter Tryz.func15, Tryz.ntmps15
  go_wp2_with fail
  generalize (w.alloc (.cells #[.slice none 0 0, .slice none 0 0, .bool false] 26)) = w0 at *
  refine (number_e (n := 12) (V := k384x) (by rfl) (by decide) (by decide +kernel) (by decide +kernel) (by decide +kernel)).mono ?_
  rintro e w1 ⟨r, rfl, m, hB⟩
  obtain ⟨gx0, gx1, gx2, rfl⟩ := m.nk.sl
  have HF1 : Hid (Fm _ _ _ _ _) := HF0.out.below hB
  have HX : Hid (Mk w1 w0.heap.size (.slice gx0 gx1 gx2) k384x 384) := m
  clear m hB
  go_wp2_with fail
  refine (number_e (n := 12) (V := k384y) (by rfl) (by decide) (by decide +kernel) (by decide +kernel) (by decide +kernel)).mono ?_
  rintro e w2 ⟨r, rfl, m, hB⟩
  obtain ⟨gy0, gy1, gy2, rfl⟩ := m.nk.sl
  have HF2 : Hid (Fm _ _ _ _ _) := HF1.out.below hB
  have hsz := HF0.out.sz
  rw [List.length_singleton] at hsz
  have hsz1 := HF1.out.sz
  rw [List.length_singleton] at hsz1
  have HY : Hid (Mk w2 (w.heap.size + 1) (.slice gx0 gx1 gx2) k384x 384 ∧ Mk w2 (w.heap.size + 1) (.slice gy0 gy1 gy2) k384y 384 ∧ Apt (.slice gy0 gy1 gy2) (.slice gx0 gx1 gx2)) := ⟨(HX.out.below hB).base hsz, m.base hsz1, fun g e1 e2 => by have h1 := (World.ownsRow.lt m.1 g e1).1; have h2 := (World.ownsRow.lt HX.out.1 g e2).2; omega⟩
  have c0 : w2.cell? ⟨w.heap.size, 0, none⟩ = some (.slice none 0 0) := HF2.out.cell 0 0 (by simp) (by simp)
  have c1 : w2.cell? ⟨w.heap.size, 1, none⟩ = some (.slice none 0 0) := HF2.out.cell 0 1 (by simp) (by simp)
  have c2 : w2.cell? ⟨w.heap.size, 2, none⟩ = some (.bool false) := HF2.out.cell 0 2 (by simp) (by simp)
  have f0 : w2.frozen? ⟨w.heap.size, 0, none⟩ = false := HF2.out.frozen 0 0 (by simp)
  have f1 : w2.frozen? ⟨w.heap.size, 1, none⟩ = false := HF2.out.frozen 0 1 (by simp)
  have f2 : w2.frozen? ⟨w.heap.size, 2, none⟩ = false := HF2.out.frozen 0 2 (by simp)
  clear m hB hsz hsz1 HF0 HF1 HX
  go_wp2
  (try simp only [Exit.inBlock, Exit.then])
  have hb := (((But.refl w2 w.heap.size).set 0 (.slice gx0 gx1 gx2)).set 1 (.slice gy0 gy1 gy2)).set 2 (.bool false)
  refine bodyPost_ret (v := .agg #[.slice gx0 gx1 gx2, .slice gy0 gy1 gy2, .bool false]) ?_ rfl ⟨_, rfl, ⟨_, _, rfl, (HY.out.1.but hb (by omega)).base (by omega), (HY.out.2.1.but hb (by omega)).base (by omega), HY.out.2.2⟩, HF2.out.outB 0 (by simp) hb⟩
  rw [results_cell rfl]; go_simp
/-- What both sides answer of a curve's number. -/
structure Al (c : Int) (F N X Y : Nat) (s : Int) (O : Nat → Nat → Bool → Bool) : Prop where
  pf : ∀ w : World, Calls Tryz.prog 8 #[.int .i64 c] w fun e w' => ∃ r, e = .returned r ∧ Mk w' w.heap.size r F 384 ∧ Below w.heap.size w w'
  df : ∀ w : World, Calls Tryz.prog 12 #[.int .i64 c] w fun e w' => ∃ r, e = .returned r ∧ Mk w' w.heap.size r F 384 ∧ Below w.heap.size w w'
  po : ∀ w : World, Calls Tryz.prog 9 #[.int .i64 c] w fun e w' => ∃ r, e = .returned r ∧ Mk w' w.heap.size r N 384 ∧ Below w.heap.size w w'
  dO : ∀ w : World, Calls Tryz.prog 13 #[.int .i64 c] w fun e w' => ∃ r, e = .returned r ∧ Mk w' w.heap.size r N 384 ∧ Below w.heap.size w w'
  pb : ∀ w : World, Calls Tryz.prog 10 #[.int .i64 c] w fun e w' => ∃ x y, e = .returned (.agg #[x, y, .bool false]) ∧ Mk w' w.heap.size x X 384 ∧ Mk w' w.heap.size y Y 384 ∧ Apt y x ∧ Below w.heap.size w w'
  db : ∀ w : World, Calls Tryz.prog 15 #[.int .i64 c] w fun e w' => ∃ x y, e = .returned (.agg #[x, y, .bool false]) ∧ Mk w' w.heap.size x X 384 ∧ Mk w' w.heap.size y Y 384 ∧ Apt y x ∧ Below w.heap.size w w'
  ps : ∀ w : World, Calls Tryz.prog 16 #[.int .i64 c] w fun e w' => e = .returned (.int .i64 s) ∧ Below w.heap.size w w'
  ds : ∀ w : World, Calls Tryz.prog 17 #[.int .i64 c] w fun e w' => e = .returned (.int .i64 s) ∧ Below w.heap.size w w'
  pn : ∀ (x y : Value) (A B : Nat) (inf : Bool) (w : World), Nu w x A → Nu w y B → Calls Tryz.prog 18 #[.int .i64 c, .agg #[x, y, .bool inf]] w fun e w' => e = .returned (.bool (O A B inf)) ∧ Below w.heap.size w w'
  dn : ∀ (x y : Value) (A B : Nat) (inf : Bool) (w : World), Nu w x A → Nu w y B → Calls Tryz.prog 19 #[.int .i64 c, .agg #[x, y, .bool inf]] w fun e w' => e = .returned (.bool (O A B inf)) ∧ Below w.heap.size w w'
theorem Pa.ptp {w w' : World} {e : Ending} {X Y : Nat} (h : ∃ r, e = .returned r ∧ Pa w w' r (.A X Y)) : ∃ x y, e = .returned (.agg #[x, y, .bool false]) ∧ Mk w' w.heap.size x X 384 ∧ Mk w' w.heap.size y Y 384 ∧ Apt y x ∧ Below w.heap.size w w' := by
  obtain ⟨r, rfl, ⟨⟨x, y, rfl, m1, m2, ma⟩, hB⟩⟩ := h
  exact ⟨x, y, rfl, m1, m2, ma, hB⟩
theorem ptn {w w' : World} {e : Ending} (h : e = .returned (.agg #[.slice none 0 0, .slice none 0 0, .bool false]) ∧ Below w.heap.size w w') : ∃ x y, e = .returned (.agg #[x, y, .bool false]) ∧ Mk w' w.heap.size x 0 384 ∧ Mk w' w.heap.size y 0 384 ∧ Apt y x ∧ Below w.heap.size w w' := by
  obtain ⟨rfl, hB⟩ := h
  exact ⟨_, _, rfl, Mk.none _ _ _, Mk.none _ _ _, (fun g e => by cases e), hB⟩
theorem nnn {w w' : World} {e : Ending} (h : e = .returned (.slice none 0 0) ∧ Below w.heap.size w w') : ∃ r, e = .returned r ∧ Mk w' w.heap.size r 0 384 ∧ Below w.heap.size w w' := by
  obtain ⟨rfl, hB⟩ := h
  exact ⟨_, rfl, Mk.none _ _ _, hB⟩
theorem bel_of {w w' : World} {e e' : Ending} (h : e = e' ∧ w' = w) : e = e' ∧ Below w.heap.size w w' := ⟨h.1, h.2 ▸ Below.refl _ _⟩
theorem Al.kv {c s : Int} {p b n gx gy : Nat} (hk : Kv c p b n gx gy s) : Al c p n gx gy s (onB p b) where
  pf w := field_v hk w
  df w := fieldq hk w
  po w := order_v hk w
  dO w := orderq hk w
  pb w := (base_v hk w).mono fun _ _ h => Pa.ptp h
  db w := by
    cases hk
    · exact (baseq_1 w).mono fun _ _ h => Pa.ptp h
    · exact (baseq_2 w).mono fun _ _ h => Pa.ptp h
  ps w := size_v hk w
  ds w := (sizeq hk w).mono fun _ _ h => bel_of h
  pn x y A B inf w hx hy := on_v hk x y A B inf w hx hy
  dn x y A B inf w hx hy := onq hk x y A B w hx hy inf
theorem Al.none (c : Int) (h1 : c ≠ 1) (h2 : c ≠ 2) : Al c 0 0 0 0 0 (fun _ _ _ => false) where
  pf w := (field_nn c h1 h2 w).mono fun _ _ h => nnn h
  df w := (fieldn c h1 h2 w).mono fun _ _ h => nnn (bel_of h)
  po w := (order_nn c h1 h2 w).mono fun _ _ h => nnn h
  dO w := (ordern c h1 h2 w).mono fun _ _ h => nnn (bel_of h)
  pb w := (base_nn c h1 h2 w).mono fun _ _ h => ptn h
  db w := (basen c h1 h2 w).mono fun _ _ h => ptn h
  ps w := size_none c h1 h2 w
  ds w := (sizen c h1 h2 w).mono fun _ _ h => bel_of h
  pn x y _ _ inf w hx hy := on_none c h1 h2 x y inf w (Nu.sl3 hx) (Nu.sl3 hy)
  dn x y A B inf w hx hy := onn c h1 h2 x y A B w hx hy inf
end Go.Proofs.YtmngdaolgdhgmaaGreatDoor
