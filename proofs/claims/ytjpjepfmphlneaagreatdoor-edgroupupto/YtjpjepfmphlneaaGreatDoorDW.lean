import Derived.Test.YtjpjepfmphlneaaGreatDoorGB
namespace Go.Proofs.YtjpjepfmphlneaaGreatDoor
open Go.RowKit

set_option maxRecDepth 100000

theorem Mk.le {w : World} {b : Nat} {v : Value} {V k m : Nat} (h : Mk w b v V k) (hk : k ≤ m) : Mk w b v V m := ⟨h.1, h.2.1, Nat.lt_of_lt_of_le h.2.2 (pw_mono hk)⟩
theorem Mk.none (w : World) (b k : Nat) : Mk w b (.slice none 0 0) 0 k := ⟨by rw [dg_zero]; exact Ow.nil w b, by rw [dg_zero]; exact Nat.zero_le _, Nat.pow_pos (by decide)⟩
theorem Nk.none (w : World) (k : Nat) : Nk w (.slice none 0 0) 0 k := ⟨⟨[], ⟨Option.none, 0, rfl, Nat.le_refl _, Rn.nil _ _, fun y hy => by cases hy⟩, rfl, Nat.zero_le _⟩, Nat.pow_pos (by decide)⟩
theorem ar_nil {w : World} : ∀ q ∈ ([] : List (Value × Nat × Nat)), Nk w q.1 q.2.1 q.2.2 := fun q hq => by cases hq
theorem ar_cons {w : World} {v : Value} {V k : Nat} {A : List (Value × Nat × Nat)} (h : Nk w v V k) (hA : ∀ q ∈ A, Nk w q.1 q.2.1 q.2.2) : ∀ q ∈ (v, V, k) :: A, Nk w q.1 q.2.1 q.2.2 := fun q hq => by
  rcases List.mem_cons.1 hq with rfl | hq
  · exact h
  · exact hA q hq
/-- A ratio's four numbers. -/
def Q4 (w : World) (v : Value) (r : R4) : Prop := ∃ x y z t, v = .agg #[x, y, z, t] ∧ Nk w x r.x 256 ∧ Nk w y r.y 256 ∧ Nk w z r.z 256 ∧ Nk w t r.t 256
theorem Q4.below {w w' : World} {v : Value} {r : R4} {n : Nat} (h : Q4 w v r) (hb : Below n w w') (hn : w.heap.size ≤ n) : Q4 w' v r := by
  obtain ⟨x, y, z, t, e, h1, h2, h3, h4⟩ := h
  exact ⟨x, y, z, t, e, h1.below hb hn, h2.below hb hn, h3.below hb hn, h4.below hb hn⟩
/-- A ratio in new memory. -/
def Qm (w : World) (b : Nat) (v : Value) (r : R4) : Prop := ∃ x y z t, v = .agg #[x, y, z, t] ∧ Mk w b x r.x 256 ∧ Mk w b y r.y 256 ∧ Mk w b z r.z 256 ∧ Mk w b t r.t 256
theorem Qm.q4 {w : World} {b : Nat} {v : Value} {r : R4} (h : Qm w b v r) : Q4 w v r := by
  obtain ⟨x, y, z, t, e, h1, h2, h3, h4⟩ := h
  exact ⟨x, y, z, t, e, h1.nk, h2.nk, h3.nk, h4.nk⟩
theorem Qm.but {w w' : World} {b x : Nat} {v : Value} {r : R4} (h : Qm w b v r) (hb : But w w' x) (hx : x < b) : Qm w' b v r := by
  obtain ⟨x, y, z, t, e, h1, h2, h3, h4⟩ := h
  exact ⟨x, y, z, t, e, h1.but hb hx, h2.but hb hx, h3.but hb hx, h4.but hb hx⟩
theorem Qm.below {w w' : World} {b : Nat} {v : Value} {r : R4} (h : Qm w b v r) (hb : Below w.heap.size w w') : Qm w' b v r := by
  obtain ⟨x, y, z, t, e, h1, h2, h3, h4⟩ := h
  exact ⟨x, y, z, t, e, h1.below hb, h2.below hb, h3.below hb, h4.below hb⟩
theorem Qm.base {w : World} {b b' : Nat} {v : Value} {r : R4} (h : Qm w b v r) (hb : b' ≤ b) : Qm w b' v r := by
  obtain ⟨x, y, z, t, e, h1, h2, h3, h4⟩ := h
  exact ⟨x, y, z, t, e, h1.base hb, h2.base hb, h3.base hb, h4.base hb⟩
theorem Q4.shape {w : World} {v : Value} {r : R4} (h : Q4 w v r) : ∃ x0 x1 x2 y0 y1 y2 z0 z1 z2 t0 t1 t2, v = .agg #[.slice x0 x1 x2, .slice y0 y1 y2, .slice z0 z1 z2, .slice t0 t1 t2] := by
  obtain ⟨x, y, z, t, rfl, h1, h2, h3, h4⟩ := h
  obtain ⟨x0, x1, x2, rfl⟩ := h1.sl
  obtain ⟨y0, y1, y2, rfl⟩ := h2.sl
  obtain ⟨z0, z1, z2, rfl⟩ := h3.sl
  obtain ⟨t0, t1, t2, rfl⟩ := h4.sl
  exact ⟨_, _, _, _, _, _, _, _, _, _, _, _, rfl⟩
/-- A point as an answer: new memory, both coordinates apart. -/
def Pe (w : World) (b : Nat) (v : Value) (P : Nat × Nat) : Prop := ∃ x y, v = .agg #[x, y, .bool false] ∧ Mk w b x P.1 256 ∧ Mk w b y P.2 256 ∧ Apt y x
theorem Pe.below {w w' : World} {b : Nat} {v : Value} {P : Nat × Nat} (h : Pe w b v P) (hb : Below w.heap.size w w') : Pe w' b v P := by
  obtain ⟨x, y, e, h1, h2, h3⟩ := h
  exact ⟨x, y, e, h1.below hb, h2.below hb, h3⟩
theorem Pe.base {w : World} {b b' : Nat} {v : Value} {P : Nat × Nat} (h : Pe w b v P) (hb : b' ≤ b) : Pe w b' v P := by
  obtain ⟨x, y, e, h1, h2, h3⟩ := h
  exact ⟨x, y, e, h1.base hb, h2.base hb, h3⟩
theorem Pe.but {w w' : World} {b x : Nat} {v : Value} {P : Nat × Nat} (h : Pe w b v P) (hb : But w w' x) (hx : x < b) : Pe w' b v P := by
  obtain ⟨x, y, e, h1, h2, h3⟩ := h
  exact ⟨x, y, e, h1.but hb hx, h2.but hb hx, h3⟩
set_option maxHeartbeats 4000000 in
theorem neutral_v (w : World) : Calls Tryz.prog 56 #[] w fun e w' => ∃ v, e = .returned v ∧ Qm w' w.heap.size v q0 ∧ Below w.heap.size w w' := by
  have HF0 : Hid (Fm w (w.alloc (.cells #[.slice none 0 0, .slice none 0 0, .slice none 0 0, .slice none 0 0] 68)) [(68, [.slice none 0 0, .slice none 0 0, .slice none 0 0, .slice none 0 0])] [] []) := ((Fm.nil (w := w) (A := []) ar_nil).push (by simp) 68 [.slice none 0 0, .slice none 0 0, .slice none 0 0, .slice none 0 0])
  go_enter Tryz.func56, Tryz.ntmps56
  go_wp2_with fail
  generalize (w.alloc (.cells #[.slice none 0 0, .slice none 0 0, .slice none 0 0, .slice none 0 0] 68)) = w0 at *
  refine (eone_v _).mono ?_
  rintro e w1 ⟨r1, rfl, h⟩
  have HF1 : Hid (Fm w w1 [(68, [.slice none 0 0, .slice none 0 0, .slice none 0 0, .slice none 0 0])] [] [(r1, 1, 1)]) := HF0.out.step h
  clear h
  go_wp2_with fail
  refine (eone_v _).mono ?_
  rintro e w2 ⟨r2, rfl, h⟩
  have HF2 : Hid (Fm w w2 [(68, [.slice none 0 0, .slice none 0 0, .slice none 0 0, .slice none 0 0])] [] [(r2, 1, 1), (r1, 1, 1)]) := HF1.out.step h
  clear h
  obtain ⟨q00, q01, q02, rfl⟩ := (HF2.out.got 1 (okb rfl)).sl
  obtain ⟨q10, q11, q12, rfl⟩ := (HF2.out.got 0 (okb rfl)).sl
  have c0_0 : w2.cell? ⟨w.heap.size, 0, none⟩ = some (.slice none 0 0) := HF2.out.cell 0 0 (okb rfl) (okb rfl)
  have f0_0 : w2.frozen? ⟨w.heap.size, 0, none⟩ = false := HF2.out.frozen 0 0 (okb rfl)
  have c0_1 : w2.cell? ⟨w.heap.size, 1, none⟩ = some (.slice none 0 0) := HF2.out.cell 0 1 (okb rfl) (okb rfl)
  have f0_1 : w2.frozen? ⟨w.heap.size, 1, none⟩ = false := HF2.out.frozen 0 1 (okb rfl)
  have c0_2 : w2.cell? ⟨w.heap.size, 2, none⟩ = some (.slice none 0 0) := HF2.out.cell 0 2 (okb rfl) (okb rfl)
  have f0_2 : w2.frozen? ⟨w.heap.size, 2, none⟩ = false := HF2.out.frozen 0 2 (okb rfl)
  have c0_3 : w2.cell? ⟨w.heap.size, 3, none⟩ = some (.slice none 0 0) := HF2.out.cell 0 3 (okb rfl) (okb rfl)
  have f0_3 : w2.frozen? ⟨w.heap.size, 3, none⟩ = false := HF2.out.frozen 0 3 (okb rfl)
  go_wp2
  (try simp only [Exit.inBlock, Exit.then])
  have hb := (((((But.refl w2 (w.heap.size)).set 0 (.slice none 0 0)).set 1 (.slice q00 q01 q02)).set 2 (.slice q10 q11 q12)).set 3 (.slice none 0 0))
  refine bodyPost_ret (v := .agg #[.slice none 0 0, .slice q00 q01 q02, .slice q10 q11 q12, .slice none 0 0]) ?_ rfl ⟨_, rfl, ⟨_, _, _, _, rfl, Mk.none _ _ _, (HF2.out.out 0 (by simp) hb 1 (by simp)).le (okb rfl), (HF2.out.out 0 (by simp) hb 0 (by simp)).le (okb rfl), Mk.none _ _ _⟩, HF2.out.outB 0 (by simp) hb⟩
  rw [results_cell rfl]; go_simp
set_option maxHeartbeats 4000000 in
theorem asRatio_v (x y : Value) (X Y : Nat) (w : World) (T : Te w) (hx : Nk w x X 256) (hy : Nk w y Y 256) : Calls Tryz.prog 44 #[.agg #[x, y, .bool false]] w fun e w' => ∃ v, e = .returned v ∧ Qm w' w.heap.size v ⟨X, Y, 1, X * Y % eP⟩ ∧ Below w.heap.size w w' := by
  obtain ⟨x0, x1, x2, rfl⟩ := hx.sl
  obtain ⟨y0, y1, y2, rfl⟩ := hy.sl
  have HF0 : Hid (Fm w ((w.alloc (.cells #[.slice x0 x1 x2, .slice y0 y1 y2, .bool false] 31)).alloc (.cells #[.slice none 0 0, .slice none 0 0, .slice none 0 0, .slice none 0 0] 68)) [(31, [.slice x0 x1 x2, .slice y0 y1 y2, .bool false]), (68, [.slice none 0 0, .slice none 0 0, .slice none 0 0, .slice none 0 0])] [(.slice x0 x1 x2, X, 256), (.slice y0 y1 y2, Y, 256)] []) := (((Fm.nil (w := w) (A := [(.slice x0 x1 x2, X, 256), (.slice y0 y1 y2, Y, 256)]) (ar_cons hx (ar_cons hy ar_nil))).push (by simp) 31 [.slice x0 x1 x2, .slice y0 y1 y2, .bool false]).push (by simp) 68 [.slice none 0 0, .slice none 0 0, .slice none 0 0, .slice none 0 0])
  have HT : Hid (Te w) := T
  clear hx hy T
  go_enter Tryz.func44, Tryz.ntmps44
  go_wp2_with fail
  generalize ((w.alloc (.cells #[.slice x0 x1 x2, .slice y0 y1 y2, .bool false] 31)).alloc (.cells #[.slice none 0 0, .slice none 0 0, .slice none 0 0, .slice none 0 0] 68)) = w0 at *
  have HF0d : Hid (Fm w w0.drew [(31, [.slice x0 x1 x2, .slice y0 y1 y2, .bool false]), (68, [.slice none 0 0, .slice none 0 0, .slice none 0 0, .slice none 0 0])] [(.slice x0 x1 x2, X, 256), (.slice y0 y1 y2, Y, 256)] []) := HF0.out.drew
  refine wp_region_K 13 (fun (w' : World) => w'.cell? ⟨w.heap.size, 0, none⟩ = some (.slice x0 x1 x2) ∧ w'.cell? ⟨w.heap.size, 1, none⟩ = some (.slice y0 y1 y2)) (by kernel_rfl) ?_
  have hHeld : ((fun (w' : World) => w'.cell? ⟨w.heap.size, 0, none⟩ = some (.slice x0 x1 x2) ∧ w'.cell? ⟨w.heap.size, 1, none⟩ = some (.slice y0 y1 y2))) (World.drew _) := ⟨HF0d.out.cell 0 0 (okb rfl) (okb rfl), HF0d.out.cell 0 1 (okb rfl) (okb rfl)⟩
  refine wpAnyK_take0 0 (v := ?v1) rfl (by kernel_rfl) (fun _ _ _ h => h) (Or.inl ⟨by rfl, ?hy1⟩) (fun _ => hHeld) ?_
  case hy1 => (intro w hSw; go_simp; try with_reducible rfl)
  try simp only [Act.put, List.setIfInBounds_toArray, List.set_cons_zero, List.set_cons_succ]
  refine wpAnyK_take 1 [2, 12, 13] (v := ?v2) rfl (by kernel_rfl) (fun _ _ _ h => h) (Or.inl ⟨by rfl, ?hy2⟩) hHeld ?_
  case hy2 => (intro w hSw; (try dsimp only at hSw); go_simp; try with_reducible rfl)
  try simp only [Act.put, List.setIfInBounds_toArray, List.set_cons_zero, List.set_cons_succ]
  refine wpAnyK_take0 3 (v := ?v3) rfl (by kernel_rfl) (fun _ _ _ h => h) (Or.inl ⟨by rfl, ?hy3⟩) (fun _ => hHeld) ?_
  case hy3 => (intro w hSw; go_simp; try with_reducible rfl)
  try simp only [Act.put, List.setIfInBounds_toArray, List.set_cons_zero, List.set_cons_succ]
  refine wpAnyK_take 4 [5, 12, 13] (v := ?v4) rfl (by kernel_rfl) (fun _ _ _ h => h) (Or.inl ⟨by rfl, ?hy4⟩) hHeld ?_
  case hy4 => (intro w hSw; (try dsimp only at hSw); go_simp; try with_reducible rfl)
  try simp only [Act.put, List.setIfInBounds_toArray, List.set_cons_zero, List.set_cons_succ]
  refine wpAnyK_take0 7 (v := ?v5) rfl (by kernel_rfl) (fun _ _ _ h => h) (Or.inl ⟨by rfl, ?hy5⟩) (fun _ => hHeld) ?_
  case hy5 => (intro w hSw; go_simp; try with_reducible rfl)
  try simp only [Act.put, List.setIfInBounds_toArray, List.set_cons_zero, List.set_cons_succ]
  refine wpAnyK_take 8 [11, 12, 13] (v := ?v6) rfl (by kernel_rfl) (fun _ _ _ h => h) (Or.inl ⟨by rfl, ?hy6⟩) hHeld ?_
  case hy6 => (intro w hSw; (try dsimp only at hSw); go_simp; try with_reducible rfl)
  try simp only [Act.put, List.setIfInBounds_toArray, List.set_cons_zero, List.set_cons_succ]
  refine wpAnyK_take0 9 (v := ?v7) rfl (by kernel_rfl) (fun _ _ _ h => h) (Or.inl ⟨by rfl, ?hy7⟩) (fun _ => hHeld) ?_
  case hy7 => (intro w hSw; go_simp; try with_reducible rfl)
  try simp only [Act.put, List.setIfInBounds_toArray, List.set_cons_zero, List.set_cons_succ]
  refine wpAnyK_take 10 [11, 12, 13] (v := ?v8) rfl (by kernel_rfl) (fun _ _ _ h => h) (Or.inl ⟨by rfl, ?hy8⟩) hHeld ?_
  case hy8 => (intro w hSw; (try dsimp only at hSw); go_simp; try with_reducible rfl)
  try simp only [Act.put, List.setIfInBounds_toArray, List.set_cons_zero, List.set_cons_succ]
  refine wpAnyK_step 2 rfl (by kernel_rfl) (fun K hK => ?_)
  go_simp
  refine (eproper_v _ X 256 _ (HF0d.out.arg 0 (okb rfl))).mono ?_
  rintro e w1 ⟨r1, rfl, h⟩
  have HF1 : Hid (Fm w w1 [(31, [.slice x0 x1 x2, .slice y0 y1 y2, .bool false]), (68, [.slice none 0 0, .slice none 0 0, .slice none 0 0, .slice none 0 0])] [(.slice x0 x1 x2, X, 256), (.slice y0 y1 y2, Y, 256)] [(r1, X, 256)]) := HF0d.out.step h
  clear h
  try dsimp only
  refine hK.out _ _ ?hk9 ?_
  case hk9 => exact fun _ => ⟨HF1.out.cell 0 0 (okb rfl) (okb rfl), HF1.out.cell 0 1 (okb rfl) (okb rfl)⟩
  have hHeld : ((fun (w' : World) => w'.cell? ⟨w.heap.size, 0, none⟩ = some (.slice x0 x1 x2) ∧ w'.cell? ⟨w.heap.size, 1, none⟩ = some (.slice y0 y1 y2))) _ := ⟨HF1.out.cell 0 0 (okb rfl) (okb rfl), HF1.out.cell 0 1 (okb rfl) (okb rfl)⟩
  clear hK K
  try simp only [Act.put, List.setIfInBounds_toArray, List.set_cons_zero, List.set_cons_succ]
  refine wpAnyK_step 5 rfl (by kernel_rfl) (fun K hK => ?_)
  go_simp
  refine (eproper_v _ Y 256 _ (HF1.out.arg 1 (okb rfl))).mono ?_
  rintro e w2 ⟨r2, rfl, h⟩
  have HF2 : Hid (Fm w w2 [(31, [.slice x0 x1 x2, .slice y0 y1 y2, .bool false]), (68, [.slice none 0 0, .slice none 0 0, .slice none 0 0, .slice none 0 0])] [(.slice x0 x1 x2, X, 256), (.slice y0 y1 y2, Y, 256)] [(r2, Y, 256), (r1, X, 256)]) := HF1.out.step h
  clear h
  try dsimp only
  refine hK.out _ _ ?hk10 ?_
  case hk10 => exact fun _ => ⟨HF2.out.cell 0 0 (okb rfl) (okb rfl), HF2.out.cell 0 1 (okb rfl) (okb rfl)⟩
  have hHeld : ((fun (w' : World) => w'.cell? ⟨w.heap.size, 0, none⟩ = some (.slice x0 x1 x2) ∧ w'.cell? ⟨w.heap.size, 1, none⟩ = some (.slice y0 y1 y2))) _ := ⟨HF2.out.cell 0 0 (okb rfl) (okb rfl), HF2.out.cell 0 1 (okb rfl) (okb rfl)⟩
  clear hK K
  try simp only [Act.put, List.setIfInBounds_toArray, List.set_cons_zero, List.set_cons_succ]
  refine wpAnyK_step 6 rfl (by kernel_rfl) (fun K hK => ?_)
  go_simp
  refine (eone_v _).mono ?_
  rintro e w3 ⟨r3, rfl, h⟩
  have HF3 : Hid (Fm w w3 [(31, [.slice x0 x1 x2, .slice y0 y1 y2, .bool false]), (68, [.slice none 0 0, .slice none 0 0, .slice none 0 0, .slice none 0 0])] [(.slice x0 x1 x2, X, 256), (.slice y0 y1 y2, Y, 256)] [(r3, 1, 1), (r2, Y, 256), (r1, X, 256)]) := HF2.out.step h
  clear h
  try dsimp only
  refine hK.out _ _ ?hk11 ?_
  case hk11 => exact fun _ => ⟨HF3.out.cell 0 0 (okb rfl) (okb rfl), HF3.out.cell 0 1 (okb rfl) (okb rfl)⟩
  have hHeld : ((fun (w' : World) => w'.cell? ⟨w.heap.size, 0, none⟩ = some (.slice x0 x1 x2) ∧ w'.cell? ⟨w.heap.size, 1, none⟩ = some (.slice y0 y1 y2))) _ := ⟨HF3.out.cell 0 0 (okb rfl) (okb rfl), HF3.out.cell 0 1 (okb rfl) (okb rfl)⟩
  clear hK K
  try simp only [Act.put, List.setIfInBounds_toArray, List.set_cons_zero, List.set_cons_succ]
  refine wpAnyK_step 11 rfl (by kernel_rfl) (fun K hK => ?_)
  go_simp
  refine (emul_v _ _ X Y 256 256 _ (HT.out.below HF3.out.bel (Nat.le_refl _)) (HF3.out.arg 0 (okb rfl)) (HF3.out.arg 1 (okb rfl)) (by decide) (by decide)).mono ?_
  rintro e w4 ⟨r4, rfl, h⟩
  have HF4 : Hid (Fm w w4 [(31, [.slice x0 x1 x2, .slice y0 y1 y2, .bool false]), (68, [.slice none 0 0, .slice none 0 0, .slice none 0 0, .slice none 0 0])] [(.slice x0 x1 x2, X, 256), (.slice y0 y1 y2, Y, 256)] [(r4, fM eP X Y, 256), (r3, 1, 1), (r2, Y, 256), (r1, X, 256)]) := HF3.out.step h
  clear h
  try dsimp only
  refine hK.out _ _ ?hk12 ?_
  case hk12 => exact fun _ => ⟨HF4.out.cell 0 0 (okb rfl) (okb rfl), HF4.out.cell 0 1 (okb rfl) (okb rfl)⟩
  have hHeld : ((fun (w' : World) => w'.cell? ⟨w.heap.size, 0, none⟩ = some (.slice x0 x1 x2) ∧ w'.cell? ⟨w.heap.size, 1, none⟩ = some (.slice y0 y1 y2))) _ := ⟨HF4.out.cell 0 0 (okb rfl) (okb rfl), HF4.out.cell 0 1 (okb rfl) (okb rfl)⟩
  clear hK K
  try simp only [Act.put, List.setIfInBounds_toArray, List.set_cons_zero, List.set_cons_succ]
  obtain ⟨q00, q01, q02, rfl⟩ := (HF4.out.got 3 (okb rfl)).sl
  obtain ⟨q10, q11, q12, rfl⟩ := (HF4.out.got 2 (okb rfl)).sl
  obtain ⟨q20, q21, q22, rfl⟩ := (HF4.out.got 1 (okb rfl)).sl
  obtain ⟨q30, q31, q32, rfl⟩ := (HF4.out.got 0 (okb rfl)).sl
  have c1_0 : w4.cell? ⟨w.heap.size + 1, 0, none⟩ = some (.slice none 0 0) := HF4.out.cell 1 0 (okb rfl) (okb rfl)
  have f1_0 : w4.frozen? ⟨w.heap.size + 1, 0, none⟩ = false := HF4.out.frozen 1 0 (okb rfl)
  have c1_1 : w4.cell? ⟨w.heap.size + 1, 1, none⟩ = some (.slice none 0 0) := HF4.out.cell 1 1 (okb rfl) (okb rfl)
  have f1_1 : w4.frozen? ⟨w.heap.size + 1, 1, none⟩ = false := HF4.out.frozen 1 1 (okb rfl)
  have c1_2 : w4.cell? ⟨w.heap.size + 1, 2, none⟩ = some (.slice none 0 0) := HF4.out.cell 1 2 (okb rfl) (okb rfl)
  have f1_2 : w4.frozen? ⟨w.heap.size + 1, 2, none⟩ = false := HF4.out.frozen 1 2 (okb rfl)
  have c1_3 : w4.cell? ⟨w.heap.size + 1, 3, none⟩ = some (.slice none 0 0) := HF4.out.cell 1 3 (okb rfl) (okb rfl)
  have f1_3 : w4.frozen? ⟨w.heap.size + 1, 3, none⟩ = false := HF4.out.frozen 1 3 (okb rfl)
  refine wpAnyK_take0 12 (v := ?v14) rfl (by kernel_rfl) (fun _ _ _ h => h) (Or.inl ⟨by rfl, ?hy14⟩) (fun _ => hHeld) ?_
  case hy14 => (intro w hSw; go_simp; try with_reducible rfl)
  try simp only [Act.put, List.setIfInBounds_toArray, List.set_cons_zero, List.set_cons_succ]
  refine wpAnyK_step 13 rfl (by kernel_rfl) (fun K hK => ?_)
  go_simp
  refine hK.out _ _ ?hk15 ?_
  case hk15 => exact (fun h => nomatch (h.symm.trans (show _ = true by kernel_rfl)))
  clear hK K
  try simp only [Act.put, List.setIfInBounds_toArray, List.set_cons_zero, List.set_cons_succ]
  refine wpAnyK_done (by kernel_rfl) ?_ _
  go_wp2
  (try simp only [Exit.inBlock, Exit.then])
  have hb := (((((But.refl w4 (w.heap.size + 1)).set 0 (.slice q00 q01 q02)).set 1 (.slice q10 q11 q12)).set 2 (.slice q20 q21 q22)).set 3 (.slice q30 q31 q32))
  refine bodyPost_ret (v := .agg #[.slice q00 q01 q02, .slice q10 q11 q12, .slice q20 q21 q22, .slice q30 q31 q32]) ?_ rfl ⟨_, rfl, ⟨_, _, _, _, rfl, (HF4.out.out 1 (by simp) hb 3 (by simp)).le (okb rfl), (HF4.out.out 1 (by simp) hb 2 (by simp)).le (okb rfl), (HF4.out.out 1 (by simp) hb 1 (by simp)).le (okb rfl), (HF4.out.out 1 (by simp) hb 0 (by simp)).le (okb rfl)⟩, HF4.out.outB 1 (by simp) hb⟩
  rw [results_cell rfl]; go_simp
set_option maxHeartbeats 4000000 in
theorem point_v (v : Value) (r : R4) (w : World) (T : Te w) (hv : Q4 w v r) (h0 : 0 < r.z) (hz : r.z < eP) : Calls Tryz.prog 46 #[v] w fun e w' => ∃ u J, Inz r.z eP J ∧ e = .returned u ∧ Pe w' w.heap.size u (fM eP r.x J, fM eP r.y J) ∧ Below w.heap.size w w' := by
  obtain ⟨x, y, z, t, rfl, hx, hy, hz', ht⟩ := hv
  obtain ⟨x0, x1, x2, rfl⟩ := hx.sl
  obtain ⟨y0, y1, y2, rfl⟩ := hy.sl
  obtain ⟨z0, z1, z2, rfl⟩ := hz'.sl
  obtain ⟨t0, t1, t2, rfl⟩ := ht.sl
  have HF0 : Hid (Fm w ((w.alloc (.cells #[.slice x0 x1 x2, .slice y0 y1 y2, .slice z0 z1 z2, .slice t0 t1 t2] 68)).alloc (.cells #[.slice none 0 0, .slice none 0 0, .bool false] 31)) [(68, [.slice x0 x1 x2, .slice y0 y1 y2, .slice z0 z1 z2, .slice t0 t1 t2]), (31, [.slice none 0 0, .slice none 0 0, .bool false])] [(.slice x0 x1 x2, r.x, 256), (.slice y0 y1 y2, r.y, 256), (.slice z0 z1 z2, r.z, 256), (.slice t0 t1 t2, r.t, 256)] []) := (((Fm.nil (w := w) (A := [(.slice x0 x1 x2, r.x, 256), (.slice y0 y1 y2, r.y, 256), (.slice z0 z1 z2, r.z, 256), (.slice t0 t1 t2, r.t, 256)]) (ar_cons hx (ar_cons hy (ar_cons hz' (ar_cons ht ar_nil))))).push (by simp) 68 [.slice x0 x1 x2, .slice y0 y1 y2, .slice z0 z1 z2, .slice t0 t1 t2]).push (by simp) 31 [.slice none 0 0, .slice none 0 0, .bool false])
  have HT : Hid (Te w) := T
  have Hz : Hid (0 < r.z ∧ r.z < eP) := ⟨h0, hz⟩
  clear hx hy hz' ht T h0 hz
  go_enter Tryz.func46, Tryz.ntmps46
  go_wp2_with fail
  generalize ((w.alloc (.cells #[.slice x0 x1 x2, .slice y0 y1 y2, .slice z0 z1 z2, .slice t0 t1 t2] 68)).alloc (.cells #[.slice none 0 0, .slice none 0 0, .bool false] 31)) = w0 at *
  refine (einv_v _ r.z _ (HT.out.below HF0.out.bel (Nat.le_refl _)) ((HF0.out.arg 2 (okb rfl)).le (okb rfl)) Hz.out.1 Hz.out.2).mono ?_
  rintro e w1 ⟨r1, J, hJ, rfl, h⟩
  have HJ : Hid (Inz r.z eP J) := hJ
  clear hJ
  have HF1 : Hid (Fm w w1 [(68, [.slice x0 x1 x2, .slice y0 y1 y2, .slice z0 z1 z2, .slice t0 t1 t2]), (31, [.slice none 0 0, .slice none 0 0, .bool false])] [(.slice x0 x1 x2, r.x, 256), (.slice y0 y1 y2, r.y, 256), (.slice z0 z1 z2, r.z, 256), (.slice t0 t1 t2, r.t, 256)] [(r1, J, 256)]) := HF0.out.step h
  clear h
  obtain ⟨j0, j1, j2, rfl⟩ := (HF1.out.got 0 (okb rfl)).sl
  go_wp2_with fail
  have HF1d : Hid (Fm w w1.drew [(68, [.slice x0 x1 x2, .slice y0 y1 y2, .slice z0 z1 z2, .slice t0 t1 t2]), (31, [.slice none 0 0, .slice none 0 0, .bool false])] [(.slice x0 x1 x2, r.x, 256), (.slice y0 y1 y2, r.y, 256), (.slice z0 z1 z2, r.z, 256), (.slice t0 t1 t2, r.t, 256)] [(.slice j0 j1 j2, J, 256)]) := HF1.out.drew
  refine wp_region_K 9 (fun (w' : World) => w'.cell? ⟨w.heap.size, 0, none⟩ = some (.slice x0 x1 x2) ∧ w'.cell? ⟨w.heap.size, 1, none⟩ = some (.slice y0 y1 y2) ∧ w'.cell? ⟨w.heap.size, 2, none⟩ = some (.slice z0 z1 z2)) (by kernel_rfl) ?_
  have hHeld : ((fun (w' : World) => w'.cell? ⟨w.heap.size, 0, none⟩ = some (.slice x0 x1 x2) ∧ w'.cell? ⟨w.heap.size, 1, none⟩ = some (.slice y0 y1 y2) ∧ w'.cell? ⟨w.heap.size, 2, none⟩ = some (.slice z0 z1 z2))) (World.drew _) := ⟨HF1d.out.cell 0 0 (okb rfl) (okb rfl), HF1d.out.cell 0 1 (okb rfl) (okb rfl), HF1d.out.cell 0 2 (okb rfl) (okb rfl)⟩
  refine wpAnyK_take0 0 (v := ?v16) rfl (by kernel_rfl) (fun _ _ _ h => h) (Or.inl ⟨by rfl, ?hy16⟩) (fun _ => hHeld) ?_
  case hy16 => (intro w hSw; go_simp; try with_reducible rfl)
  try simp only [Act.put, List.setIfInBounds_toArray, List.set_cons_zero, List.set_cons_succ]
  refine wpAnyK_take 1 [3, 8, 9] (v := ?v17) rfl (by kernel_rfl) (fun _ _ _ h => h) (Or.inl ⟨by rfl, ?hy17⟩) hHeld ?_
  case hy17 => (intro w hSw; (try dsimp only at hSw); go_simp; try with_reducible rfl)
  try simp only [Act.put, List.setIfInBounds_toArray, List.set_cons_zero, List.set_cons_succ]
  refine wpAnyK_take0 2 (v := ?v18) rfl (by kernel_rfl) (fun _ _ _ h => h) (Or.inl ⟨by rfl, ?hy18⟩) (fun _ => hHeld) ?_
  case hy18 => (intro w hSw; go_simp; try with_reducible rfl)
  try simp only [Act.put, List.setIfInBounds_toArray, List.set_cons_zero, List.set_cons_succ]
  refine wpAnyK_take0 4 (v := ?v19) rfl (by kernel_rfl) (fun _ _ _ h => h) (Or.inl ⟨by rfl, ?hy19⟩) (fun _ => hHeld) ?_
  case hy19 => (intro w hSw; go_simp; try with_reducible rfl)
  try simp only [Act.put, List.setIfInBounds_toArray, List.set_cons_zero, List.set_cons_succ]
  refine wpAnyK_take 5 [7, 8, 9] (v := ?v20) rfl (by kernel_rfl) (fun _ _ _ h => h) (Or.inl ⟨by rfl, ?hy20⟩) hHeld ?_
  case hy20 => (intro w hSw; (try dsimp only at hSw); go_simp; try with_reducible rfl)
  try simp only [Act.put, List.setIfInBounds_toArray, List.set_cons_zero, List.set_cons_succ]
  refine wpAnyK_take0 6 (v := ?v21) rfl (by kernel_rfl) (fun _ _ _ h => h) (Or.inl ⟨by rfl, ?hy21⟩) (fun _ => hHeld) ?_
  case hy21 => (intro w hSw; go_simp; try with_reducible rfl)
  try simp only [Act.put, List.setIfInBounds_toArray, List.set_cons_zero, List.set_cons_succ]
  refine wpAnyK_step 3 rfl (by kernel_rfl) (fun K hK => ?_)
  go_simp
  refine (emul_v _ _ r.x J 256 256 _ (HT.out.below HF1d.out.bel (Nat.le_refl _)) (HF1d.out.arg 0 (okb rfl)) (HF1d.out.got 0 (okb rfl)) (by decide) (by decide)).mono ?_
  rintro e w2 ⟨r2, rfl, h⟩
  have HF2 : Hid (Fm w w2 [(68, [.slice x0 x1 x2, .slice y0 y1 y2, .slice z0 z1 z2, .slice t0 t1 t2]), (31, [.slice none 0 0, .slice none 0 0, .bool false])] [(.slice x0 x1 x2, r.x, 256), (.slice y0 y1 y2, r.y, 256), (.slice z0 z1 z2, r.z, 256), (.slice t0 t1 t2, r.t, 256)] [(r2, fM eP r.x J, 256), (.slice j0 j1 j2, J, 256)]) := HF1d.out.step h
  clear h
  try dsimp only
  refine hK.out _ _ ?hk22 ?_
  case hk22 => exact fun _ => ⟨HF2.out.cell 0 0 (okb rfl) (okb rfl), HF2.out.cell 0 1 (okb rfl) (okb rfl), HF2.out.cell 0 2 (okb rfl) (okb rfl)⟩
  have hHeld : ((fun (w' : World) => w'.cell? ⟨w.heap.size, 0, none⟩ = some (.slice x0 x1 x2) ∧ w'.cell? ⟨w.heap.size, 1, none⟩ = some (.slice y0 y1 y2) ∧ w'.cell? ⟨w.heap.size, 2, none⟩ = some (.slice z0 z1 z2))) _ := ⟨HF2.out.cell 0 0 (okb rfl) (okb rfl), HF2.out.cell 0 1 (okb rfl) (okb rfl), HF2.out.cell 0 2 (okb rfl) (okb rfl)⟩
  clear hK K
  try simp only [Act.put, List.setIfInBounds_toArray, List.set_cons_zero, List.set_cons_succ]
  refine wpAnyK_step 7 rfl (by kernel_rfl) (fun K hK => ?_)
  go_simp
  refine (emul_v _ _ r.y J 256 256 _ (HT.out.below HF2.out.bel (Nat.le_refl _)) (HF2.out.arg 1 (okb rfl)) (HF2.out.got 1 (okb rfl)) (by decide) (by decide)).mono ?_
  rintro e w3 ⟨r3, rfl, h⟩
  have HF3 : Hid (Fm w w3 [(68, [.slice x0 x1 x2, .slice y0 y1 y2, .slice z0 z1 z2, .slice t0 t1 t2]), (31, [.slice none 0 0, .slice none 0 0, .bool false])] [(.slice x0 x1 x2, r.x, 256), (.slice y0 y1 y2, r.y, 256), (.slice z0 z1 z2, r.z, 256), (.slice t0 t1 t2, r.t, 256)] [(r3, fM eP r.y J, 256), (r2, fM eP r.x J, 256), (.slice j0 j1 j2, J, 256)]) := HF2.out.step h
  clear h
  try dsimp only
  refine hK.out _ _ ?hk23 ?_
  case hk23 => exact fun _ => ⟨HF3.out.cell 0 0 (okb rfl) (okb rfl), HF3.out.cell 0 1 (okb rfl) (okb rfl), HF3.out.cell 0 2 (okb rfl) (okb rfl)⟩
  have hHeld : ((fun (w' : World) => w'.cell? ⟨w.heap.size, 0, none⟩ = some (.slice x0 x1 x2) ∧ w'.cell? ⟨w.heap.size, 1, none⟩ = some (.slice y0 y1 y2) ∧ w'.cell? ⟨w.heap.size, 2, none⟩ = some (.slice z0 z1 z2))) _ := ⟨HF3.out.cell 0 0 (okb rfl) (okb rfl), HF3.out.cell 0 1 (okb rfl) (okb rfl), HF3.out.cell 0 2 (okb rfl) (okb rfl)⟩
  clear hK K
  try simp only [Act.put, List.setIfInBounds_toArray, List.set_cons_zero, List.set_cons_succ]
  obtain ⟨q00, q01, q02, rfl⟩ := (HF3.out.got 1 (okb rfl)).sl
  obtain ⟨q10, q11, q12, rfl⟩ := (HF3.out.got 0 (okb rfl)).sl
  have c1_0 : w3.cell? ⟨w.heap.size + 1, 0, none⟩ = some (.slice none 0 0) := HF3.out.cell 1 0 (okb rfl) (okb rfl)
  have f1_0 : w3.frozen? ⟨w.heap.size + 1, 0, none⟩ = false := HF3.out.frozen 1 0 (okb rfl)
  have c1_1 : w3.cell? ⟨w.heap.size + 1, 1, none⟩ = some (.slice none 0 0) := HF3.out.cell 1 1 (okb rfl) (okb rfl)
  have f1_1 : w3.frozen? ⟨w.heap.size + 1, 1, none⟩ = false := HF3.out.frozen 1 1 (okb rfl)
  have c1_2 : w3.cell? ⟨w.heap.size + 1, 2, none⟩ = some (.bool false) := HF3.out.cell 1 2 (okb rfl) (okb rfl)
  have f1_2 : w3.frozen? ⟨w.heap.size + 1, 2, none⟩ = false := HF3.out.frozen 1 2 (okb rfl)
  refine wpAnyK_take0 8 (v := ?v25) rfl (by kernel_rfl) (fun _ _ _ h => h) (Or.inl ⟨by rfl, ?hy25⟩) (fun _ => hHeld) ?_
  case hy25 => (intro w hSw; go_simp; try with_reducible rfl)
  try simp only [Act.put, List.setIfInBounds_toArray, List.set_cons_zero, List.set_cons_succ]
  refine wpAnyK_step 9 rfl (by kernel_rfl) (fun K hK => ?_)
  go_simp
  refine hK.out _ _ ?hk26 ?_
  case hk26 => exact (fun h => nomatch (h.symm.trans (show _ = true by kernel_rfl)))
  clear hK K
  try simp only [Act.put, List.setIfInBounds_toArray, List.set_cons_zero, List.set_cons_succ]
  refine wpAnyK_done (by kernel_rfl) ?_ _
  go_wp2
  (try simp only [Exit.inBlock, Exit.then])
  have hb := ((((But.refl w3 (w.heap.size + 1)).set 0 (.slice q00 q01 q02)).set 1 (.slice q10 q11 q12)).set 2 (.bool false))
  refine bodyPost_ret (v := .agg #[.slice q00 q01 q02, .slice q10 q11 q12, .bool false]) ?_ rfl ⟨_, J, HJ.out, rfl, ⟨_, _, rfl, HF3.out.out 1 (by simp) hb 1 (by simp), HF3.out.out 1 (by simp) hb 0 (by simp), HF3.out.apt 0 1 (by simp) (by simp) (by omega)⟩, HF3.out.outB 1 (by simp) hb⟩
  rw [results_cell rfl]; go_simp
set_option maxHeartbeats 4000000 in
theorem opposite_v (x y : Value) (X Y : Nat) (w : World) (T : Te w) (hx : Nk w x X 256) (hy : Nk w y Y 256) : Calls Tryz.prog 45 #[.agg #[x, y, .bool false]] w fun e w' => ∃ u, e = .returned (.agg #[u, y, .bool false]) ∧ Nk w' u (fS eP 0 X) 256 ∧ Below w.heap.size w w' := by
  obtain ⟨x0, x1, x2, rfl⟩ := hx.sl
  obtain ⟨y0, y1, y2, rfl⟩ := hy.sl
  have HF0 : Hid (Fm w ((w.alloc (.cells #[.slice x0 x1 x2, .slice y0 y1 y2, .bool false] 31)).alloc (.cells #[.slice none 0 0, .slice none 0 0, .bool false] 31)) [(31, [.slice x0 x1 x2, .slice y0 y1 y2, .bool false]), (31, [.slice none 0 0, .slice none 0 0, .bool false])] [(.slice x0 x1 x2, X, 256), (.slice y0 y1 y2, Y, 256)] []) := (((Fm.nil (w := w) (A := [(.slice x0 x1 x2, X, 256), (.slice y0 y1 y2, Y, 256)]) (ar_cons hx (ar_cons hy ar_nil))).push (by simp) 31 [.slice x0 x1 x2, .slice y0 y1 y2, .bool false]).push (by simp) 31 [.slice none 0 0, .slice none 0 0, .bool false])
  have HT : Hid (Te w) := T
  clear hx hy T
  go_enter Tryz.func45, Tryz.ntmps45
  go_wp2_with fail
  generalize ((w.alloc (.cells #[.slice x0 x1 x2, .slice y0 y1 y2, .bool false] 31)).alloc (.cells #[.slice none 0 0, .slice none 0 0, .bool false] 31)) = w0 at *
  have HF0d : Hid (Fm w w0.drew [(31, [.slice x0 x1 x2, .slice y0 y1 y2, .bool false]), (31, [.slice none 0 0, .slice none 0 0, .bool false])] [(.slice x0 x1 x2, X, 256), (.slice y0 y1 y2, Y, 256)] []) := HF0.out.drew
  refine wp_region_K 6 (fun (w' : World) => w'.cell? ⟨w.heap.size, 0, none⟩ = some (.slice x0 x1 x2) ∧ w'.cell? ⟨w.heap.size, 1, none⟩ = some (.slice y0 y1 y2)) (by kernel_rfl) ?_
  have hHeld : ((fun (w' : World) => w'.cell? ⟨w.heap.size, 0, none⟩ = some (.slice x0 x1 x2) ∧ w'.cell? ⟨w.heap.size, 1, none⟩ = some (.slice y0 y1 y2))) (World.drew _) := ⟨HF0d.out.cell 0 0 (okb rfl) (okb rfl), HF0d.out.cell 0 1 (okb rfl) (okb rfl)⟩
  refine wpAnyK_take0 0 (v := ?v27) rfl (by kernel_rfl) (fun _ _ _ h => h) (Or.inl ⟨by rfl, ?hy27⟩) (fun _ => hHeld) ?_
  case hy27 => (intro w hSw; go_simp; try with_reducible rfl)
  try simp only [Act.put, List.setIfInBounds_toArray, List.set_cons_zero, List.set_cons_succ]
  refine wpAnyK_take 1 [2, 5, 6] (v := ?v28) rfl (by kernel_rfl) (fun _ _ _ h => h) (Or.inl ⟨by rfl, ?hy28⟩) hHeld ?_
  case hy28 => (intro w hSw; (try dsimp only at hSw); go_simp; try with_reducible rfl)
  try simp only [Act.put, List.setIfInBounds_toArray, List.set_cons_zero, List.set_cons_succ]
  refine wpAnyK_take0 3 (v := ?v29) rfl (by kernel_rfl) (fun _ _ _ h => h) (Or.inl ⟨by rfl, ?hy29⟩) (fun _ => hHeld) ?_
  case hy29 => (intro w hSw; go_simp; try with_reducible rfl)
  try simp only [Act.put, List.setIfInBounds_toArray, List.set_cons_zero, List.set_cons_succ]
  refine wpAnyK_take 4 [5, 6] (v := ?v30) rfl (by kernel_rfl) (fun _ _ _ h => h) (Or.inl ⟨by rfl, ?hy30⟩) hHeld ?_
  case hy30 => (intro w hSw; (try dsimp only at hSw); go_simp; try with_reducible rfl)
  try simp only [Act.put, List.setIfInBounds_toArray, List.set_cons_zero, List.set_cons_succ]
  refine wpAnyK_step 2 rfl (by kernel_rfl) (fun K hK => ?_)
  go_simp
  refine (esub_v _ _ 0 X 1 256 _ (HT.out.below HF0d.out.bel (Nat.le_refl _)) (Nk.none _ 1) (HF0d.out.arg 0 (okb rfl)) (by decide) (by decide)).mono ?_
  rintro e w1 ⟨r1, rfl, h⟩
  have HF1 : Hid (Fm w w1 [(31, [.slice x0 x1 x2, .slice y0 y1 y2, .bool false]), (31, [.slice none 0 0, .slice none 0 0, .bool false])] [(.slice x0 x1 x2, X, 256), (.slice y0 y1 y2, Y, 256)] [(r1, fS eP 0 X, 256)]) := HF0d.out.step h
  clear h
  try dsimp only
  refine hK.out _ _ ?hk31 ?_
  case hk31 => exact fun _ => ⟨HF1.out.cell 0 0 (okb rfl) (okb rfl), HF1.out.cell 0 1 (okb rfl) (okb rfl)⟩
  have hHeld : ((fun (w' : World) => w'.cell? ⟨w.heap.size, 0, none⟩ = some (.slice x0 x1 x2) ∧ w'.cell? ⟨w.heap.size, 1, none⟩ = some (.slice y0 y1 y2))) _ := ⟨HF1.out.cell 0 0 (okb rfl) (okb rfl), HF1.out.cell 0 1 (okb rfl) (okb rfl)⟩
  clear hK K
  try simp only [Act.put, List.setIfInBounds_toArray, List.set_cons_zero, List.set_cons_succ]
  obtain ⟨q00, q01, q02, rfl⟩ := (HF1.out.got 0 (okb rfl)).sl
  have c1_0 : w1.cell? ⟨w.heap.size + 1, 0, none⟩ = some (.slice none 0 0) := HF1.out.cell 1 0 (okb rfl) (okb rfl)
  have f1_0 : w1.frozen? ⟨w.heap.size + 1, 0, none⟩ = false := HF1.out.frozen 1 0 (okb rfl)
  have c1_1 : w1.cell? ⟨w.heap.size + 1, 1, none⟩ = some (.slice none 0 0) := HF1.out.cell 1 1 (okb rfl) (okb rfl)
  have f1_1 : w1.frozen? ⟨w.heap.size + 1, 1, none⟩ = false := HF1.out.frozen 1 1 (okb rfl)
  have c1_2 : w1.cell? ⟨w.heap.size + 1, 2, none⟩ = some (.bool false) := HF1.out.cell 1 2 (okb rfl) (okb rfl)
  have f1_2 : w1.frozen? ⟨w.heap.size + 1, 2, none⟩ = false := HF1.out.frozen 1 2 (okb rfl)
  refine wpAnyK_take0 5 (v := ?v33) rfl (by kernel_rfl) (fun _ _ _ h => h) (Or.inl ⟨by rfl, ?hy33⟩) (fun _ => hHeld) ?_
  case hy33 => (intro w hSw; go_simp; try with_reducible rfl)
  try simp only [Act.put, List.setIfInBounds_toArray, List.set_cons_zero, List.set_cons_succ]
  refine wpAnyK_step 6 rfl (by kernel_rfl) (fun K hK => ?_)
  go_simp
  refine hK.out _ _ ?hk34 ?_
  case hk34 => exact (fun h => nomatch (h.symm.trans (show _ = true by kernel_rfl)))
  clear hK K
  try simp only [Act.put, List.setIfInBounds_toArray, List.set_cons_zero, List.set_cons_succ]
  refine wpAnyK_done (by kernel_rfl) ?_ _
  go_wp2
  (try simp only [Exit.inBlock, Exit.then])
  have hb := ((((But.refl w1 (w.heap.size + 1)).set 0 (.slice q00 q01 q02)).set 1 (.slice y0 y1 y2)).set 2 (.bool false))
  refine bodyPost_ret (v := .agg #[.slice q00 q01 q02, .slice y0 y1 y2, .bool false]) ?_ rfl ⟨_, rfl, (HF1.out.out 1 (by simp) hb 0 (by simp)).nk, HF1.out.outB 1 (by simp) hb⟩
  rw [results_cell rfl]; go_simp
set_option maxHeartbeats 4000000 in
theorem base_v (w : World) (T : Te w) : Calls Tryz.prog 22 #[] w fun e w' => ∃ v, e = .returned v ∧ Pe w' w.heap.size v eB ∧ Below w.heap.size w w' := by
  have HF0 : Hid (Fm w (w.alloc (.cells #[.slice none 0 0, .slice none 0 0, .bool false] 31)) [(31, [.slice none 0 0, .slice none 0 0, .bool false])] [] []) := ((Fm.nil (w := w) (A := []) ar_nil).push (by simp) 31 [.slice none 0 0, .slice none 0 0, .bool false])
  have HT : Hid (Te w) := T
  clear T
  go_enter Tryz.func22, Tryz.ntmps22
  go_wp2_with fail
  generalize (w.alloc (.cells #[.slice none 0 0, .slice none 0 0, .bool false] 31)) = w0 at *
  have HF0d : Hid (Fm w w0.drew [(31, [.slice none 0 0, .slice none 0 0, .bool false])] [] []) := HF0.out.drew
  refine wp_region_K 5 (fun (w' : World) => T8 w' 1 lX ∧ T8 w' 2 lY) (by kernel_rfl) ?_
  have hHeld : ((fun (w' : World) => T8 w' 1 lX ∧ T8 w' 2 lY)) (World.drew _) := ⟨(HT.out.below HF0d.out.bel (Nat.le_refl _)).x, (HT.out.below HF0d.out.bel (Nat.le_refl _)).y⟩
  refine wpAnyK_take 0 [1, 4, 5] (v := ?vt35) rfl (by kernel_rfl) (fun _ _ _ h => h) (Or.inl ⟨by rfl, ?ht35⟩) hHeld ?_
  case ht35 => (intro w hSw; (try dsimp only at hSw); obtain ⟨q0, q1, q2, q3, q4, q5, q6, q7⟩ := tb8X hSw.1; go_simp; try with_reducible rfl)
  try simp only [Act.put, List.setIfInBounds_toArray, List.set_cons_zero, List.set_cons_succ]
  refine wpAnyK_take 2 [3, 4, 5] (v := ?vt36) rfl (by kernel_rfl) (fun _ _ _ h => h) (Or.inl ⟨by rfl, ?ht36⟩) hHeld ?_
  case ht36 => (intro w hSw; (try dsimp only at hSw); obtain ⟨q0, q1, q2, q3, q4, q5, q6, q7⟩ := tb8Y hSw.2; go_simp; try with_reducible rfl)
  try simp only [Act.put, List.setIfInBounds_toArray, List.set_cons_zero, List.set_cons_succ]
  refine wpAnyK_step 1 rfl (by kernel_rfl) (fun K hK => ?_)
  go_simp
  refine (numX _).mono ?_
  rintro e w1 ⟨r1, rfl, h⟩
  have HF1 : Hid (Fm w w1 [(31, [.slice none 0 0, .slice none 0 0, .bool false])] [] [(r1, eX, 256)]) := HF0d.out.step h
  clear h
  try dsimp only
  refine hK.out _ _ ?hk39 ?_
  case hk39 => exact fun _ => ⟨(HT.out.below HF1.out.bel (Nat.le_refl _)).x, (HT.out.below HF1.out.bel (Nat.le_refl _)).y⟩
  have hHeld : ((fun (w' : World) => T8 w' 1 lX ∧ T8 w' 2 lY)) _ := ⟨(HT.out.below HF1.out.bel (Nat.le_refl _)).x, (HT.out.below HF1.out.bel (Nat.le_refl _)).y⟩
  clear hK K
  try simp only [Act.put, List.setIfInBounds_toArray, List.set_cons_zero, List.set_cons_succ]
  refine wpAnyK_step 3 rfl (by kernel_rfl) (fun K hK => ?_)
  go_simp
  refine (numY _).mono ?_
  rintro e w2 ⟨r2, rfl, h⟩
  have HF2 : Hid (Fm w w2 [(31, [.slice none 0 0, .slice none 0 0, .bool false])] [] [(r2, eY, 256), (r1, eX, 256)]) := HF1.out.step h
  clear h
  try dsimp only
  refine hK.out _ _ ?hk40 ?_
  case hk40 => exact fun _ => ⟨(HT.out.below HF2.out.bel (Nat.le_refl _)).x, (HT.out.below HF2.out.bel (Nat.le_refl _)).y⟩
  have hHeld : ((fun (w' : World) => T8 w' 1 lX ∧ T8 w' 2 lY)) _ := ⟨(HT.out.below HF2.out.bel (Nat.le_refl _)).x, (HT.out.below HF2.out.bel (Nat.le_refl _)).y⟩
  clear hK K
  try simp only [Act.put, List.setIfInBounds_toArray, List.set_cons_zero, List.set_cons_succ]
  obtain ⟨q00, q01, q02, rfl⟩ := (HF2.out.got 1 (okb rfl)).sl
  obtain ⟨q10, q11, q12, rfl⟩ := (HF2.out.got 0 (okb rfl)).sl
  have c0_0 : w2.cell? ⟨w.heap.size, 0, none⟩ = some (.slice none 0 0) := HF2.out.cell 0 0 (okb rfl) (okb rfl)
  have f0_0 : w2.frozen? ⟨w.heap.size, 0, none⟩ = false := HF2.out.frozen 0 0 (okb rfl)
  have c0_1 : w2.cell? ⟨w.heap.size, 1, none⟩ = some (.slice none 0 0) := HF2.out.cell 0 1 (okb rfl) (okb rfl)
  have f0_1 : w2.frozen? ⟨w.heap.size, 1, none⟩ = false := HF2.out.frozen 0 1 (okb rfl)
  have c0_2 : w2.cell? ⟨w.heap.size, 2, none⟩ = some (.bool false) := HF2.out.cell 0 2 (okb rfl) (okb rfl)
  have f0_2 : w2.frozen? ⟨w.heap.size, 2, none⟩ = false := HF2.out.frozen 0 2 (okb rfl)
  refine wpAnyK_take0 4 (v := ?v42) rfl (by kernel_rfl) (fun _ _ _ h => h) (Or.inl ⟨by rfl, ?hy42⟩) (fun _ => hHeld) ?_
  case hy42 => (intro w hSw; go_simp; try with_reducible rfl)
  try simp only [Act.put, List.setIfInBounds_toArray, List.set_cons_zero, List.set_cons_succ]
  refine wpAnyK_step 5 rfl (by kernel_rfl) (fun K hK => ?_)
  go_simp
  refine hK.out _ _ ?hk43 ?_
  case hk43 => exact (fun h => nomatch (h.symm.trans (show _ = true by kernel_rfl)))
  clear hK K
  try simp only [Act.put, List.setIfInBounds_toArray, List.set_cons_zero, List.set_cons_succ]
  refine wpAnyK_done (by kernel_rfl) ?_ _
  go_wp2
  (try simp only [Exit.inBlock, Exit.then])
  have hb := ((((But.refl w2 (w.heap.size)).set 0 (.slice q00 q01 q02)).set 1 (.slice q10 q11 q12)).set 2 (.bool false))
  refine bodyPost_ret (v := .agg #[.slice q00 q01 q02, .slice q10 q11 q12, .bool false]) ?_ rfl ⟨_, rfl, ⟨_, _, rfl, HF2.out.out 0 (by simp) hb 1 (by simp), HF2.out.out 0 (by simp) hb 0 (by simp), HF2.out.apt 0 1 (by simp) (by simp) (by omega)⟩, HF2.out.outB 0 (by simp) hb⟩
  rw [results_cell rfl]; go_simp
set_option maxHeartbeats 1000000 in
theorem order_v (w : World) (T : Te w) : Calls Tryz.prog 21 #[] w fun e w' => ∃ r, e = .returned r ∧ Rk w w' r eL 256 := by
  have C := numL w
  obtain ⟨cl0, cl1, cl2, cl3, cl4, cl5, cl6, cl7⟩ := tb8L T.l
  clear T
  go_enter Tryz.func21, Tryz.ntmps21
  go_wp2_with fail
  refine C.mono ?_
  clear C cl0 cl1 cl2 cl3 cl4 cl5 cl6 cl7
  rintro e w1 ⟨r, rfl, h⟩
  have H : Hid (Rk w w1 r eL 256) := h
  obtain ⟨r0, r1, r2, rfl⟩ := h.sl
  clear h
  go_wp2
  go_ret
  exact ⟨_, rfl, H.out⟩
end Go.Proofs.YtjpjepfmphlneaaGreatDoor
