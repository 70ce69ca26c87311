import Derived.Test.YtjpjepfmphlneaaGreatDoorDY
namespace Go.Proofs.YtjpjepfmphlneaaGreatDoor
open Go.RowKit

set_option maxRecDepth 100000

theorem cmp3_zero (U V : Nat) : (cmp3 (U : Int) (V : Int) == 0) = decide (U = V) := by
  rcases Nat.lt_trichotomy U V with h | h | h
  · rw [cmp3_lt (by omega), decide_eq_false (by omega)]; rfl
  · rw [cmp3_eq (by omega), decide_eq_true h]; rfl
  · rw [cmp3_gt (by omega), decide_eq_false (by omega)]; rfl
/-- Is it a point of the curve, as the program asks? -/
def onV (X Y : Nat) (inf : Bool) : Bool := !inf && (decide (X < eP) && (decide (Y < eP) && decide (fS eP (fM eP Y Y) (fM eP X X) = fA eP 1 (fM eP eD (fM eP (fM eP X X) (fM eP Y Y))))))
set_option maxHeartbeats 8000000 in
theorem on_inf (x y : Value) (X Y : Nat) (w : World) (hx : Nu w x X) (hy : Nu w y Y) : Calls Tryz.prog 52 #[.agg #[x, y, .bool true]] w fun e w' => e = .returned (.bool false) ∧ Below w.heap.size w w' := by
  obtain ⟨x0, x1, x2, rfl⟩ := hx.shape
  obtain ⟨y0, y1, y2, rfl⟩ := hy.shape
  have HF0 : Hid (Fm w (w.alloc (.cells #[.slice x0 x1 x2, .slice y0 y1 y2, .bool true] 31)) [(31, [.slice x0 x1 x2, .slice y0 y1 y2, .bool true])] [(.slice x0 x1 x2, X, X), (.slice y0 y1 y2, Y, Y)] []) := ((Fm.nil (w := w) (A := [(.slice x0 x1 x2, X, X), (.slice y0 y1 y2, Y, Y)]) (ar_cons ⟨hx, Nat.lt_two_pow_self⟩ (ar_cons ⟨hy, Nat.lt_two_pow_self⟩ ar_nil))).push (by simp) 31 [.slice x0 x1 x2, .slice y0 y1 y2, .bool true])
  clear hx hy
  go_enter Tryz.func52, Tryz.ntmps52
  go_wp2_with fail
  generalize (w.alloc (.cells #[.slice x0 x1 x2, .slice y0 y1 y2, .bool true] 31)) = w0 at *
  have HF0d : Hid (Fm w w0.drew [(31, [.slice x0 x1 x2, .slice y0 y1 y2, .bool true])] [(.slice x0 x1 x2, X, X), (.slice y0 y1 y2, Y, Y)] []) := HF0.out.drew
  refine wp_region_K 17 (fun (w' : World) => w'.cell? ⟨w.heap.size, 0, none⟩ = some (.slice x0 x1 x2) ∧ w'.cell? ⟨w.heap.size, 1, none⟩ = some (.slice y0 y1 y2) ∧ w'.cell? ⟨w.heap.size, 2, none⟩ = some (.bool true)) (by kernel_rfl) ?_
  have hHeld : ((fun (w' : World) => w'.cell? ⟨w.heap.size, 0, none⟩ = some (.slice x0 x1 x2) ∧ w'.cell? ⟨w.heap.size, 1, none⟩ = some (.slice y0 y1 y2) ∧ w'.cell? ⟨w.heap.size, 2, none⟩ = some (.bool true))) (World.drew _) := ⟨HF0d.out.cell 0 0 (okb rfl) (okb rfl), HF0d.out.cell 0 1 (okb rfl) (okb rfl), HF0d.out.cell 0 2 (okb rfl) (okb rfl)⟩
  refine wpAnyK_take0 0 (v := ?v1) rfl (by kernel_rfl) (fun _ _ _ h => h) (Or.inl ⟨by rfl, ?hy1⟩) (fun _ => hHeld) ?_
  case hy1 => (intro w hSw; go_simp; try with_reducible rfl)
  try simp only [Act.put, List.setIfInBounds_toArray, List.set_cons_zero, List.set_cons_succ]
  refine wpAnyK_take 1 [2, 9, 10, 17] (v := ?v2) rfl (by kernel_rfl) (fun _ _ _ h => h) (Or.inl ⟨by rfl, ?hy2⟩) hHeld ?_
  case hy2 => (intro w hSw; (try dsimp only at hSw); go_simp; try with_reducible rfl)
  try simp only [Act.put, List.setIfInBounds_toArray, List.set_cons_zero, List.set_cons_succ]
  refine wpAnyK_take0 2 (v := ?v3) rfl (by kernel_rfl) (fun _ _ _ h => h) (Or.inl ⟨by rfl, ?hy3⟩) (fun _ => hHeld) ?_
  case hy3 => (intro w hSw; go_simp; try with_reducible rfl)
  try simp only [Act.put, List.setIfInBounds_toArray, List.set_cons_zero, List.set_cons_succ]
  refine wpAnyK_take0 3 (v := undef) rfl (by kernel_rfl) (fun _ _ _ h => h) (Or.inr ⟨by rfl, rfl⟩) (fun _ => hHeld) ?_
  try simp only [Act.put, List.setIfInBounds_toArray, List.set_cons_zero, List.set_cons_succ]
  refine wpAnyK_take0 4 (v := undef) rfl (by kernel_rfl) (fun _ _ _ h => h) (Or.inr ⟨by rfl, rfl⟩) (fun _ => hHeld) ?_
  try simp only [Act.put, List.setIfInBounds_toArray, List.set_cons_zero, List.set_cons_succ]
  refine wpAnyK_take0 5 (v := undef) rfl (by kernel_rfl) (fun _ _ _ h => h) (Or.inr ⟨by rfl, rfl⟩) (fun _ => hHeld) ?_
  try simp only [Act.put, List.setIfInBounds_toArray, List.set_cons_zero, List.set_cons_succ]
  refine wpAnyK_take0 6 (v := undef) rfl (by kernel_rfl) (fun _ _ _ h => h) (Or.inr ⟨by rfl, rfl⟩) (fun _ => hHeld) ?_
  try simp only [Act.put, List.setIfInBounds_toArray, List.set_cons_zero, List.set_cons_succ]
  refine wpAnyK_take0 7 (v := undef) rfl (by kernel_rfl) (fun _ _ _ h => h) (Or.inr ⟨by rfl, rfl⟩) (fun _ => hHeld) ?_
  try simp only [Act.put, List.setIfInBounds_toArray, List.set_cons_zero, List.set_cons_succ]
  refine wpAnyK_take0 8 (v := undef) rfl (by kernel_rfl) (fun _ _ _ h => h) (Or.inr ⟨by rfl, rfl⟩) (fun _ => hHeld) ?_
  try simp only [Act.put, List.setIfInBounds_toArray, List.set_cons_zero, List.set_cons_succ]
  refine wpAnyK_take0 9 (v := ?v10) rfl (by kernel_rfl) (fun _ _ _ h => h) (Or.inl ⟨by rfl, ?hy10⟩) (fun _ => hHeld) ?_
  case hy10 => (intro w hSw; go_simp; try with_reducible rfl)
  try simp only [Act.put, List.setIfInBounds_toArray, List.set_cons_zero, List.set_cons_succ]
  refine wpAnyK_take0 10 (v := ?v11) rfl (by kernel_rfl) (fun _ _ _ h => h) (Or.inl ⟨by rfl, ?hy11⟩) (fun _ => hHeld) ?_
  case hy11 => (intro w hSw; go_simp; try with_reducible rfl)
  try simp only [Act.put, List.setIfInBounds_toArray, List.set_cons_zero, List.set_cons_succ]
  refine wpAnyK_take0 11 (v := undef) rfl (by kernel_rfl) (fun _ _ _ h => h) (Or.inr ⟨by rfl, rfl⟩) (fun _ => hHeld) ?_
  try simp only [Act.put, List.setIfInBounds_toArray, List.set_cons_zero, List.set_cons_succ]
  refine wpAnyK_take0 12 (v := undef) rfl (by kernel_rfl) (fun _ _ _ h => h) (Or.inr ⟨by rfl, rfl⟩) (fun _ => hHeld) ?_
  try simp only [Act.put, List.setIfInBounds_toArray, List.set_cons_zero, List.set_cons_succ]
  refine wpAnyK_take0 13 (v := undef) rfl (by kernel_rfl) (fun _ _ _ h => h) (Or.inr ⟨by rfl, rfl⟩) (fun _ => hHeld) ?_
  try simp only [Act.put, List.setIfInBounds_toArray, List.set_cons_zero, List.set_cons_succ]
  refine wpAnyK_take0 14 (v := undef) rfl (by kernel_rfl) (fun _ _ _ h => h) (Or.inr ⟨by rfl, rfl⟩) (fun _ => hHeld) ?_
  try simp only [Act.put, List.setIfInBounds_toArray, List.set_cons_zero, List.set_cons_succ]
  refine wpAnyK_take0 15 (v := undef) rfl (by kernel_rfl) (fun _ _ _ h => h) (Or.inr ⟨by rfl, rfl⟩) (fun _ => hHeld) ?_
  try simp only [Act.put, List.setIfInBounds_toArray, List.set_cons_zero, List.set_cons_succ]
  refine wpAnyK_take0 16 (v := undef) rfl (by kernel_rfl) (fun _ _ _ h => h) (Or.inr ⟨by rfl, rfl⟩) (fun _ => hHeld) ?_
  try simp only [Act.put, List.setIfInBounds_toArray, List.set_cons_zero, List.set_cons_succ]
  refine wpAnyK_step 17 rfl (by kernel_rfl) (fun K hK => ?_)
  go_simp
  refine hK.out _ _ ?hk18 ?_
  case hk18 => exact (fun h => nomatch (h.symm.trans (show _ = true by kernel_rfl)))
  clear hK K
  try simp only [Act.put, List.setIfInBounds_toArray, List.set_cons_zero, List.set_cons_succ]
  refine wpAnyK_done (by kernel_rfl) ?_ _
  go_wp2
  go_ret
  exact ⟨rfl, HF0d.out.bel⟩
set_option maxHeartbeats 8000000 in
theorem on_e (x y : Value) (X Y : Nat) (w : World) (T : Te w) (hx : Nu w x X) (hy : Nu w y Y) (hX : X = eP) : Calls Tryz.prog 52 #[.agg #[x, y, .bool false]] w fun e w' => e = .returned (.bool false) ∧ Below w.heap.size w w' := by
  obtain ⟨x0, x1, x2, rfl⟩ := hx.shape
  obtain ⟨y0, y1, y2, rfl⟩ := hy.shape
  have HF0 : Hid (Fm w (w.alloc (.cells #[.slice x0 x1 x2, .slice y0 y1 y2, .bool false] 31)) [(31, [.slice x0 x1 x2, .slice y0 y1 y2, .bool false])] [(.slice x0 x1 x2, X, X), (.slice y0 y1 y2, Y, Y)] []) := ((Fm.nil (w := w) (A := [(.slice x0 x1 x2, X, X), (.slice y0 y1 y2, Y, Y)]) (ar_cons ⟨hx, Nat.lt_two_pow_self⟩ (ar_cons ⟨hy, Nat.lt_two_pow_self⟩ ar_nil))).push (by simp) 31 [.slice x0 x1 x2, .slice y0 y1 y2, .bool false])
  have HT : Hid (Te w) := T
  have HX : Hid (X = eP) := hX
  clear hx hy T hX
  go_enter Tryz.func52, Tryz.ntmps52
  go_wp2_with fail
  generalize (w.alloc (.cells #[.slice x0 x1 x2, .slice y0 y1 y2, .bool false] 31)) = w0 at *
  have HF0d : Hid (Fm w w0.drew [(31, [.slice x0 x1 x2, .slice y0 y1 y2, .bool false])] [(.slice x0 x1 x2, X, X), (.slice y0 y1 y2, Y, Y)] []) := HF0.out.drew
  refine wp_region_K 7 (fun (w' : World) => w'.cell? ⟨w.heap.size, 0, none⟩ = some (.slice x0 x1 x2) ∧ w'.cell? ⟨w.heap.size, 1, none⟩ = some (.slice y0 y1 y2) ∧ w'.cell? ⟨w.heap.size, 2, none⟩ = some (.bool false) ∧ T8 w' 4 lP) (by kernel_rfl) ?_
  have hHeld : ((fun (w' : World) => w'.cell? ⟨w.heap.size, 0, none⟩ = some (.slice x0 x1 x2) ∧ w'.cell? ⟨w.heap.size, 1, none⟩ = some (.slice y0 y1 y2) ∧ w'.cell? ⟨w.heap.size, 2, none⟩ = some (.bool false) ∧ T8 w' 4 lP)) (World.drew _) := ⟨HF0d.out.cell 0 0 (okb rfl) (okb rfl), HF0d.out.cell 0 1 (okb rfl) (okb rfl), HF0d.out.cell 0 2 (okb rfl) (okb rfl), (HT.out.below HF0d.out.bel (Nat.le_refl _)).p⟩
  refine wpAnyK_take0 0 (v := ?v20) rfl (by kernel_rfl) (fun _ _ _ h => h) (Or.inl ⟨by rfl, ?hy20⟩) (fun _ => hHeld) ?_
  case hy20 => (intro w hSw; go_simp; try with_reducible rfl)
  try simp only [Act.put, List.setIfInBounds_toArray, List.set_cons_zero, List.set_cons_succ]
  refine wpAnyK_take 1 [2, 7] (v := ?v21) rfl (by kernel_rfl) (fun _ _ _ h => h) (Or.inl ⟨by rfl, ?hy21⟩) hHeld ?_
  case hy21 => (intro w hSw; (try dsimp only at hSw); go_simp; try with_reducible rfl)
  try simp only [Act.put, List.setIfInBounds_toArray, List.set_cons_zero, List.set_cons_succ]
  refine wpAnyK_take0 2 (v := ?v22) rfl (by kernel_rfl) (fun _ _ _ h => h) (Or.inl ⟨by rfl, ?hy22⟩) (fun _ => hHeld) ?_
  case hy22 => (intro w hSw; go_simp; try with_reducible rfl)
  try simp only [Act.put, List.setIfInBounds_toArray, List.set_cons_zero, List.set_cons_succ]
  refine wpAnyK_take0 3 (v := ?v23) rfl (by kernel_rfl) (fun _ _ _ h => h) (Or.inl ⟨by rfl, ?hy23⟩) (fun _ => hHeld) ?_
  case hy23 => (intro w hSw; go_simp; try with_reducible rfl)
  try simp only [Act.put, List.setIfInBounds_toArray, List.set_cons_zero, List.set_cons_succ]
  refine wpAnyK_take 4 [7] (v := ?v24) rfl (by kernel_rfl) (fun _ _ _ h => h) (Or.inl ⟨by rfl, ?hy24⟩) hHeld ?_
  case hy24 => (intro w hSw; (try dsimp only at hSw); go_simp; try with_reducible rfl)
  try simp only [Act.put, List.setIfInBounds_toArray, List.set_cons_zero, List.set_cons_succ]
  refine wpAnyK_take 5 [6, 7] (v := ?vt19) rfl (by kernel_rfl) (fun _ _ _ h => h) (Or.inl ⟨by rfl, ?ht19⟩) hHeld ?_
  case ht19 => (intro w hSw; (try dsimp only at hSw); obtain ⟨q0, q1, q2, q3, q4, q5, q6, q7⟩ := tb8P hSw.2.2.2; go_simp; try with_reducible rfl)
  try simp only [Act.put, List.setIfInBounds_toArray, List.set_cons_zero, List.set_cons_succ]
  refine wpAnyK_step 6 rfl (by kernel_rfl) (fun K hK => ?_)
  go_simp
  refine (numP _).mono ?_
  rintro e w1 ⟨r1, rfl, h⟩
  have HF1 : Hid (Fm w w1 [(31, [.slice x0 x1 x2, .slice y0 y1 y2, .bool false])] [(.slice x0 x1 x2, X, X), (.slice y0 y1 y2, Y, Y)] [(r1, eP, 256)]) := HF0d.out.step h
  clear h
  try dsimp only
  refine hK.out _ _ ?hk26 ?_
  case hk26 => exact fun _ => ⟨HF1.out.cell 0 0 (okb rfl) (okb rfl), HF1.out.cell 0 1 (okb rfl) (okb rfl), HF1.out.cell 0 2 (okb rfl) (okb rfl), (HT.out.below HF1.out.bel (Nat.le_refl _)).p⟩
  have hHeld : ((fun (w' : World) => w'.cell? ⟨w.heap.size, 0, none⟩ = some (.slice x0 x1 x2) ∧ w'.cell? ⟨w.heap.size, 1, none⟩ = some (.slice y0 y1 y2) ∧ w'.cell? ⟨w.heap.size, 2, none⟩ = some (.bool false) ∧ T8 w' 4 lP)) _ := ⟨HF1.out.cell 0 0 (okb rfl) (okb rfl), HF1.out.cell 0 1 (okb rfl) (okb rfl), HF1.out.cell 0 2 (okb rfl) (okb rfl), (HT.out.below HF1.out.bel (Nat.le_refl _)).p⟩
  clear hK K
  try simp only [Act.put, List.setIfInBounds_toArray, List.set_cons_zero, List.set_cons_succ]
  refine wpAnyK_step 7 rfl (by kernel_rfl) (fun K hK => ?_)
  go_simp
  refine (vcmp _ _ X eP _ _ _ (HF1.out.arg 0 (okb rfl)).1 (HF1.out.got 0 (okb rfl)).1 (by decide) (by decide)).mono ?_
  rintro e w2 ⟨rfl, q, hq⟩
  have HF2 : Hid (Fm w w2 [(31, [.slice x0 x1 x2, .slice y0 y1 y2, .bool false])] [(.slice x0 x1 x2, X, X), (.slice y0 y1 y2, Y, Y)] [(r1, eP, 256)]) := (by rw [hq]; exact HF1.out.drewN q : Fm w w2 [(31, [.slice x0 x1 x2, .slice y0 y1 y2, .bool false])] [(.slice x0 x1 x2, X, X), (.slice y0 y1 y2, Y, Y)] [(r1, eP, 256)])
  clear hq
  rw [cmp3_eq (show ((X : Nat) : Int) = ((eP : Nat) : Int) from congrArg Int.ofNat HX.out)]
  try dsimp only
  refine hK.out _ _ ?hk27 ?_
  case hk27 => exact fun _ => ⟨HF2.out.cell 0 0 (okb rfl) (okb rfl), HF2.out.cell 0 1 (okb rfl) (okb rfl), HF2.out.cell 0 2 (okb rfl) (okb rfl), (HT.out.below HF2.out.bel (Nat.le_refl _)).p⟩
  have hHeld : ((fun (w' : World) => w'.cell? ⟨w.heap.size, 0, none⟩ = some (.slice x0 x1 x2) ∧ w'.cell? ⟨w.heap.size, 1, none⟩ = some (.slice y0 y1 y2) ∧ w'.cell? ⟨w.heap.size, 2, none⟩ = some (.bool false) ∧ T8 w' 4 lP)) _ := ⟨HF2.out.cell 0 0 (okb rfl) (okb rfl), HF2.out.cell 0 1 (okb rfl) (okb rfl), HF2.out.cell 0 2 (okb rfl) (okb rfl), (HT.out.below HF2.out.bel (Nat.le_refl _)).p⟩
  clear hK K
  try simp only [Act.put, List.setIfInBounds_toArray, List.set_cons_zero, List.set_cons_succ]
  refine wpAnyK_take0 8 (v := ?v28) rfl (by kernel_rfl) (fun _ _ _ h => h) (Or.inl ⟨by rfl, ?hy28⟩) (fun _ => hHeld) ?_
  case hy28 => (intro w hSw; go_simp; try with_reducible rfl)
  try simp only [Act.put, List.setIfInBounds_toArray, List.set_cons_zero, List.set_cons_succ]
  refine wpAnyK_take0 9 (v := ?v29) rfl (by kernel_rfl) (fun _ _ _ h => h) (Or.inl ⟨by rfl, ?hy29⟩) (fun _ => hHeld) ?_
  case hy29 => (intro w hSw; go_simp; try with_reducible rfl)
  try simp only [Act.put, List.setIfInBounds_toArray, List.set_cons_zero, List.set_cons_succ]
  refine wpAnyK_take0 10 (v := ?v30) rfl (by kernel_rfl) (fun _ _ _ h => h) (Or.inl ⟨by rfl, ?hy30⟩) (fun _ => hHeld) ?_
  case hy30 => (intro w hSw; go_simp; try with_reducible rfl)
  try simp only [Act.put, List.setIfInBounds_toArray, List.set_cons_zero, List.set_cons_succ]
  refine wpAnyK_take0 11 (v := undef) rfl (by kernel_rfl) (fun _ _ _ h => h) (Or.inr ⟨by rfl, rfl⟩) (fun _ => hHeld) ?_
  try simp only [Act.put, List.setIfInBounds_toArray, List.set_cons_zero, List.set_cons_succ]
  refine wpAnyK_take0 12 (v := undef) rfl (by kernel_rfl) (fun _ _ _ h => h) (Or.inr ⟨by rfl, rfl⟩) (fun _ => hHeld) ?_
  try simp only [Act.put, List.setIfInBounds_toArray, List.set_cons_zero, List.set_cons_succ]
  refine wpAnyK_take0 13 (v := undef) rfl (by kernel_rfl) (fun _ _ _ h => h) (Or.inr ⟨by rfl, rfl⟩) (fun _ => hHeld) ?_
  try simp only [Act.put, List.setIfInBounds_toArray, List.set_cons_zero, List.set_cons_succ]
  refine wpAnyK_take0 14 (v := undef) rfl (by kernel_rfl) (fun _ _ _ h => h) (Or.inr ⟨by rfl, rfl⟩) (fun _ => hHeld) ?_
  try simp only [Act.put, List.setIfInBounds_toArray, List.set_cons_zero, List.set_cons_succ]
  refine wpAnyK_take0 15 (v := undef) rfl (by kernel_rfl) (fun _ _ _ h => h) (Or.inr ⟨by rfl, rfl⟩) (fun _ => hHeld) ?_
  try simp only [Act.put, List.setIfInBounds_toArray, List.set_cons_zero, List.set_cons_succ]
  refine wpAnyK_take0 16 (v := undef) rfl (by kernel_rfl) (fun _ _ _ h => h) (Or.inr ⟨by rfl, rfl⟩) (fun _ => hHeld) ?_
  try simp only [Act.put, List.setIfInBounds_toArray, List.set_cons_zero, List.set_cons_succ]
  refine wpAnyK_take0 17 (v := ?v37) rfl (by kernel_rfl) (fun _ _ _ h => h) (Or.inl ⟨by rfl, ?hy37⟩) (fun _ => hHeld) ?_
  case hy37 => (intro w hSw; go_simp; try with_reducible rfl)
  try simp only [Act.put, List.setIfInBounds_toArray, List.set_cons_zero, List.set_cons_succ]
  refine wpAnyK_done (by kernel_rfl) ?_ _
  go_wp2
  go_ret
  exact ⟨rfl, HF2.out.bel⟩
set_option maxHeartbeats 8000000 in
theorem on_g (x y : Value) (X Y : Nat) (w : World) (T : Te w) (hx : Nu w x X) (hy : Nu w y Y) (hX : eP < X) : Calls Tryz.prog 52 #[.agg #[x, y, .bool false]] w fun e w' => e = .returned (.bool false) ∧ Below w.heap.size w w' := by
  obtain ⟨x0, x1, x2, rfl⟩ := hx.shape
  obtain ⟨y0, y1, y2, rfl⟩ := hy.shape
  have HF0 : Hid (Fm w (w.alloc (.cells #[.slice x0 x1 x2, .slice y0 y1 y2, .bool false] 31)) [(31, [.slice x0 x1 x2, .slice y0 y1 y2, .bool false])] [(.slice x0 x1 x2, X, X), (.slice y0 y1 y2, Y, Y)] []) := ((Fm.nil (w := w) (A := [(.slice x0 x1 x2, X, X), (.slice y0 y1 y2, Y, Y)]) (ar_cons ⟨hx, Nat.lt_two_pow_self⟩ (ar_cons ⟨hy, Nat.lt_two_pow_self⟩ ar_nil))).push (by simp) 31 [.slice x0 x1 x2, .slice y0 y1 y2, .bool false])
  have HT : Hid (Te w) := T
  have HX : Hid (eP < X) := hX
  clear hx hy T hX
  go_enter Tryz.func52, Tryz.ntmps52
  go_wp2_with fail
  generalize (w.alloc (.cells #[.slice x0 x1 x2, .slice y0 y1 y2, .bool false] 31)) = w0 at *
  have HF0d : Hid (Fm w w0.drew [(31, [.slice x0 x1 x2, .slice y0 y1 y2, .bool false])] [(.slice x0 x1 x2, X, X), (.slice y0 y1 y2, Y, Y)] []) := HF0.out.drew
  refine wp_region_K 7 (fun (w' : World) => w'.cell? ⟨w.heap.size, 0, none⟩ = some (.slice x0 x1 x2) ∧ w'.cell? ⟨w.heap.size, 1, none⟩ = some (.slice y0 y1 y2) ∧ w'.cell? ⟨w.heap.size, 2, none⟩ = some (.bool false) ∧ T8 w' 4 lP) (by kernel_rfl) ?_
  have hHeld : ((fun (w' : World) => w'.cell? ⟨w.heap.size, 0, none⟩ = some (.slice x0 x1 x2) ∧ w'.cell? ⟨w.heap.size, 1, none⟩ = some (.slice y0 y1 y2) ∧ w'.cell? ⟨w.heap.size, 2, none⟩ = some (.bool false) ∧ T8 w' 4 lP)) (World.drew _) := ⟨HF0d.out.cell 0 0 (okb rfl) (okb rfl), HF0d.out.cell 0 1 (okb rfl) (okb rfl), HF0d.out.cell 0 2 (okb rfl) (okb rfl), (HT.out.below HF0d.out.bel (Nat.le_refl _)).p⟩
  refine wpAnyK_take0 0 (v := ?v39) rfl (by kernel_rfl) (fun _ _ _ h => h) (Or.inl ⟨by rfl, ?hy39⟩) (fun _ => hHeld) ?_
  case hy39 => (intro w hSw; go_simp; try with_reducible rfl)
  try simp only [Act.put, List.setIfInBounds_toArray, List.set_cons_zero, List.set_cons_succ]
  refine wpAnyK_take 1 [2, 7] (v := ?v40) rfl (by kernel_rfl) (fun _ _ _ h => h) (Or.inl ⟨by rfl, ?hy40⟩) hHeld ?_
  case hy40 => (intro w hSw; (try dsimp only at hSw); go_simp; try with_reducible rfl)
  try simp only [Act.put, List.setIfInBounds_toArray, List.set_cons_zero, List.set_cons_succ]
  refine wpAnyK_take0 2 (v := ?v41) rfl (by kernel_rfl) (fun _ _ _ h => h) (Or.inl ⟨by rfl, ?hy41⟩) (fun _ => hHeld) ?_
  case hy41 => (intro w hSw; go_simp; try with_reducible rfl)
  try simp only [Act.put, List.setIfInBounds_toArray, List.set_cons_zero, List.set_cons_succ]
  refine wpAnyK_take0 3 (v := ?v42) rfl (by kernel_rfl) (fun _ _ _ h => h) (Or.inl ⟨by rfl, ?hy42⟩) (fun _ => hHeld) ?_
  case hy42 => (intro w hSw; go_simp; try with_reducible rfl)
  try simp only [Act.put, List.setIfInBounds_toArray, List.set_cons_zero, List.set_cons_succ]
  refine wpAnyK_take 4 [7] (v := ?v43) rfl (by kernel_rfl) (fun _ _ _ h => h) (Or.inl ⟨by rfl, ?hy43⟩) hHeld ?_
  case hy43 => (intro w hSw; (try dsimp only at hSw); go_simp; try with_reducible rfl)
  try simp only [Act.put, List.setIfInBounds_toArray, List.set_cons_zero, List.set_cons_succ]
  refine wpAnyK_take 5 [6, 7] (v := ?vt38) rfl (by kernel_rfl) (fun _ _ _ h => h) (Or.inl ⟨by rfl, ?ht38⟩) hHeld ?_
  case ht38 => (intro w hSw; (try dsimp only at hSw); obtain ⟨q0, q1, q2, q3, q4, q5, q6, q7⟩ := tb8P hSw.2.2.2; go_simp; try with_reducible rfl)
  try simp only [Act.put, List.setIfInBounds_toArray, List.set_cons_zero, List.set_cons_succ]
  refine wpAnyK_step 6 rfl (by kernel_rfl) (fun K hK => ?_)
  go_simp
  refine (numP _).mono ?_
  rintro e w1 ⟨r1, rfl, h⟩
  have HF1 : Hid (Fm w w1 [(31, [.slice x0 x1 x2, .slice y0 y1 y2, .bool false])] [(.slice x0 x1 x2, X, X), (.slice y0 y1 y2, Y, Y)] [(r1, eP, 256)]) := HF0d.out.step h
  clear h
  try dsimp only
  refine hK.out _ _ ?hk45 ?_
  case hk45 => exact fun _ => ⟨HF1.out.cell 0 0 (okb rfl) (okb rfl), HF1.out.cell 0 1 (okb rfl) (okb rfl), HF1.out.cell 0 2 (okb rfl) (okb rfl), (HT.out.below HF1.out.bel (Nat.le_refl _)).p⟩
  have hHeld : ((fun (w' : World) => w'.cell? ⟨w.heap.size, 0, none⟩ = some (.slice x0 x1 x2) ∧ w'.cell? ⟨w.heap.size, 1, none⟩ = some (.slice y0 y1 y2) ∧ w'.cell? ⟨w.heap.size, 2, none⟩ = some (.bool false) ∧ T8 w' 4 lP)) _ := ⟨HF1.out.cell 0 0 (okb rfl) (okb rfl), HF1.out.cell 0 1 (okb rfl) (okb rfl), HF1.out.cell 0 2 (okb rfl) (okb rfl), (HT.out.below HF1.out.bel (Nat.le_refl _)).p⟩
  clear hK K
  try simp only [Act.put, List.setIfInBounds_toArray, List.set_cons_zero, List.set_cons_succ]
  refine wpAnyK_step 7 rfl (by kernel_rfl) (fun K hK => ?_)
  go_simp
  refine (vcmp _ _ X eP _ _ _ (HF1.out.arg 0 (okb rfl)).1 (HF1.out.got 0 (okb rfl)).1 (by decide) (by decide)).mono ?_
  rintro e w2 ⟨rfl, q, hq⟩
  have HF2 : Hid (Fm w w2 [(31, [.slice x0 x1 x2, .slice y0 y1 y2, .bool false])] [(.slice x0 x1 x2, X, X), (.slice y0 y1 y2, Y, Y)] [(r1, eP, 256)]) := (by rw [hq]; exact HF1.out.drewN q : Fm w w2 [(31, [.slice x0 x1 x2, .slice y0 y1 y2, .bool false])] [(.slice x0 x1 x2, X, X), (.slice y0 y1 y2, Y, Y)] [(r1, eP, 256)])
  clear hq
  rw [cmp3_gt (show ((eP : Nat) : Int) < ((X : Nat) : Int) from Int.ofNat_lt.2 HX.out)]
  try dsimp only
  refine hK.out _ _ ?hk46 ?_
  case hk46 => exact fun _ => ⟨HF2.out.cell 0 0 (okb rfl) (okb rfl), HF2.out.cell 0 1 (okb rfl) (okb rfl), HF2.out.cell 0 2 (okb rfl) (okb rfl), (HT.out.below HF2.out.bel (Nat.le_refl _)).p⟩
  have hHeld : ((fun (w' : World) => w'.cell? ⟨w.heap.size, 0, none⟩ = some (.slice x0 x1 x2) ∧ w'.cell? ⟨w.heap.size, 1, none⟩ = some (.slice y0 y1 y2) ∧ w'.cell? ⟨w.heap.size, 2, none⟩ = some (.bool false) ∧ T8 w' 4 lP)) _ := ⟨HF2.out.cell 0 0 (okb rfl) (okb rfl), HF2.out.cell 0 1 (okb rfl) (okb rfl), HF2.out.cell 0 2 (okb rfl) (okb rfl), (HT.out.below HF2.out.bel (Nat.le_refl _)).p⟩
  clear hK K
  try simp only [Act.put, List.setIfInBounds_toArray, List.set_cons_zero, List.set_cons_succ]
  refine wpAnyK_take0 8 (v := ?v47) rfl (by kernel_rfl) (fun _ _ _ h => h) (Or.inl ⟨by rfl, ?hy47⟩) (fun _ => hHeld) ?_
  case hy47 => (intro w hSw; go_simp; try with_reducible rfl)
  try simp only [Act.put, List.setIfInBounds_toArray, List.set_cons_zero, List.set_cons_succ]
  refine wpAnyK_take0 9 (v := ?v48) rfl (by kernel_rfl) (fun _ _ _ h => h) (Or.inl ⟨by rfl, ?hy48⟩) (fun _ => hHeld) ?_
  case hy48 => (intro w hSw; go_simp; try with_reducible rfl)
  try simp only [Act.put, List.setIfInBounds_toArray, List.set_cons_zero, List.set_cons_succ]
  refine wpAnyK_take0 10 (v := ?v49) rfl (by kernel_rfl) (fun _ _ _ h => h) (Or.inl ⟨by rfl, ?hy49⟩) (fun _ => hHeld) ?_
  case hy49 => (intro w hSw; go_simp; try with_reducible rfl)
  try simp only [Act.put, List.setIfInBounds_toArray, List.set_cons_zero, List.set_cons_succ]
  refine wpAnyK_take0 11 (v := undef) rfl (by kernel_rfl) (fun _ _ _ h => h) (Or.inr ⟨by rfl, rfl⟩) (fun _ => hHeld) ?_
  try simp only [Act.put, List.setIfInBounds_toArray, List.set_cons_zero, List.set_cons_succ]
  refine wpAnyK_take0 12 (v := undef) rfl (by kernel_rfl) (fun _ _ _ h => h) (Or.inr ⟨by rfl, rfl⟩) (fun _ => hHeld) ?_
  try simp only [Act.put, List.setIfInBounds_toArray, List.set_cons_zero, List.set_cons_succ]
  refine wpAnyK_take0 13 (v := undef) rfl (by kernel_rfl) (fun _ _ _ h => h) (Or.inr ⟨by rfl, rfl⟩) (fun _ => hHeld) ?_
  try simp only [Act.put, List.setIfInBounds_toArray, List.set_cons_zero, List.set_cons_succ]
  refine wpAnyK_take0 14 (v := undef) rfl (by kernel_rfl) (fun _ _ _ h => h) (Or.inr ⟨by rfl, rfl⟩) (fun _ => hHeld) ?_
  try simp only [Act.put, List.setIfInBounds_toArray, List.set_cons_zero, List.set_cons_succ]
  refine wpAnyK_take0 15 (v := undef) rfl (by kernel_rfl) (fun _ _ _ h => h) (Or.inr ⟨by rfl, rfl⟩) (fun _ => hHeld) ?_
  try simp only [Act.put, List.setIfInBounds_toArray, List.set_cons_zero, List.set_cons_succ]
  refine wpAnyK_take0 16 (v := undef) rfl (by kernel_rfl) (fun _ _ _ h => h) (Or.inr ⟨by rfl, rfl⟩) (fun _ => hHeld) ?_
  try simp only [Act.put, List.setIfInBounds_toArray, List.set_cons_zero, List.set_cons_succ]
  refine wpAnyK_take0 17 (v := ?v56) rfl (by kernel_rfl) (fun _ _ _ h => h) (Or.inl ⟨by rfl, ?hy56⟩) (fun _ => hHeld) ?_
  case hy56 => (intro w hSw; go_simp; try with_reducible rfl)
  try simp only [Act.put, List.setIfInBounds_toArray, List.set_cons_zero, List.set_cons_succ]
  refine wpAnyK_done (by kernel_rfl) ?_ _
  go_wp2
  go_ret
  exact ⟨rfl, HF2.out.bel⟩
set_option maxHeartbeats 8000000 in
theorem on_le (x y : Value) (X Y : Nat) (w : World) (T : Te w) (hx : Nu w x X) (hy : Nu w y Y) (hX : X < eP) (hY : Y = eP) : Calls Tryz.prog 52 #[.agg #[x, y, .bool false]] w fun e w' => e = .returned (.bool false) ∧ Below w.heap.size w w' := by
  obtain ⟨x0, x1, x2, rfl⟩ := hx.shape
  obtain ⟨y0, y1, y2, rfl⟩ := hy.shape
  have HF0 : Hid (Fm w (w.alloc (.cells #[.slice x0 x1 x2, .slice y0 y1 y2, .bool false] 31)) [(31, [.slice x0 x1 x2, .slice y0 y1 y2, .bool false])] [(.slice x0 x1 x2, X, X), (.slice y0 y1 y2, Y, Y)] []) := ((Fm.nil (w := w) (A := [(.slice x0 x1 x2, X, X), (.slice y0 y1 y2, Y, Y)]) (ar_cons ⟨hx, Nat.lt_two_pow_self⟩ (ar_cons ⟨hy, Nat.lt_two_pow_self⟩ ar_nil))).push (by simp) 31 [.slice x0 x1 x2, .slice y0 y1 y2, .bool false])
  have HT : Hid (Te w) := T
  have HX : Hid (X < eP) := hX
  have HY : Hid (Y = eP) := hY
  clear hx hy T hX hY
  go_enter Tryz.func52, Tryz.ntmps52
  go_wp2_with fail
  generalize (w.alloc (.cells #[.slice x0 x1 x2, .slice y0 y1 y2, .bool false] 31)) = w0 at *
  have HF0d : Hid (Fm w w0.drew [(31, [.slice x0 x1 x2, .slice y0 y1 y2, .bool false])] [(.slice x0 x1 x2, X, X), (.slice y0 y1 y2, Y, Y)] []) := HF0.out.drew
  refine wp_region_K 15 (fun (w' : World) => w'.cell? ⟨w.heap.size, 0, none⟩ = some (.slice x0 x1 x2) ∧ w'.cell? ⟨w.heap.size, 1, none⟩ = some (.slice y0 y1 y2) ∧ w'.cell? ⟨w.heap.size, 2, none⟩ = some (.bool false) ∧ T8 w' 4 lP) (by kernel_rfl) ?_
  have hHeld : ((fun (w' : World) => w'.cell? ⟨w.heap.size, 0, none⟩ = some (.slice x0 x1 x2) ∧ w'.cell? ⟨w.heap.size, 1, none⟩ = some (.slice y0 y1 y2) ∧ w'.cell? ⟨w.heap.size, 2, none⟩ = some (.bool false) ∧ T8 w' 4 lP)) (World.drew _) := ⟨HF0d.out.cell 0 0 (okb rfl) (okb rfl), HF0d.out.cell 0 1 (okb rfl) (okb rfl), HF0d.out.cell 0 2 (okb rfl) (okb rfl), (HT.out.below HF0d.out.bel (Nat.le_refl _)).p⟩
  refine wpAnyK_take0 0 (v := ?v59) rfl (by kernel_rfl) (fun _ _ _ h => h) (Or.inl ⟨by rfl, ?hy59⟩) (fun _ => hHeld) ?_
  case hy59 => (intro w hSw; go_simp; try with_reducible rfl)
  try simp only [Act.put, List.setIfInBounds_toArray, List.set_cons_zero, List.set_cons_succ]
  refine wpAnyK_take 1 [2, 9, 10, 15] (v := ?v60) rfl (by kernel_rfl) (fun _ _ _ h => h) (Or.inl ⟨by rfl, ?hy60⟩) hHeld ?_
  case hy60 => (intro w hSw; (try dsimp only at hSw); go_simp; try with_reducible rfl)
  try simp only [Act.put, List.setIfInBounds_toArray, List.set_cons_zero, List.set_cons_succ]
  refine wpAnyK_take0 2 (v := ?v61) rfl (by kernel_rfl) (fun _ _ _ h => h) (Or.inl ⟨by rfl, ?hy61⟩) (fun _ => hHeld) ?_
  case hy61 => (intro w hSw; go_simp; try with_reducible rfl)
  try simp only [Act.put, List.setIfInBounds_toArray, List.set_cons_zero, List.set_cons_succ]
  refine wpAnyK_take0 3 (v := ?v62) rfl (by kernel_rfl) (fun _ _ _ h => h) (Or.inl ⟨by rfl, ?hy62⟩) (fun _ => hHeld) ?_
  case hy62 => (intro w hSw; go_simp; try with_reducible rfl)
  try simp only [Act.put, List.setIfInBounds_toArray, List.set_cons_zero, List.set_cons_succ]
  refine wpAnyK_take 4 [7, 8, 9, 10, 15] (v := ?v63) rfl (by kernel_rfl) (fun _ _ _ h => h) (Or.inl ⟨by rfl, ?hy63⟩) hHeld ?_
  case hy63 => (intro w hSw; (try dsimp only at hSw); go_simp; try with_reducible rfl)
  try simp only [Act.put, List.setIfInBounds_toArray, List.set_cons_zero, List.set_cons_succ]
  refine wpAnyK_take 5 [6, 7, 8, 9, 10, 15] (v := ?vt57) rfl (by kernel_rfl) (fun _ _ _ h => h) (Or.inl ⟨by rfl, ?ht57⟩) hHeld ?_
  case ht57 => (intro w hSw; (try dsimp only at hSw); obtain ⟨q0, q1, q2, q3, q4, q5, q6, q7⟩ := tb8P hSw.2.2.2; go_simp; try with_reducible rfl)
  try simp only [Act.put, List.setIfInBounds_toArray, List.set_cons_zero, List.set_cons_succ]
  refine wpAnyK_step 6 rfl (by kernel_rfl) (fun K hK => ?_)
  go_simp
  refine (numP _).mono ?_
  rintro e w1 ⟨r1, rfl, h⟩
  have HF1 : Hid (Fm w w1 [(31, [.slice x0 x1 x2, .slice y0 y1 y2, .bool false])] [(.slice x0 x1 x2, X, X), (.slice y0 y1 y2, Y, Y)] [(r1, eP, 256)]) := HF0d.out.step h
  clear h
  try dsimp only
  refine hK.out _ _ ?hk65 ?_
  case hk65 => exact fun _ => ⟨HF1.out.cell 0 0 (okb rfl) (okb rfl), HF1.out.cell 0 1 (okb rfl) (okb rfl), HF1.out.cell 0 2 (okb rfl) (okb rfl), (HT.out.below HF1.out.bel (Nat.le_refl _)).p⟩
  have hHeld : ((fun (w' : World) => w'.cell? ⟨w.heap.size, 0, none⟩ = some (.slice x0 x1 x2) ∧ w'.cell? ⟨w.heap.size, 1, none⟩ = some (.slice y0 y1 y2) ∧ w'.cell? ⟨w.heap.size, 2, none⟩ = some (.bool false) ∧ T8 w' 4 lP)) _ := ⟨HF1.out.cell 0 0 (okb rfl) (okb rfl), HF1.out.cell 0 1 (okb rfl) (okb rfl), HF1.out.cell 0 2 (okb rfl) (okb rfl), (HT.out.below HF1.out.bel (Nat.le_refl _)).p⟩
  clear hK K
  try simp only [Act.put, List.setIfInBounds_toArray, List.set_cons_zero, List.set_cons_succ]
  refine wpAnyK_step 7 rfl (by kernel_rfl) (fun K hK => ?_)
  go_simp
  refine (vcmp _ _ X eP _ _ _ (HF1.out.arg 0 (okb rfl)).1 (HF1.out.got 0 (okb rfl)).1 (by decide) (by decide)).mono ?_
  rintro e w2 ⟨rfl, q, hq⟩
  have HF2 : Hid (Fm w w2 [(31, [.slice x0 x1 x2, .slice y0 y1 y2, .bool false])] [(.slice x0 x1 x2, X, X), (.slice y0 y1 y2, Y, Y)] [(r1, eP, 256)]) := (by rw [hq]; exact HF1.out.drewN q : Fm w w2 [(31, [.slice x0 x1 x2, .slice y0 y1 y2, .bool false])] [(.slice x0 x1 x2, X, X), (.slice y0 y1 y2, Y, Y)] [(r1, eP, 256)])
  clear hq
  rw [cmp3_lt (show ((X : Nat) : Int) < ((eP : Nat) : Int) from Int.ofNat_lt.2 HX.out)]
  try dsimp only
  refine hK.out _ _ ?hk66 ?_
  case hk66 => exact fun _ => ⟨HF2.out.cell 0 0 (okb rfl) (okb rfl), HF2.out.cell 0 1 (okb rfl) (okb rfl), HF2.out.cell 0 2 (okb rfl) (okb rfl), (HT.out.below HF2.out.bel (Nat.le_refl _)).p⟩
  have hHeld : ((fun (w' : World) => w'.cell? ⟨w.heap.size, 0, none⟩ = some (.slice x0 x1 x2) ∧ w'.cell? ⟨w.heap.size, 1, none⟩ = some (.slice y0 y1 y2) ∧ w'.cell? ⟨w.heap.size, 2, none⟩ = some (.bool false) ∧ T8 w' 4 lP)) _ := ⟨HF2.out.cell 0 0 (okb rfl) (okb rfl), HF2.out.cell 0 1 (okb rfl) (okb rfl), HF2.out.cell 0 2 (okb rfl) (okb rfl), (HT.out.below HF2.out.bel (Nat.le_refl _)).p⟩
  clear hK K
  try simp only [Act.put, List.setIfInBounds_toArray, List.set_cons_zero, List.set_cons_succ]
  refine wpAnyK_take0 8 (v := ?v67) rfl (by kernel_rfl) (fun _ _ _ h => h) (Or.inl ⟨by rfl, ?hy67⟩) (fun _ => hHeld) ?_
  case hy67 => (intro w hSw; go_simp; try with_reducible rfl)
  try simp only [Act.put, List.setIfInBounds_toArray, List.set_cons_zero, List.set_cons_succ]
  refine wpAnyK_take0 9 (v := ?v68) rfl (by kernel_rfl) (fun _ _ _ h => h) (Or.inl ⟨by rfl, ?hy68⟩) (fun _ => hHeld) ?_
  case hy68 => (intro w hSw; go_simp; try with_reducible rfl)
  try simp only [Act.put, List.setIfInBounds_toArray, List.set_cons_zero, List.set_cons_succ]
  refine wpAnyK_take0 10 (v := ?v69) rfl (by kernel_rfl) (fun _ _ _ h => h) (Or.inl ⟨by rfl, ?hy69⟩) (fun _ => hHeld) ?_
  case hy69 => (intro w hSw; go_simp; try with_reducible rfl)
  try simp only [Act.put, List.setIfInBounds_toArray, List.set_cons_zero, List.set_cons_succ]
  refine wpAnyK_take0 11 (v := ?v70) rfl (by kernel_rfl) (fun _ _ _ h => h) (Or.inl ⟨by rfl, ?hy70⟩) (fun _ => hHeld) ?_
  case hy70 => (intro w hSw; go_simp; try with_reducible rfl)
  try simp only [Act.put, List.setIfInBounds_toArray, List.set_cons_zero, List.set_cons_succ]
  refine wpAnyK_take 12 [15] (v := ?v71) rfl (by kernel_rfl) (fun _ _ _ h => h) (Or.inl ⟨by rfl, ?hy71⟩) hHeld ?_
  case hy71 => (intro w hSw; (try dsimp only at hSw); go_simp; try with_reducible rfl)
  try simp only [Act.put, List.setIfInBounds_toArray, List.set_cons_zero, List.set_cons_succ]
  refine wpAnyK_take 13 [14, 15] (v := ?vt58) rfl (by kernel_rfl) (fun _ _ _ h => h) (Or.inl ⟨by rfl, ?ht58⟩) hHeld ?_
  case ht58 => (intro w hSw; (try dsimp only at hSw); obtain ⟨q0, q1, q2, q3, q4, q5, q6, q7⟩ := tb8P hSw.2.2.2; go_simp; try with_reducible rfl)
  try simp only [Act.put, List.setIfInBounds_toArray, List.set_cons_zero, List.set_cons_succ]
  refine wpAnyK_step 14 rfl (by kernel_rfl) (fun K hK => ?_)
  go_simp
  refine (numP _).mono ?_
  rintro e w3 ⟨r3, rfl, h⟩
  have HF3 : Hid (Fm w w3 [(31, [.slice x0 x1 x2, .slice y0 y1 y2, .bool false])] [(.slice x0 x1 x2, X, X), (.slice y0 y1 y2, Y, Y)] [(r3, eP, 256), (r1, eP, 256)]) := HF2.out.step h
  clear h
  try dsimp only
  refine hK.out _ _ ?hk73 ?_
  case hk73 => exact fun _ => ⟨HF3.out.cell 0 0 (okb rfl) (okb rfl), HF3.out.cell 0 1 (okb rfl) (okb rfl), HF3.out.cell 0 2 (okb rfl) (okb rfl), (HT.out.below HF3.out.bel (Nat.le_refl _)).p⟩
  have hHeld : ((fun (w' : World) => w'.cell? ⟨w.heap.size, 0, none⟩ = some (.slice x0 x1 x2) ∧ w'.cell? ⟨w.heap.size, 1, none⟩ = some (.slice y0 y1 y2) ∧ w'.cell? ⟨w.heap.size, 2, none⟩ = some (.bool false) ∧ T8 w' 4 lP)) _ := ⟨HF3.out.cell 0 0 (okb rfl) (okb rfl), HF3.out.cell 0 1 (okb rfl) (okb rfl), HF3.out.cell 0 2 (okb rfl) (okb rfl), (HT.out.below HF3.out.bel (Nat.le_refl _)).p⟩
  clear hK K
  try simp only [Act.put, List.setIfInBounds_toArray, List.set_cons_zero, List.set_cons_succ]
  refine wpAnyK_step 15 rfl (by kernel_rfl) (fun K hK => ?_)
  go_simp
  refine (vcmp _ _ Y eP _ _ _ (HF3.out.arg 1 (okb rfl)).1 (HF3.out.got 0 (okb rfl)).1 (by decide) (by decide)).mono ?_
  rintro e w4 ⟨rfl, q, hq⟩
  have HF4 : Hid (Fm w w4 [(31, [.slice x0 x1 x2, .slice y0 y1 y2, .bool false])] [(.slice x0 x1 x2, X, X), (.slice y0 y1 y2, Y, Y)] [(r3, eP, 256), (r1, eP, 256)]) := (by rw [hq]; exact HF3.out.drewN q : Fm w w4 [(31, [.slice x0 x1 x2, .slice y0 y1 y2, .bool false])] [(.slice x0 x1 x2, X, X), (.slice y0 y1 y2, Y, Y)] [(r3, eP, 256), (r1, eP, 256)])
  clear hq
  rw [cmp3_eq (show ((Y : Nat) : Int) = ((eP : Nat) : Int) from congrArg Int.ofNat HY.out)]
  try dsimp only
  refine hK.out _ _ ?hk74 ?_
  case hk74 => exact fun _ => ⟨HF4.out.cell 0 0 (okb rfl) (okb rfl), HF4.out.cell 0 1 (okb rfl) (okb rfl), HF4.out.cell 0 2 (okb rfl) (okb rfl), (HT.out.below HF4.out.bel (Nat.le_refl _)).p⟩
  have hHeld : ((fun (w' : World) => w'.cell? ⟨w.heap.size, 0, none⟩ = some (.slice x0 x1 x2) ∧ w'.cell? ⟨w.heap.size, 1, none⟩ = some (.slice y0 y1 y2) ∧ w'.cell? ⟨w.heap.size, 2, none⟩ = some (.bool false) ∧ T8 w' 4 lP)) _ := ⟨HF4.out.cell 0 0 (okb rfl) (okb rfl), HF4.out.cell 0 1 (okb rfl) (okb rfl), HF4.out.cell 0 2 (okb rfl) (okb rfl), (HT.out.below HF4.out.bel (Nat.le_refl _)).p⟩
  clear hK K
  try simp only [Act.put, List.setIfInBounds_toArray, List.set_cons_zero, List.set_cons_succ]
  refine wpAnyK_take0 16 (v := ?v75) rfl (by kernel_rfl) (fun _ _ _ h => h) (Or.inl ⟨by rfl, ?hy75⟩) (fun _ => hHeld) ?_
  case hy75 => (intro w hSw; go_simp; try with_reducible rfl)
  try simp only [Act.put, List.setIfInBounds_toArray, List.set_cons_zero, List.set_cons_succ]
  refine wpAnyK_take0 17 (v := ?v76) rfl (by kernel_rfl) (fun _ _ _ h => h) (Or.inl ⟨by rfl, ?hy76⟩) (fun _ => hHeld) ?_
  case hy76 => (intro w hSw; go_simp; try with_reducible rfl)
  try simp only [Act.put, List.setIfInBounds_toArray, List.set_cons_zero, List.set_cons_succ]
  refine wpAnyK_done (by kernel_rfl) ?_ _
  go_wp2
  go_ret
  exact ⟨rfl, HF4.out.bel⟩
set_option maxHeartbeats 8000000 in
theorem on_lg (x y : Value) (X Y : Nat) (w : World) (T : Te w) (hx : Nu w x X) (hy : Nu w y Y) (hX : X < eP) (hY : eP < Y) : Calls Tryz.prog 52 #[.agg #[x, y, .bool false]] w fun e w' => e = .returned (.bool false) ∧ Below w.heap.size w w' := by
  obtain ⟨x0, x1, x2, rfl⟩ := hx.shape
  obtain ⟨y0, y1, y2, rfl⟩ := hy.shape
  have HF0 : Hid (Fm w (w.alloc (.cells #[.slice x0 x1 x2, .slice y0 y1 y2, .bool false] 31)) [(31, [.slice x0 x1 x2, .slice y0 y1 y2, .bool false])] [(.slice x0 x1 x2, X, X), (.slice y0 y1 y2, Y, Y)] []) := ((Fm.nil (w := w) (A := [(.slice x0 x1 x2, X, X), (.slice y0 y1 y2, Y, Y)]) (ar_cons ⟨hx, Nat.lt_two_pow_self⟩ (ar_cons ⟨hy, Nat.lt_two_pow_self⟩ ar_nil))).push (by simp) 31 [.slice x0 x1 x2, .slice y0 y1 y2, .bool false])
  have HT : Hid (Te w) := T
  have HX : Hid (X < eP) := hX
  have HY : Hid (eP < Y) := hY
  clear hx hy T hX hY
  go_enter Tryz.func52, Tryz.ntmps52
  go_wp2_with fail
  generalize (w.alloc (.cells #[.slice x0 x1 x2, .slice y0 y1 y2, .bool false] 31)) = w0 at *
  have HF0d : Hid (Fm w w0.drew [(31, [.slice x0 x1 x2, .slice y0 y1 y2, .bool false])] [(.slice x0 x1 x2, X, X), (.slice y0 y1 y2, Y, Y)] []) := HF0.out.drew
  refine wp_region_K 15 (fun (w' : World) => w'.cell? ⟨w.heap.size, 0, none⟩ = some (.slice x0 x1 x2) ∧ w'.cell? ⟨w.heap.size, 1, none⟩ = some (.slice y0 y1 y2) ∧ w'.cell? ⟨w.heap.size, 2, none⟩ = some (.bool false) ∧ T8 w' 4 lP) (by kernel_rfl) ?_
  have hHeld : ((fun (w' : World) => w'.cell? ⟨w.heap.size, 0, none⟩ = some (.slice x0 x1 x2) ∧ w'.cell? ⟨w.heap.size, 1, none⟩ = some (.slice y0 y1 y2) ∧ w'.cell? ⟨w.heap.size, 2, none⟩ = some (.bool false) ∧ T8 w' 4 lP)) (World.drew _) := ⟨HF0d.out.cell 0 0 (okb rfl) (okb rfl), HF0d.out.cell 0 1 (okb rfl) (okb rfl), HF0d.out.cell 0 2 (okb rfl) (okb rfl), (HT.out.below HF0d.out.bel (Nat.le_refl _)).p⟩
  refine wpAnyK_take0 0 (v := ?v79) rfl (by kernel_rfl) (fun _ _ _ h => h) (Or.inl ⟨by rfl, ?hy79⟩) (fun _ => hHeld) ?_
  case hy79 => (intro w hSw; go_simp; try with_reducible rfl)
  try simp only [Act.put, List.setIfInBounds_toArray, List.set_cons_zero, List.set_cons_succ]
  refine wpAnyK_take 1 [2, 9, 10, 15] (v := ?v80) rfl (by kernel_rfl) (fun _ _ _ h => h) (Or.inl ⟨by rfl, ?hy80⟩) hHeld ?_
  case hy80 => (intro w hSw; (try dsimp only at hSw); go_simp; try with_reducible rfl)
  try simp only [Act.put, List.setIfInBounds_toArray, List.set_cons_zero, List.set_cons_succ]
  refine wpAnyK_take0 2 (v := ?v81) rfl (by kernel_rfl) (fun _ _ _ h => h) (Or.inl ⟨by rfl, ?hy81⟩) (fun _ => hHeld) ?_
  case hy81 => (intro w hSw; go_simp; try with_reducible rfl)
  try simp only [Act.put, List.setIfInBounds_toArray, List.set_cons_zero, List.set_cons_succ]
  refine wpAnyK_take0 3 (v := ?v82) rfl (by kernel_rfl) (fun _ _ _ h => h) (Or.inl ⟨by rfl, ?hy82⟩) (fun _ => hHeld) ?_
  case hy82 => (intro w hSw; go_simp; try with_reducible rfl)
  try simp only [Act.put, List.setIfInBounds_toArray, List.set_cons_zero, List.set_cons_succ]
  refine wpAnyK_take 4 [7, 8, 9, 10, 15] (v := ?v83) rfl (by kernel_rfl) (fun _ _ _ h => h) (Or.inl ⟨by rfl, ?hy83⟩) hHeld ?_
  case hy83 => (intro w hSw; (try dsimp only at hSw); go_simp; try with_reducible rfl)
  try simp only [Act.put, List.setIfInBounds_toArray, List.set_cons_zero, List.set_cons_succ]
  refine wpAnyK_take 5 [6, 7, 8, 9, 10, 15] (v := ?vt77) rfl (by kernel_rfl) (fun _ _ _ h => h) (Or.inl ⟨by rfl, ?ht77⟩) hHeld ?_
  case ht77 => (intro w hSw; (try dsimp only at hSw); obtain ⟨q0, q1, q2, q3, q4, q5, q6, q7⟩ := tb8P hSw.2.2.2; go_simp; try with_reducible rfl)
  try simp only [Act.put, List.setIfInBounds_toArray, List.set_cons_zero, List.set_cons_succ]
  refine wpAnyK_step 6 rfl (by kernel_rfl) (fun K hK => ?_)
  go_simp
  refine (numP _).mono ?_
  rintro e w1 ⟨r1, rfl, h⟩
  have HF1 : Hid (Fm w w1 [(31, [.slice x0 x1 x2, .slice y0 y1 y2, .bool false])] [(.slice x0 x1 x2, X, X), (.slice y0 y1 y2, Y, Y)] [(r1, eP, 256)]) := HF0d.out.step h
  clear h
  try dsimp only
  refine hK.out _ _ ?hk85 ?_
  case hk85 => exact fun _ => ⟨HF1.out.cell 0 0 (okb rfl) (okb rfl), HF1.out.cell 0 1 (okb rfl) (okb rfl), HF1.out.cell 0 2 (okb rfl) (okb rfl), (HT.out.below HF1.out.bel (Nat.le_refl _)).p⟩
  have hHeld : ((fun (w' : World) => w'.cell? ⟨w.heap.size, 0, none⟩ = some (.slice x0 x1 x2) ∧ w'.cell? ⟨w.heap.size, 1, none⟩ = some (.slice y0 y1 y2) ∧ w'.cell? ⟨w.heap.size, 2, none⟩ = some (.bool false) ∧ T8 w' 4 lP)) _ := ⟨HF1.out.cell 0 0 (okb rfl) (okb rfl), HF1.out.cell 0 1 (okb rfl) (okb rfl), HF1.out.cell 0 2 (okb rfl) (okb rfl), (HT.out.below HF1.out.bel (Nat.le_refl _)).p⟩
  clear hK K
  try simp only [Act.put, List.setIfInBounds_toArray, List.set_cons_zero, List.set_cons_succ]
  refine wpAnyK_step 7 rfl (by kernel_rfl) (fun K hK => ?_)
  go_simp
  refine (vcmp _ _ X eP _ _ _ (HF1.out.arg 0 (okb rfl)).1 (HF1.out.got 0 (okb rfl)).1 (by decide) (by decide)).mono ?_
  rintro e w2 ⟨rfl, q, hq⟩
  have HF2 : Hid (Fm w w2 [(31, [.slice x0 x1 x2, .slice y0 y1 y2, .bool false])] [(.slice x0 x1 x2, X, X), (.slice y0 y1 y2, Y, Y)] [(r1, eP, 256)]) := (by rw [hq]; exact HF1.out.drewN q : Fm w w2 [(31, [.slice x0 x1 x2, .slice y0 y1 y2, .bool false])] [(.slice x0 x1 x2, X, X), (.slice y0 y1 y2, Y, Y)] [(r1, eP, 256)])
  clear hq
  rw [cmp3_lt (show ((X : Nat) : Int) < ((eP : Nat) : Int) from Int.ofNat_lt.2 HX.out)]
  try dsimp only
  refine hK.out _ _ ?hk86 ?_
  case hk86 => exact fun _ => ⟨HF2.out.cell 0 0 (okb rfl) (okb rfl), HF2.out.cell 0 1 (okb rfl) (okb rfl), HF2.out.cell 0 2 (okb rfl) (okb rfl), (HT.out.below HF2.out.bel (Nat.le_refl _)).p⟩
  have hHeld : ((fun (w' : World) => w'.cell? ⟨w.heap.size, 0, none⟩ = some (.slice x0 x1 x2) ∧ w'.cell? ⟨w.heap.size, 1, none⟩ = some (.slice y0 y1 y2) ∧ w'.cell? ⟨w.heap.size, 2, none⟩ = some (.bool false) ∧ T8 w' 4 lP)) _ := ⟨HF2.out.cell 0 0 (okb rfl) (okb rfl), HF2.out.cell 0 1 (okb rfl) (okb rfl), HF2.out.cell 0 2 (okb rfl) (okb rfl), (HT.out.below HF2.out.bel (Nat.le_refl _)).p⟩
  clear hK K
  try simp only [Act.put, List.setIfInBounds_toArray, List.set_cons_zero, List.set_cons_succ]
  refine wpAnyK_take0 8 (v := ?v87) rfl (by kernel_rfl) (fun _ _ _ h => h) (Or.inl ⟨by rfl, ?hy87⟩) (fun _ => hHeld) ?_
  case hy87 => (intro w hSw; go_simp; try with_reducible rfl)
  try simp only [Act.put, List.setIfInBounds_toArray, List.set_cons_zero, List.set_cons_succ]
  refine wpAnyK_take0 9 (v := ?v88) rfl (by kernel_rfl) (fun _ _ _ h => h) (Or.inl ⟨by rfl, ?hy88⟩) (fun _ => hHeld) ?_
  case hy88 => (intro w hSw; go_simp; try with_reducible rfl)
  try simp only [Act.put, List.setIfInBounds_toArray, List.set_cons_zero, List.set_cons_succ]
  refine wpAnyK_take0 10 (v := ?v89) rfl (by kernel_rfl) (fun _ _ _ h => h) (Or.inl ⟨by rfl, ?hy89⟩) (fun _ => hHeld) ?_
  case hy89 => (intro w hSw; go_simp; try with_reducible rfl)
  try simp only [Act.put, List.setIfInBounds_toArray, List.set_cons_zero, List.set_cons_succ]
  refine wpAnyK_take0 11 (v := ?v90) rfl (by kernel_rfl) (fun _ _ _ h => h) (Or.inl ⟨by rfl, ?hy90⟩) (fun _ => hHeld) ?_
  case hy90 => (intro w hSw; go_simp; try with_reducible rfl)
  try simp only [Act.put, List.setIfInBounds_toArray, List.set_cons_zero, List.set_cons_succ]
  refine wpAnyK_take 12 [15] (v := ?v91) rfl (by kernel_rfl) (fun _ _ _ h => h) (Or.inl ⟨by rfl, ?hy91⟩) hHeld ?_
  case hy91 => (intro w hSw; (try dsimp only at hSw); go_simp; try with_reducible rfl)
  try simp only [Act.put, List.setIfInBounds_toArray, List.set_cons_zero, List.set_cons_succ]
  refine wpAnyK_take 13 [14, 15] (v := ?vt78) rfl (by kernel_rfl) (fun _ _ _ h => h) (Or.inl ⟨by rfl, ?ht78⟩) hHeld ?_
  case ht78 => (intro w hSw; (try dsimp only at hSw); obtain ⟨q0, q1, q2, q3, q4, q5, q6, q7⟩ := tb8P hSw.2.2.2; go_simp; try with_reducible rfl)
  try simp only [Act.put, List.setIfInBounds_toArray, List.set_cons_zero, List.set_cons_succ]
  refine wpAnyK_step 14 rfl (by kernel_rfl) (fun K hK => ?_)
  go_simp
  refine (numP _).mono ?_
  rintro e w3 ⟨r3, rfl, h⟩
  have HF3 : Hid (Fm w w3 [(31, [.slice x0 x1 x2, .slice y0 y1 y2, .bool false])] [(.slice x0 x1 x2, X, X), (.slice y0 y1 y2, Y, Y)] [(r3, eP, 256), (r1, eP, 256)]) := HF2.out.step h
  clear h
  try dsimp only
  refine hK.out _ _ ?hk93 ?_
  case hk93 => exact fun _ => ⟨HF3.out.cell 0 0 (okb rfl) (okb rfl), HF3.out.cell 0 1 (okb rfl) (okb rfl), HF3.out.cell 0 2 (okb rfl) (okb rfl), (HT.out.below HF3.out.bel (Nat.le_refl _)).p⟩
  have hHeld : ((fun (w' : World) => w'.cell? ⟨w.heap.size, 0, none⟩ = some (.slice x0 x1 x2) ∧ w'.cell? ⟨w.heap.size, 1, none⟩ = some (.slice y0 y1 y2) ∧ w'.cell? ⟨w.heap.size, 2, none⟩ = some (.bool false) ∧ T8 w' 4 lP)) _ := ⟨HF3.out.cell 0 0 (okb rfl) (okb rfl), HF3.out.cell 0 1 (okb rfl) (okb rfl), HF3.out.cell 0 2 (okb rfl) (okb rfl), (HT.out.below HF3.out.bel (Nat.le_refl _)).p⟩
  clear hK K
  try simp only [Act.put, List.setIfInBounds_toArray, List.set_cons_zero, List.set_cons_succ]
  refine wpAnyK_step 15 rfl (by kernel_rfl) (fun K hK => ?_)
  go_simp
  refine (vcmp _ _ Y eP _ _ _ (HF3.out.arg 1 (okb rfl)).1 (HF3.out.got 0 (okb rfl)).1 (by decide) (by decide)).mono ?_
  rintro e w4 ⟨rfl, q, hq⟩
  have HF4 : Hid (Fm w w4 [(31, [.slice x0 x1 x2, .slice y0 y1 y2, .bool false])] [(.slice x0 x1 x2, X, X), (.slice y0 y1 y2, Y, Y)] [(r3, eP, 256), (r1, eP, 256)]) := (by rw [hq]; exact HF3.out.drewN q : Fm w w4 [(31, [.slice x0 x1 x2, .slice y0 y1 y2, .bool false])] [(.slice x0 x1 x2, X, X), (.slice y0 y1 y2, Y, Y)] [(r3, eP, 256), (r1, eP, 256)])
  clear hq
  rw [cmp3_gt (show ((eP : Nat) : Int) < ((Y : Nat) : Int) from Int.ofNat_lt.2 HY.out)]
  try dsimp only
  refine hK.out _ _ ?hk94 ?_
  case hk94 => exact fun _ => ⟨HF4.out.cell 0 0 (okb rfl) (okb rfl), HF4.out.cell 0 1 (okb rfl) (okb rfl), HF4.out.cell 0 2 (okb rfl) (okb rfl), (HT.out.below HF4.out.bel (Nat.le_refl _)).p⟩
  have hHeld : ((fun (w' : World) => w'.cell? ⟨w.heap.size, 0, none⟩ = some (.slice x0 x1 x2) ∧ w'.cell? ⟨w.heap.size, 1, none⟩ = some (.slice y0 y1 y2) ∧ w'.cell? ⟨w.heap.size, 2, none⟩ = some (.bool false) ∧ T8 w' 4 lP)) _ := ⟨HF4.out.cell 0 0 (okb rfl) (okb rfl), HF4.out.cell 0 1 (okb rfl) (okb rfl), HF4.out.cell 0 2 (okb rfl) (okb rfl), (HT.out.below HF4.out.bel (Nat.le_refl _)).p⟩
  clear hK K
  try simp only [Act.put, List.setIfInBounds_toArray, List.set_cons_zero, List.set_cons_succ]
  refine wpAnyK_take0 16 (v := ?v95) rfl (by kernel_rfl) (fun _ _ _ h => h) (Or.inl ⟨by rfl, ?hy95⟩) (fun _ => hHeld) ?_
  case hy95 => (intro w hSw; go_simp; try with_reducible rfl)
  try simp only [Act.put, List.setIfInBounds_toArray, List.set_cons_zero, List.set_cons_succ]
  refine wpAnyK_take0 17 (v := ?v96) rfl (by kernel_rfl) (fun _ _ _ h => h) (Or.inl ⟨by rfl, ?hy96⟩) (fun _ => hHeld) ?_
  case hy96 => (intro w hSw; go_simp; try with_reducible rfl)
  try simp only [Act.put, List.setIfInBounds_toArray, List.set_cons_zero, List.set_cons_succ]
  refine wpAnyK_done (by kernel_rfl) ?_ _
  go_wp2
  go_ret
  exact ⟨rfl, HF4.out.bel⟩
set_option maxHeartbeats 8000000 in
theorem on_ll (x y : Value) (X Y : Nat) (w : World) (T : Te w) (hx : Nu w x X) (hy : Nu w y Y) (hX : X < eP) (hY : Y < eP) : Calls Tryz.prog 52 #[.agg #[x, y, .bool false]] w fun e w' => e = .returned (.bool (decide (fS eP (fM eP Y Y) (fM eP X X) = fA eP 1 (fM eP eD (fM eP (fM eP X X) (fM eP Y Y)))))) ∧ Below w.heap.size w w' := by
  obtain ⟨x0, x1, x2, rfl⟩ := hx.shape
  obtain ⟨y0, y1, y2, rfl⟩ := hy.shape
  have HF0 : Hid (Fm w (w.alloc (.cells #[.slice x0 x1 x2, .slice y0 y1 y2, .bool false] 31)) [(31, [.slice x0 x1 x2, .slice y0 y1 y2, .bool false])] [(.slice x0 x1 x2, X, 256), (.slice y0 y1 y2, Y, 256)] []) := ((Fm.nil (w := w) (A := [(.slice x0 x1 x2, X, 256), (.slice y0 y1 y2, Y, 256)]) (ar_cons ⟨hx, lt_pw hX⟩ (ar_cons ⟨hy, lt_pw hY⟩ ar_nil))).push (by simp) 31 [.slice x0 x1 x2, .slice y0 y1 y2, .bool false])
  have HT : Hid (Te w) := T
  have HX : Hid (X < eP) := hX
  have HY : Hid (Y < eP) := hY
  clear hx hy T hX hY
  go_enter Tryz.func52, Tryz.ntmps52
  go_wp2_with fail
  generalize (w.alloc (.cells #[.slice x0 x1 x2, .slice y0 y1 y2, .bool false] 31)) = w0 at *
  have HF0d : Hid (Fm w w0.drew [(31, [.slice x0 x1 x2, .slice y0 y1 y2, .bool false])] [(.slice x0 x1 x2, X, 256), (.slice y0 y1 y2, Y, 256)] []) := HF0.out.drew
  refine wp_region_K 15 (fun (w' : World) => w'.cell? ⟨w.heap.size, 0, none⟩ = some (.slice x0 x1 x2) ∧ w'.cell? ⟨w.heap.size, 1, none⟩ = some (.slice y0 y1 y2) ∧ w'.cell? ⟨w.heap.size, 2, none⟩ = some (.bool false) ∧ T8 w' 4 lP) (by kernel_rfl) ?_
  have hHeld : ((fun (w' : World) => w'.cell? ⟨w.heap.size, 0, none⟩ = some (.slice x0 x1 x2) ∧ w'.cell? ⟨w.heap.size, 1, none⟩ = some (.slice y0 y1 y2) ∧ w'.cell? ⟨w.heap.size, 2, none⟩ = some (.bool false) ∧ T8 w' 4 lP)) (World.drew _) := ⟨HF0d.out.cell 0 0 (okb rfl) (okb rfl), HF0d.out.cell 0 1 (okb rfl) (okb rfl), HF0d.out.cell 0 2 (okb rfl) (okb rfl), (HT.out.below HF0d.out.bel (Nat.le_refl _)).p⟩
  refine wpAnyK_take0 0 (v := ?v99) rfl (by kernel_rfl) (fun _ _ _ h => h) (Or.inl ⟨by rfl, ?hy99⟩) (fun _ => hHeld) ?_
  case hy99 => (intro w hSw; go_simp; try with_reducible rfl)
  try simp only [Act.put, List.setIfInBounds_toArray, List.set_cons_zero, List.set_cons_succ]
  refine wpAnyK_take 1 [2, 9, 10, 15] (v := ?v100) rfl (by kernel_rfl) (fun _ _ _ h => h) (Or.inl ⟨by rfl, ?hy100⟩) hHeld ?_
  case hy100 => (intro w hSw; (try dsimp only at hSw); go_simp; try with_reducible rfl)
  try simp only [Act.put, List.setIfInBounds_toArray, List.set_cons_zero, List.set_cons_succ]
  refine wpAnyK_take0 2 (v := ?v101) rfl (by kernel_rfl) (fun _ _ _ h => h) (Or.inl ⟨by rfl, ?hy101⟩) (fun _ => hHeld) ?_
  case hy101 => (intro w hSw; go_simp; try with_reducible rfl)
  try simp only [Act.put, List.setIfInBounds_toArray, List.set_cons_zero, List.set_cons_succ]
  refine wpAnyK_take0 3 (v := ?v102) rfl (by kernel_rfl) (fun _ _ _ h => h) (Or.inl ⟨by rfl, ?hy102⟩) (fun _ => hHeld) ?_
  case hy102 => (intro w hSw; go_simp; try with_reducible rfl)
  try simp only [Act.put, List.setIfInBounds_toArray, List.set_cons_zero, List.set_cons_succ]
  refine wpAnyK_take 4 [7, 8, 9, 10, 15] (v := ?v103) rfl (by kernel_rfl) (fun _ _ _ h => h) (Or.inl ⟨by rfl, ?hy103⟩) hHeld ?_
  case hy103 => (intro w hSw; (try dsimp only at hSw); go_simp; try with_reducible rfl)
  try simp only [Act.put, List.setIfInBounds_toArray, List.set_cons_zero, List.set_cons_succ]
  refine wpAnyK_take 5 [6, 7, 8, 9, 10, 15] (v := ?vt97) rfl (by kernel_rfl) (fun _ _ _ h => h) (Or.inl ⟨by rfl, ?ht97⟩) hHeld ?_
  case ht97 => (intro w hSw; (try dsimp only at hSw); obtain ⟨q0, q1, q2, q3, q4, q5, q6, q7⟩ := tb8P hSw.2.2.2; go_simp; try with_reducible rfl)
  try simp only [Act.put, List.setIfInBounds_toArray, List.set_cons_zero, List.set_cons_succ]
  refine wpAnyK_step 6 rfl (by kernel_rfl) (fun K hK => ?_)
  go_simp
  refine (numP _).mono ?_
  rintro e w1 ⟨r1, rfl, h⟩
  have HF1 : Hid (Fm w w1 [(31, [.slice x0 x1 x2, .slice y0 y1 y2, .bool false])] [(.slice x0 x1 x2, X, 256), (.slice y0 y1 y2, Y, 256)] [(r1, eP, 256)]) := HF0d.out.step h
  clear h
  try dsimp only
  refine hK.out _ _ ?hk105 ?_
  case hk105 => exact fun _ => ⟨HF1.out.cell 0 0 (okb rfl) (okb rfl), HF1.out.cell 0 1 (okb rfl) (okb rfl), HF1.out.cell 0 2 (okb rfl) (okb rfl), (HT.out.below HF1.out.bel (Nat.le_refl _)).p⟩
  have hHeld : ((fun (w' : World) => w'.cell? ⟨w.heap.size, 0, none⟩ = some (.slice x0 x1 x2) ∧ w'.cell? ⟨w.heap.size, 1, none⟩ = some (.slice y0 y1 y2) ∧ w'.cell? ⟨w.heap.size, 2, none⟩ = some (.bool false) ∧ T8 w' 4 lP)) _ := ⟨HF1.out.cell 0 0 (okb rfl) (okb rfl), HF1.out.cell 0 1 (okb rfl) (okb rfl), HF1.out.cell 0 2 (okb rfl) (okb rfl), (HT.out.below HF1.out.bel (Nat.le_refl _)).p⟩
  clear hK K
  try simp only [Act.put, List.setIfInBounds_toArray, List.set_cons_zero, List.set_cons_succ]
  refine wpAnyK_step 7 rfl (by kernel_rfl) (fun K hK => ?_)
  go_simp
  refine (vcmp _ _ X eP _ _ _ (HF1.out.arg 0 (okb rfl)).1 (HF1.out.got 0 (okb rfl)).1 (by decide) (by decide)).mono ?_
  rintro e w2 ⟨rfl, q, hq⟩
  have HF2 : Hid (Fm w w2 [(31, [.slice x0 x1 x2, .slice y0 y1 y2, .bool false])] [(.slice x0 x1 x2, X, 256), (.slice y0 y1 y2, Y, 256)] [(r1, eP, 256)]) := (by rw [hq]; exact HF1.out.drewN q : Fm w w2 [(31, [.slice x0 x1 x2, .slice y0 y1 y2, .bool false])] [(.slice x0 x1 x2, X, 256), (.slice y0 y1 y2, Y, 256)] [(r1, eP, 256)])
  clear hq
  rw [cmp3_lt (show ((X : Nat) : Int) < ((eP : Nat) : Int) from Int.ofNat_lt.2 HX.out)]
  try dsimp only
  refine hK.out _ _ ?hk106 ?_
  case hk106 => exact fun _ => ⟨HF2.out.cell 0 0 (okb rfl) (okb rfl), HF2.out.cell 0 1 (okb rfl) (okb rfl), HF2.out.cell 0 2 (okb rfl) (okb rfl), (HT.out.below HF2.out.bel (Nat.le_refl _)).p⟩
  have hHeld : ((fun (w' : World) => w'.cell? ⟨w.heap.size, 0, none⟩ = some (.slice x0 x1 x2) ∧ w'.cell? ⟨w.heap.size, 1, none⟩ = some (.slice y0 y1 y2) ∧ w'.cell? ⟨w.heap.size, 2, none⟩ = some (.bool false) ∧ T8 w' 4 lP)) _ := ⟨HF2.out.cell 0 0 (okb rfl) (okb rfl), HF2.out.cell 0 1 (okb rfl) (okb rfl), HF2.out.cell 0 2 (okb rfl) (okb rfl), (HT.out.below HF2.out.bel (Nat.le_refl _)).p⟩
  clear hK K
  try simp only [Act.put, List.setIfInBounds_toArray, List.set_cons_zero, List.set_cons_succ]
  refine wpAnyK_take0 8 (v := ?v107) rfl (by kernel_rfl) (fun _ _ _ h => h) (Or.inl ⟨by rfl, ?hy107⟩) (fun _ => hHeld) ?_
  case hy107 => (intro w hSw; go_simp; try with_reducible rfl)
  try simp only [Act.put, List.setIfInBounds_toArray, List.set_cons_zero, List.set_cons_succ]
  refine wpAnyK_take0 9 (v := ?v108) rfl (by kernel_rfl) (fun _ _ _ h => h) (Or.inl ⟨by rfl, ?hy108⟩) (fun _ => hHeld) ?_
  case hy108 => (intro w hSw; go_simp; try with_reducible rfl)
  try simp only [Act.put, List.setIfInBounds_toArray, List.set_cons_zero, List.set_cons_succ]
  refine wpAnyK_take0 10 (v := ?v109) rfl (by kernel_rfl) (fun _ _ _ h => h) (Or.inl ⟨by rfl, ?hy109⟩) (fun _ => hHeld) ?_
  case hy109 => (intro w hSw; go_simp; try with_reducible rfl)
  try simp only [Act.put, List.setIfInBounds_toArray, List.set_cons_zero, List.set_cons_succ]
  refine wpAnyK_take0 11 (v := ?v110) rfl (by kernel_rfl) (fun _ _ _ h => h) (Or.inl ⟨by rfl, ?hy110⟩) (fun _ => hHeld) ?_
  case hy110 => (intro w hSw; go_simp; try with_reducible rfl)
  try simp only [Act.put, List.setIfInBounds_toArray, List.set_cons_zero, List.set_cons_succ]
  refine wpAnyK_take 12 [15] (v := ?v111) rfl (by kernel_rfl) (fun _ _ _ h => h) (Or.inl ⟨by rfl, ?hy111⟩) hHeld ?_
  case hy111 => (intro w hSw; (try dsimp only at hSw); go_simp; try with_reducible rfl)
  try simp only [Act.put, List.setIfInBounds_toArray, List.set_cons_zero, List.set_cons_succ]
  refine wpAnyK_take 13 [14, 15] (v := ?vt98) rfl (by kernel_rfl) (fun _ _ _ h => h) (Or.inl ⟨by rfl, ?ht98⟩) hHeld ?_
  case ht98 => (intro w hSw; (try dsimp only at hSw); obtain ⟨q0, q1, q2, q3, q4, q5, q6, q7⟩ := tb8P hSw.2.2.2; go_simp; try with_reducible rfl)
  try simp only [Act.put, List.setIfInBounds_toArray, List.set_cons_zero, List.set_cons_succ]
  refine wpAnyK_step 14 rfl (by kernel_rfl) (fun K hK => ?_)
  go_simp
  refine (numP _).mono ?_
  rintro e w3 ⟨r3, rfl, h⟩
  have HF3 : Hid (Fm w w3 [(31, [.slice x0 x1 x2, .slice y0 y1 y2, .bool false])] [(.slice x0 x1 x2, X, 256), (.slice y0 y1 y2, Y, 256)] [(r3, eP, 256), (r1, eP, 256)]) := HF2.out.step h
  clear h
  try dsimp only
  refine hK.out _ _ ?hk113 ?_
  case hk113 => exact fun _ => ⟨HF3.out.cell 0 0 (okb rfl) (okb rfl), HF3.out.cell 0 1 (okb rfl) (okb rfl), HF3.out.cell 0 2 (okb rfl) (okb rfl), (HT.out.below HF3.out.bel (Nat.le_refl _)).p⟩
  have hHeld : ((fun (w' : World) => w'.cell? ⟨w.heap.size, 0, none⟩ = some (.slice x0 x1 x2) ∧ w'.cell? ⟨w.heap.size, 1, none⟩ = some (.slice y0 y1 y2) ∧ w'.cell? ⟨w.heap.size, 2, none⟩ = some (.bool false) ∧ T8 w' 4 lP)) _ := ⟨HF3.out.cell 0 0 (okb rfl) (okb rfl), HF3.out.cell 0 1 (okb rfl) (okb rfl), HF3.out.cell 0 2 (okb rfl) (okb rfl), (HT.out.below HF3.out.bel (Nat.le_refl _)).p⟩
  clear hK K
  try simp only [Act.put, List.setIfInBounds_toArray, List.set_cons_zero, List.set_cons_succ]
  refine wpAnyK_step 15 rfl (by kernel_rfl) (fun K hK => ?_)
  go_simp
  refine (vcmp _ _ Y eP _ _ _ (HF3.out.arg 1 (okb rfl)).1 (HF3.out.got 0 (okb rfl)).1 (by decide) (by decide)).mono ?_
  rintro e w4 ⟨rfl, q, hq⟩
  have HF4 : Hid (Fm w w4 [(31, [.slice x0 x1 x2, .slice y0 y1 y2, .bool false])] [(.slice x0 x1 x2, X, 256), (.slice y0 y1 y2, Y, 256)] [(r3, eP, 256), (r1, eP, 256)]) := (by rw [hq]; exact HF3.out.drewN q : Fm w w4 [(31, [.slice x0 x1 x2, .slice y0 y1 y2, .bool false])] [(.slice x0 x1 x2, X, 256), (.slice y0 y1 y2, Y, 256)] [(r3, eP, 256), (r1, eP, 256)])
  clear hq
  rw [cmp3_lt (show ((Y : Nat) : Int) < ((eP : Nat) : Int) from Int.ofNat_lt.2 HY.out)]
  try dsimp only
  refine hK.out _ _ ?hk114 ?_
  case hk114 => exact fun _ => ⟨HF4.out.cell 0 0 (okb rfl) (okb rfl), HF4.out.cell 0 1 (okb rfl) (okb rfl), HF4.out.cell 0 2 (okb rfl) (okb rfl), (HT.out.below HF4.out.bel (Nat.le_refl _)).p⟩
  have hHeld : ((fun (w' : World) => w'.cell? ⟨w.heap.size, 0, none⟩ = some (.slice x0 x1 x2) ∧ w'.cell? ⟨w.heap.size, 1, none⟩ = some (.slice y0 y1 y2) ∧ w'.cell? ⟨w.heap.size, 2, none⟩ = some (.bool false) ∧ T8 w' 4 lP)) _ := ⟨HF4.out.cell 0 0 (okb rfl) (okb rfl), HF4.out.cell 0 1 (okb rfl) (okb rfl), HF4.out.cell 0 2 (okb rfl) (okb rfl), (HT.out.below HF4.out.bel (Nat.le_refl _)).p⟩
  clear hK K
  try simp only [Act.put, List.setIfInBounds_toArray, List.set_cons_zero, List.set_cons_succ]
  refine wpAnyK_take0 16 (v := ?v115) rfl (by kernel_rfl) (fun _ _ _ h => h) (Or.inl ⟨by rfl, ?hy115⟩) (fun _ => hHeld) ?_
  case hy115 => (intro w hSw; go_simp; try with_reducible rfl)
  try simp only [Act.put, List.setIfInBounds_toArray, List.set_cons_zero, List.set_cons_succ]
  refine wpAnyK_take0 17 (v := ?v116) rfl (by kernel_rfl) (fun _ _ _ h => h) (Or.inl ⟨by rfl, ?hy116⟩) (fun _ => hHeld) ?_
  case hy116 => (intro w hSw; go_simp; try with_reducible rfl)
  try simp only [Act.put, List.setIfInBounds_toArray, List.set_cons_zero, List.set_cons_succ]
  refine wpAnyK_done (by kernel_rfl) ?_ _
  go_wp2_with fail
  have HF4d : Hid (Fm w w4.drew [(31, [.slice x0 x1 x2, .slice y0 y1 y2, .bool false])] [(.slice x0 x1 x2, X, 256), (.slice y0 y1 y2, Y, 256)] [(r3, eP, 256), (r1, eP, 256)]) := HF4.out.drew
  refine wp_region_K 9 (fun (w' : World) => w'.cell? ⟨w.heap.size, 0, none⟩ = some (.slice x0 x1 x2) ∧ w'.cell? ⟨w.heap.size, 1, none⟩ = some (.slice y0 y1 y2) ∧ w'.cell? ⟨w.heap.size, 2, none⟩ = some (.bool false)) (by kernel_rfl) ?_
  have hHeld : ((fun (w' : World) => w'.cell? ⟨w.heap.size, 0, none⟩ = some (.slice x0 x1 x2) ∧ w'.cell? ⟨w.heap.size, 1, none⟩ = some (.slice y0 y1 y2) ∧ w'.cell? ⟨w.heap.size, 2, none⟩ = some (.bool false))) (World.drew _) := ⟨HF4d.out.cell 0 0 (okb rfl) (okb rfl), HF4d.out.cell 0 1 (okb rfl) (okb rfl), HF4d.out.cell 0 2 (okb rfl) (okb rfl)⟩
  refine wpAnyK_take0 0 (v := ?v117) rfl (by kernel_rfl) (fun _ _ _ h => h) (Or.inl ⟨by rfl, ?hy117⟩) (fun _ => hHeld) ?_
  case hy117 => (intro w hSw; go_simp; try with_reducible rfl)
  try simp only [Act.put, List.setIfInBounds_toArray, List.set_cons_zero, List.set_cons_succ]
  refine wpAnyK_take 1 [4, 9] (v := ?v118) rfl (by kernel_rfl) (fun _ _ _ h => h) (Or.inl ⟨by rfl, ?hy118⟩) hHeld ?_
  case hy118 => (intro w hSw; (try dsimp only at hSw); go_simp; try with_reducible rfl)
  try simp only [Act.put, List.setIfInBounds_toArray, List.set_cons_zero, List.set_cons_succ]
  refine wpAnyK_take0 2 (v := ?v119) rfl (by kernel_rfl) (fun _ _ _ h => h) (Or.inl ⟨by rfl, ?hy119⟩) (fun _ => hHeld) ?_
  case hy119 => (intro w hSw; go_simp; try with_reducible rfl)
  try simp only [Act.put, List.setIfInBounds_toArray, List.set_cons_zero, List.set_cons_succ]
  refine wpAnyK_take 3 [4, 9] (v := ?v120) rfl (by kernel_rfl) (fun _ _ _ h => h) (Or.inl ⟨by rfl, ?hy120⟩) hHeld ?_
  case hy120 => (intro w hSw; (try dsimp only at hSw); go_simp; try with_reducible rfl)
  try simp only [Act.put, List.setIfInBounds_toArray, List.set_cons_zero, List.set_cons_succ]
  refine wpAnyK_take0 5 (v := ?v121) rfl (by kernel_rfl) (fun _ _ _ h => h) (Or.inl ⟨by rfl, ?hy121⟩) (fun _ => hHeld) ?_
  case hy121 => (intro w hSw; go_simp; try with_reducible rfl)
  try simp only [Act.put, List.setIfInBounds_toArray, List.set_cons_zero, List.set_cons_succ]
  refine wpAnyK_take 6 [9] (v := ?v122) rfl (by kernel_rfl) (fun _ _ _ h => h) (Or.inl ⟨by rfl, ?hy122⟩) hHeld ?_
  case hy122 => (intro w hSw; (try dsimp only at hSw); go_simp; try with_reducible rfl)
  try simp only [Act.put, List.setIfInBounds_toArray, List.set_cons_zero, List.set_cons_succ]
  refine wpAnyK_take0 7 (v := ?v123) rfl (by kernel_rfl) (fun _ _ _ h => h) (Or.inl ⟨by rfl, ?hy123⟩) (fun _ => hHeld) ?_
  case hy123 => (intro w hSw; go_simp; try with_reducible rfl)
  try simp only [Act.put, List.setIfInBounds_toArray, List.set_cons_zero, List.set_cons_succ]
  refine wpAnyK_take 8 [9] (v := ?v124) rfl (by kernel_rfl) (fun _ _ _ h => h) (Or.inl ⟨by rfl, ?hy124⟩) hHeld ?_
  case hy124 => (intro w hSw; (try dsimp only at hSw); go_simp; try with_reducible rfl)
  try simp only [Act.put, List.setIfInBounds_toArray, List.set_cons_zero, List.set_cons_succ]
  refine wpAnyK_step 4 rfl (by kernel_rfl) (fun K hK => ?_)
  go_simp
  refine (emul_v _ _ X X 256 256 _ (HT.out.below HF4d.out.bel (Nat.le_refl _)) (HF4d.out.arg 0 (okb rfl)) (HF4d.out.arg 0 (okb rfl)) (by decide) (by decide)).mono ?_
  rintro e w5 ⟨r5, rfl, h⟩
  obtain ⟨V5, HV5⟩ : ∃ V, Hid (V = fM eP X X) := ⟨_, rfl⟩
  rw [← HV5.out] at h
  have HF5 : Hid (Fm w w5 [(31, [.slice x0 x1 x2, .slice y0 y1 y2, .bool false])] [(.slice x0 x1 x2, X, 256), (.slice y0 y1 y2, Y, 256)] [(r5, V5, 256), (r3, eP, 256), (r1, eP, 256)]) := HF4d.out.step h
  clear h
  try dsimp only
  refine hK.out _ _ ?hk125 ?_
  case hk125 => exact fun _ => ⟨HF5.out.cell 0 0 (okb rfl) (okb rfl), HF5.out.cell 0 1 (okb rfl) (okb rfl), HF5.out.cell 0 2 (okb rfl) (okb rfl)⟩
  have hHeld : ((fun (w' : World) => w'.cell? ⟨w.heap.size, 0, none⟩ = some (.slice x0 x1 x2) ∧ w'.cell? ⟨w.heap.size, 1, none⟩ = some (.slice y0 y1 y2) ∧ w'.cell? ⟨w.heap.size, 2, none⟩ = some (.bool false))) _ := ⟨HF5.out.cell 0 0 (okb rfl) (okb rfl), HF5.out.cell 0 1 (okb rfl) (okb rfl), HF5.out.cell 0 2 (okb rfl) (okb rfl)⟩
  clear hK K
  try simp only [Act.put, List.setIfInBounds_toArray, List.set_cons_zero, List.set_cons_succ]
  refine wpAnyK_step 9 rfl (by kernel_rfl) (fun K hK => ?_)
  go_simp
  refine (emul_v _ _ Y Y 256 256 _ (HT.out.below HF5.out.bel (Nat.le_refl _)) (HF5.out.arg 1 (okb rfl)) (HF5.out.arg 1 (okb rfl)) (by decide) (by decide)).mono ?_
  rintro e w6 ⟨r6, rfl, h⟩
  obtain ⟨V6, HV6⟩ : ∃ V, Hid (V = fM eP Y Y) := ⟨_, rfl⟩
  rw [← HV6.out] at h
  have HF6 : Hid (Fm w w6 [(31, [.slice x0 x1 x2, .slice y0 y1 y2, .bool false])] [(.slice x0 x1 x2, X, 256), (.slice y0 y1 y2, Y, 256)] [(r6, V6, 256), (r5, V5, 256), (r3, eP, 256), (r1, eP, 256)]) := HF5.out.step h
  clear h
  try dsimp only
  refine hK.out _ _ ?hk126 ?_
  case hk126 => exact fun _ => ⟨HF6.out.cell 0 0 (okb rfl) (okb rfl), HF6.out.cell 0 1 (okb rfl) (okb rfl), HF6.out.cell 0 2 (okb rfl) (okb rfl)⟩
  have hHeld : ((fun (w' : World) => w'.cell? ⟨w.heap.size, 0, none⟩ = some (.slice x0 x1 x2) ∧ w'.cell? ⟨w.heap.size, 1, none⟩ = some (.slice y0 y1 y2) ∧ w'.cell? ⟨w.heap.size, 2, none⟩ = some (.bool false))) _ := ⟨HF6.out.cell 0 0 (okb rfl) (okb rfl), HF6.out.cell 0 1 (okb rfl) (okb rfl), HF6.out.cell 0 2 (okb rfl) (okb rfl)⟩
  clear hK K
  try simp only [Act.put, List.setIfInBounds_toArray, List.set_cons_zero, List.set_cons_succ]
  refine wpAnyK_take0 10 (v := ?v127) rfl (by kernel_rfl) (fun _ _ _ h => h) (Or.inl ⟨by rfl, ?hy127⟩) (fun _ => hHeld) ?_
  case hy127 => (intro w hSw; go_simp; try with_reducible rfl)
  try simp only [Act.put, List.setIfInBounds_toArray, List.set_cons_zero, List.set_cons_succ]
  refine wpAnyK_take0 11 (v := ?v128) rfl (by kernel_rfl) (fun _ _ _ h => h) (Or.inl ⟨by rfl, ?hy128⟩) (fun _ => hHeld) ?_
  case hy128 => (intro w hSw; go_simp; try with_reducible rfl)
  try simp only [Act.put, List.setIfInBounds_toArray, List.set_cons_zero, List.set_cons_succ]
  refine wpAnyK_done (by kernel_rfl) ?_ _
  go_wp2_with fail
  have HF6d : Hid (Fm w w6.drew [(31, [.slice x0 x1 x2, .slice y0 y1 y2, .bool false])] [(.slice x0 x1 x2, X, 256), (.slice y0 y1 y2, Y, 256)] [(r6, V6, 256), (r5, V5, 256), (r3, eP, 256), (r1, eP, 256)]) := HF6.out.drew
  refine wp_region_K 11 (fun (w' : World) => T8 w' 3 lD) (by kernel_rfl) ?_
  have hHeld : ((fun (w' : World) => T8 w' 3 lD)) (World.drew _) := (HT.out.below HF6d.out.bel (Nat.le_refl _)).d
  refine wpAnyK_take0 0 (v := ?v130) rfl (by kernel_rfl) (fun _ _ _ h => h) (Or.inl ⟨by rfl, ?hy130⟩) (fun _ => hHeld) ?_
  case hy130 => (intro w hSw; go_simp; try with_reducible rfl)
  try simp only [Act.put, List.setIfInBounds_toArray, List.set_cons_zero, List.set_cons_succ]
  refine wpAnyK_take0 1 (v := ?v131) rfl (by kernel_rfl) (fun _ _ _ h => h) (Or.inl ⟨by rfl, ?hy131⟩) (fun _ => hHeld) ?_
  case hy131 => (intro w hSw; go_simp; try with_reducible rfl)
  try simp only [Act.put, List.setIfInBounds_toArray, List.set_cons_zero, List.set_cons_succ]
  refine wpAnyK_take 4 [5, 9, 10, 11] (v := ?vt129) rfl (by kernel_rfl) (fun _ _ _ h => h) (Or.inl ⟨by rfl, ?ht129⟩) hHeld ?_
  case ht129 => (intro w hSw; (try dsimp only at hSw); obtain ⟨q0, q1, q2, q3, q4, q5, q6, q7⟩ := tb8D hSw; go_simp; try with_reducible rfl)
  try simp only [Act.put, List.setIfInBounds_toArray, List.set_cons_zero, List.set_cons_succ]
  refine wpAnyK_take0 6 (v := ?v133) rfl (by kernel_rfl) (fun _ _ _ h => h) (Or.inl ⟨by rfl, ?hy133⟩) (fun _ => hHeld) ?_
  case hy133 => (intro w hSw; go_simp; try with_reducible rfl)
  try simp only [Act.put, List.setIfInBounds_toArray, List.set_cons_zero, List.set_cons_succ]
  refine wpAnyK_take0 7 (v := ?v134) rfl (by kernel_rfl) (fun _ _ _ h => h) (Or.inl ⟨by rfl, ?hy134⟩) (fun _ => hHeld) ?_
  case hy134 => (intro w hSw; go_simp; try with_reducible rfl)
  try simp only [Act.put, List.setIfInBounds_toArray, List.set_cons_zero, List.set_cons_succ]
  refine wpAnyK_step 2 rfl (by kernel_rfl) (fun K hK => ?_)
  go_simp
  refine (esub_v _ _ V6 V5 256 256 _ (HT.out.below HF6d.out.bel (Nat.le_refl _)) (HF6d.out.got 0 (okb rfl)) (HF6d.out.got 1 (okb rfl)) (by decide) (by decide)).mono ?_
  rintro e w7 ⟨r7, rfl, h⟩
  obtain ⟨V7, HV7⟩ : ∃ V, Hid (V = fS eP V6 V5) := ⟨_, rfl⟩
  rw [← HV7.out] at h
  have HF7 : Hid (Fm w w7 [(31, [.slice x0 x1 x2, .slice y0 y1 y2, .bool false])] [(.slice x0 x1 x2, X, 256), (.slice y0 y1 y2, Y, 256)] [(r7, V7, 256), (r6, V6, 256), (r5, V5, 256), (r3, eP, 256), (r1, eP, 256)]) := HF6d.out.step h
  clear h
  try dsimp only
  refine hK.out _ _ ?hk135 ?_
  case hk135 => exact fun _ => (HT.out.below HF7.out.bel (Nat.le_refl _)).d
  have hHeld : ((fun (w' : World) => T8 w' 3 lD)) _ := (HT.out.below HF7.out.bel (Nat.le_refl _)).d
  clear hK K
  try simp only [Act.put, List.setIfInBounds_toArray, List.set_cons_zero, List.set_cons_succ]
  refine wpAnyK_step 3 rfl (by kernel_rfl) (fun K hK => ?_)
  go_simp
  refine (eone_v _).mono ?_
  rintro e w8 ⟨r8, rfl, h⟩
  have HF8 : Hid (Fm w w8 [(31, [.slice x0 x1 x2, .slice y0 y1 y2, .bool false])] [(.slice x0 x1 x2, X, 256), (.slice y0 y1 y2, Y, 256)] [(r8, 1, 1), (r7, V7, 256), (r6, V6, 256), (r5, V5, 256), (r3, eP, 256), (r1, eP, 256)]) := HF7.out.step h
  clear h
  try dsimp only
  refine hK.out _ _ ?hk136 ?_
  case hk136 => exact fun _ => (HT.out.below HF8.out.bel (Nat.le_refl _)).d
  have hHeld : ((fun (w' : World) => T8 w' 3 lD)) _ := (HT.out.below HF8.out.bel (Nat.le_refl _)).d
  clear hK K
  try simp only [Act.put, List.setIfInBounds_toArray, List.set_cons_zero, List.set_cons_succ]
  refine wpAnyK_step 5 rfl (by kernel_rfl) (fun K hK => ?_)
  go_simp
  refine (numD _).mono ?_
  rintro e w9 ⟨r9, rfl, h⟩
  have HF9 : Hid (Fm w w9 [(31, [.slice x0 x1 x2, .slice y0 y1 y2, .bool false])] [(.slice x0 x1 x2, X, 256), (.slice y0 y1 y2, Y, 256)] [(r9, eD, 256), (r8, 1, 1), (r7, V7, 256), (r6, V6, 256), (r5, V5, 256), (r3, eP, 256), (r1, eP, 256)]) := HF8.out.step h
  clear h
  try dsimp only
  refine hK.out _ _ ?hk137 ?_
  case hk137 => exact fun _ => (HT.out.below HF9.out.bel (Nat.le_refl _)).d
  have hHeld : ((fun (w' : World) => T8 w' 3 lD)) _ := (HT.out.below HF9.out.bel (Nat.le_refl _)).d
  clear hK K
  try simp only [Act.put, List.setIfInBounds_toArray, List.set_cons_zero, List.set_cons_succ]
  refine wpAnyK_step 8 rfl (by kernel_rfl) (fun K hK => ?_)
  go_simp
  refine (emul_v _ _ V5 V6 256 256 _ (HT.out.below HF9.out.bel (Nat.le_refl _)) (HF9.out.got 4 (okb rfl)) (HF9.out.got 3 (okb rfl)) (by decide) (by decide)).mono ?_
  rintro e w10 ⟨r10, rfl, h⟩
  obtain ⟨V10, HV10⟩ : ∃ V, Hid (V = fM eP V5 V6) := ⟨_, rfl⟩
  rw [← HV10.out] at h
  have HF10 : Hid (Fm w w10 [(31, [.slice x0 x1 x2, .slice y0 y1 y2, .bool false])] [(.slice x0 x1 x2, X, 256), (.slice y0 y1 y2, Y, 256)] [(r10, V10, 256), (r9, eD, 256), (r8, 1, 1), (r7, V7, 256), (r6, V6, 256), (r5, V5, 256), (r3, eP, 256), (r1, eP, 256)]) := HF9.out.step h
  clear h
  try dsimp only
  refine hK.out _ _ ?hk138 ?_
  case hk138 => exact fun _ => (HT.out.below HF10.out.bel (Nat.le_refl _)).d
  have hHeld : ((fun (w' : World) => T8 w' 3 lD)) _ := (HT.out.below HF10.out.bel (Nat.le_refl _)).d
  clear hK K
  try simp only [Act.put, List.setIfInBounds_toArray, List.set_cons_zero, List.set_cons_succ]
  refine wpAnyK_step 9 rfl (by kernel_rfl) (fun K hK => ?_)
  go_simp
  refine (emul_v _ _ eD V10 256 256 _ (HT.out.below HF10.out.bel (Nat.le_refl _)) (HF10.out.got 1 (okb rfl)) (HF10.out.got 0 (okb rfl)) (by decide) (by decide)).mono ?_
  rintro e w11 ⟨r11, rfl, h⟩
  obtain ⟨V11, HV11⟩ : ∃ V, Hid (V = fM eP eD V10) := ⟨_, rfl⟩
  rw [← HV11.out] at h
  have HF11 : Hid (Fm w w11 [(31, [.slice x0 x1 x2, .slice y0 y1 y2, .bool false])] [(.slice x0 x1 x2, X, 256), (.slice y0 y1 y2, Y, 256)] [(r11, V11, 256), (r10, V10, 256), (r9, eD, 256), (r8, 1, 1), (r7, V7, 256), (r6, V6, 256), (r5, V5, 256), (r3, eP, 256), (r1, eP, 256)]) := HF10.out.step h
  clear h
  try dsimp only
  refine hK.out _ _ ?hk139 ?_
  case hk139 => exact fun _ => (HT.out.below HF11.out.bel (Nat.le_refl _)).d
  have hHeld : ((fun (w' : World) => T8 w' 3 lD)) _ := (HT.out.below HF11.out.bel (Nat.le_refl _)).d
  clear hK K
  try simp only [Act.put, List.setIfInBounds_toArray, List.set_cons_zero, List.set_cons_succ]
  refine wpAnyK_step 10 rfl (by kernel_rfl) (fun K hK => ?_)
  go_simp
  refine (eadd_v _ _ 1 V11 1 256 _ (HT.out.below HF11.out.bel (Nat.le_refl _)) (HF11.out.got 3 (okb rfl)) (HF11.out.got 0 (okb rfl)) (by decide) (by decide)).mono ?_
  rintro e w12 ⟨r12, rfl, h⟩
  obtain ⟨V12, HV12⟩ : ∃ V, Hid (V = fA eP 1 V11) := ⟨_, rfl⟩
  rw [← HV12.out] at h
  have HF12 : Hid (Fm w w12 [(31, [.slice x0 x1 x2, .slice y0 y1 y2, .bool false])] [(.slice x0 x1 x2, X, 256), (.slice y0 y1 y2, Y, 256)] [(r12, V12, 256), (r11, V11, 256), (r10, V10, 256), (r9, eD, 256), (r8, 1, 1), (r7, V7, 256), (r6, V6, 256), (r5, V5, 256), (r3, eP, 256), (r1, eP, 256)]) := HF11.out.step h
  clear h
  try dsimp only
  refine hK.out _ _ ?hk140 ?_
  case hk140 => exact fun _ => (HT.out.below HF12.out.bel (Nat.le_refl _)).d
  have hHeld : ((fun (w' : World) => T8 w' 3 lD)) _ := (HT.out.below HF12.out.bel (Nat.le_refl _)).d
  clear hK K
  try simp only [Act.put, List.setIfInBounds_toArray, List.set_cons_zero, List.set_cons_succ]
  refine wpAnyK_step 11 rfl (by kernel_rfl) (fun K hK => ?_)
  go_simp
  refine (vcmp _ _ V7 V12 _ _ _ (HF12.out.got 5 (okb rfl)).1 (HF12.out.got 0 (okb rfl)).1 (by decide) (by decide)).mono ?_
  rintro e w13 ⟨rfl, q, hq⟩
  have HF13 : Hid (Fm w w13 [(31, [.slice x0 x1 x2, .slice y0 y1 y2, .bool false])] [(.slice x0 x1 x2, X, 256), (.slice y0 y1 y2, Y, 256)] [(r12, V12, 256), (r11, V11, 256), (r10, V10, 256), (r9, eD, 256), (r8, 1, 1), (r7, V7, 256), (r6, V6, 256), (r5, V5, 256), (r3, eP, 256), (r1, eP, 256)]) := (by rw [hq]; exact HF12.out.drewN q : Fm w w13 [(31, [.slice x0 x1 x2, .slice y0 y1 y2, .bool false])] [(.slice x0 x1 x2, X, 256), (.slice y0 y1 y2, Y, 256)] [(r12, V12, 256), (r11, V11, 256), (r10, V10, 256), (r9, eD, 256), (r8, 1, 1), (r7, V7, 256), (r6, V6, 256), (r5, V5, 256), (r3, eP, 256), (r1, eP, 256)])
  clear hq
  obtain ⟨oo, Hoo⟩ : ∃ oo, Hid (oo = cmp3 ((V7 : Nat) : Int) ((V12 : Nat) : Int)) := ⟨_, rfl⟩
  rw [← Hoo.out]
  try dsimp only
  refine hK.out _ _ ?hk141 ?_
  case hk141 => exact fun _ => (HT.out.below HF13.out.bel (Nat.le_refl _)).d
  have hHeld : ((fun (w' : World) => T8 w' 3 lD)) _ := (HT.out.below HF13.out.bel (Nat.le_refl _)).d
  clear hK K
  try simp only [Act.put, List.setIfInBounds_toArray, List.set_cons_zero, List.set_cons_succ]
  refine wpAnyK_take0 12 (v := ?v142) rfl (by kernel_rfl) (fun _ _ _ h => h) (Or.inl ⟨by rfl, ?hy142⟩) (fun _ => hHeld) ?_
  case hy142 => (intro w hSw; go_simp; try with_reducible rfl)
  try simp only [Act.put, List.setIfInBounds_toArray, List.set_cons_zero, List.set_cons_succ]
  refine wpAnyK_take0 13 (v := ?v143) rfl (by kernel_rfl) (fun _ _ _ h => h) (Or.inl ⟨by rfl, ?hy143⟩) (fun _ => hHeld) ?_
  case hy143 => (intro w hSw; go_simp; try with_reducible rfl)
  try simp only [Act.put, List.setIfInBounds_toArray, List.set_cons_zero, List.set_cons_succ]
  refine wpAnyK_done (by kernel_rfl) ?_ _
  go_wp2
  go_ret
  refine ⟨?_, HF13.out.bel⟩
  have hz : (oo == 0) = decide (V7 = V12) := by rw [Hoo.out]; exact cmp3_zero _ _
  show Ending.returned (.bool (oo == 0)) = _
  rw [hz]
  obtain rfl := HV12.out; obtain rfl := HV11.out; obtain rfl := HV10.out; obtain rfl := HV7.out; obtain rfl := HV6.out; obtain rfl := HV5.out
  rfl
theorem on_v (x y : Value) (X Y : Nat) (inf : Bool) (w : World) (T : Te w) (hx : Nu w x X) (hy : Nu w y Y) : Calls Tryz.prog 52 #[.agg #[x, y, .bool inf]] w fun e w' => e = .returned (.bool (onV X Y inf)) ∧ Below w.heap.size w w' := by
  cases inf with
  | true => exact on_inf x y X Y w hx hy
  | false =>
    unfold onV
    rw [Bool.not_false, Bool.true_and]
    rcases Nat.lt_trichotomy X eP with h | h | h
    · rw [decide_eq_true h, Bool.true_and]
      rcases Nat.lt_trichotomy Y eP with g | g | g
      · rw [decide_eq_true g, Bool.true_and]
        exact on_ll x y X Y w T hx hy h g
      · rw [decide_eq_false (by omega), Bool.false_and]
        exact on_le x y X Y w T hx hy h g
      · rw [decide_eq_false (by omega), Bool.false_and]
        exact on_lg x y X Y w T hx hy h g
    · rw [decide_eq_false (by omega), Bool.false_and]
      exact on_e x y X Y w T hx hy h
    · rw [decide_eq_false (by omega), Bool.false_and]
      exact on_g x y X Y w T hx hy h
theorem onV_iff (X Y : Nat) (inf : Bool) : onV X Y inf = true ↔ inf = false ∧ onE eP eD (X, Y) := by
  unfold onV
  rw [Bool.and_eq_true, Bool.and_eq_true, Bool.and_eq_true, decide_eq_true_eq, decide_eq_true_eq, decide_eq_true_eq, Bool.not_eq_true']
  have hp : 0 < eP := by decide +kernel
  have c1 : (eP : Int) ∣ (fS eP (fM eP Y Y) (fM eP X X) : Int) - ((Y : Int) * Y - (X : Int) * X) := cg_fS pmP (cg_fM cg_nat cg_nat) (cg_fM cg_nat cg_nat)
  have c2 : (eP : Int) ∣ (fA eP 1 (fM eP eD (fM eP (fM eP X X) (fM eP Y Y))) : Int) - ((1 : Nat) + (eD : Int) * (((X : Int) * X) * ((Y : Int) * Y))) := cg_fA cg_nat (cg_fM cg_nat (cg_fM (cg_fM cg_nat cg_nat) (cg_fM cg_nat cg_nat)))
  have l1 := fS_lt pmP (fM eP Y Y) (fM eP X X)
  have l2 := fA_lt pmP 1 (fM eP eD (fM eP (fM eP X X) (fM eP Y Y)))
  generalize fS eP (fM eP Y Y) (fM eP X X) = a at *
  generalize fA eP 1 (fM eP eD (fM eP (fM eP X X) (fM eP Y Y))) = b at *
  constructor
  · rintro ⟨h0, h1, h2, h3⟩
    subst h3
    refine ⟨h0, h1, h2, ?_⟩
    unfold eqE
    exact lc2 (-1) 1 c1 c2 (by grind)
  · rintro ⟨h0, h1, h2, h3⟩
    refine ⟨h0, h1, h2, eq_of_dvd l1 l2 ?_⟩
    unfold eqE at h3
    exact lc3 1 (-1) 1 c1 c2 h3 (by grind)
end Go.Proofs.YtjpjepfmphlneaaGreatDoor
