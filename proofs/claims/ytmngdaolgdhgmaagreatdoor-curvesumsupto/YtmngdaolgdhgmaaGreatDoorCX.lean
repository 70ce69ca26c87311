import Derived.Test.YtmngdaolgdhgmaaGreatDoorCW
import Derived.Test.YtmngdaolgdhgmaaGreatDoorCV
namespace Go.Proofs.YtmngdaolgdhgmaaGreatDoor
open Go.RowKit


theorem cmp3_zero (U V : Nat) : (cmp3 (U : Int) (V : Int) == 0) = decide (U = V) := by
  rcases Nat.lt_trichotomy U V with h | h | h
  · rw [cmp3_lt (by omega), decide_eq_false (by omega)]; rfl
  · rw [cmp3_eq (by omega), decide_eq_true h]; rfl
  · rw [cmp3_gt (by omega), decide_eq_false (by omega)]; rfl
set_option maxHeartbeats 4000000 in
theorem fulfils_v (pv bv x y : Value) (p B X Y : Nat) (w : World) (Hp : Hid (Pm p)) (hp : Nk w pv p 384) (hb : Nk w bv B 384) (hx : Nk w x X 384) (hy : Nk w y Y 384) :
    Calls Tryz.prog 69 #[.agg #[pv, bv], x, y] w fun e w' => e = .returned (.bool (decide (fM p Y Y = fS p (fM p X X * X + B) (X * 3)))) ∧ Below w.heap.size w w' := by
  obtain ⟨p0, p1, p2, rfl⟩ := hp.sl
  obtain ⟨b0, b1, b2, rfl⟩ := hb.sl
  obtain ⟨x0, x1, x2, rfl⟩ := hx.sl
  obtain ⟨y0, y1, y2, rfl⟩ := hy.sl
  have HF0 : Hid (Fm w (w.alloc (.cells #[.slice p0 p1 p2, .slice b0 b1 b2] 54)) [(54, [.slice p0 p1 p2, .slice b0 b1 b2])] [(.slice p0 p1 p2, p, 384), (.slice b0 b1 b2, B, 384), (.slice x0 x1 x2, X, 384), (.slice y0 y1 y2, Y, 384)] []) := ((Fm.nil (w := w) (A := [(.slice p0 p1 p2, p, 384), (.slice b0 b1 b2, B, 384), (.slice x0 x1 x2, X, 384), (.slice y0 y1 y2, Y, 384)]) (ar_cons hp (ar_cons hb (ar_cons hx (ar_cons hy ar_nil))))).push (by simp) 54 [.slice p0 p1 p2, .slice b0 b1 b2])
  clear hp hb hx hy
  go_enter Tryz.func69, Tryz.ntmps69
  go_wp2_with fail
  generalize (w.alloc (.cells #[.slice p0 p1 p2, .slice b0 b1 b2] 54)) = w0 at *
  refine (fmul_v _ _ _ _ p X X 384 384 _ Hp.out (HF0.out.arg 0 (Nat.le_of_ble_eq_true rfl)).1 (HF0.out.arg 1 (Nat.le_of_ble_eq_true rfl)).sl (HF0.out.arg 2 (Nat.le_of_ble_eq_true rfl)) (HF0.out.arg 2 (Nat.le_of_ble_eq_true rfl)) (by decide) (by decide)).mono ?_
  rintro e w1 ⟨r1, rfl, h⟩
  obtain ⟨V1, HV1⟩ : ∃ V, Hid (V = fM p X X) := ⟨_, rfl⟩
  rw [← HV1.out] at h
  have HF1 : Hid (Fm _ _ _ _ _) := HF0.out.step h
  clear h
  go_wp2_with fail
  refine (nmul_v _ _ V1 X 384 384 _ (HF1.out.got 0 (Nat.le_of_ble_eq_true rfl)) (HF1.out.arg 2 (Nat.le_of_ble_eq_true rfl)) (by decide)).mono ?_
  rintro e w2 ⟨r2, rfl, h⟩
  obtain ⟨V2, HV2⟩ : ∃ V, Hid (V = V1 * X) := ⟨_, rfl⟩
  rw [← HV2.out] at h
  have HF2 : Hid (Fm _ _ _ _ _) := HF1.out.step h
  clear h
  go_wp2_with fail
  have HF2d : Hid (Fm _ _ _ _ _) := HF2.out.drew
  refine wp_region_K 12 (fun (w' : World) => w'.cell? ⟨w.heap.size, 0, none⟩ = some (.slice p0 p1 p2) ∧ w'.cell? ⟨w.heap.size, 1, none⟩ = some (.slice b0 b1 b2)) (by kernel_rfl) ?_
  have hHeld : ((fun (w' : World) => w'.cell? ⟨w.heap.size, 0, none⟩ = some (.slice p0 p1 p2) ∧ w'.cell? ⟨w.heap.size, 1, none⟩ = some (.slice b0 b1 b2))) (World.drew _) := ⟨HF2d.out.cell 0 0 (Nat.le_of_ble_eq_true rfl) (Nat.le_of_ble_eq_true rfl), HF2d.out.cell 0 1 (Nat.le_of_ble_eq_true rfl) (Nat.le_of_ble_eq_true rfl)⟩
  refine wpAnyK_take 0 [3, 12] (v := ?v24) rfl (by kernel_rfl) (fun _ _ _ h => h) (Or.inl ⟨by rfl, ?hy24⟩) hHeld ?_
  case hy24 => (intro w hSw; (try dsimp only at hSw); go_simp; try with_reducible rfl)
  try simp only [Act.put, List.setIfInBounds_toArray, List.set_cons_zero, List.set_cons_succ]
  refine wpAnyK_take0 1 (v := ?v25) rfl (by kernel_rfl) (fun _ _ _ h => h) (Or.inl ⟨by rfl, ?hy25⟩) (fun _ => hHeld) ?_
  case hy25 => (intro w hSw; go_simp; try with_reducible rfl)
  try simp only [Act.put, List.setIfInBounds_toArray, List.set_cons_zero, List.set_cons_succ]
  refine wpAnyK_take0 2 (v := ?v26) rfl (by kernel_rfl) (fun _ _ _ h => h) (Or.inl ⟨by rfl, ?hy26⟩) (fun _ => hHeld) ?_
  case hy26 => (intro w hSw; go_simp; try with_reducible rfl)
  try simp only [Act.put, List.setIfInBounds_toArray, List.set_cons_zero, List.set_cons_succ]
  refine wpAnyK_take 4 [11, 12] (v := ?v27) rfl (by kernel_rfl) (fun _ _ _ h => h) (Or.inl ⟨by rfl, ?hy27⟩) hHeld ?_
  case hy27 => (intro w hSw; (try dsimp only at hSw); go_simp; try with_reducible rfl)
  try simp only [Act.put, List.setIfInBounds_toArray, List.set_cons_zero, List.set_cons_succ]
  refine wpAnyK_take0 5 (v := ?v28) rfl (by kernel_rfl) (fun _ _ _ h => h) (Or.inl ⟨by rfl, ?hy28⟩) (fun _ => hHeld) ?_
  case hy28 => (intro w hSw; go_simp; try with_reducible rfl)
  try simp only [Act.put, List.setIfInBounds_toArray, List.set_cons_zero, List.set_cons_succ]
  refine wpAnyK_take0 6 (v := ?v29) rfl (by kernel_rfl) (fun _ _ _ h => h) (Or.inl ⟨by rfl, ?hy29⟩) (fun _ => hHeld) ?_
  case hy29 => (intro w hSw; go_simp; try with_reducible rfl)
  try simp only [Act.put, List.setIfInBounds_toArray, List.set_cons_zero, List.set_cons_succ]
  refine wpAnyK_take 7 [8, 11, 12] (v := ?v30) rfl (by kernel_rfl) (fun _ _ _ h => h) (Or.inl ⟨by rfl, ?hy30⟩) hHeld ?_
  case hy30 => (intro w hSw; (try dsimp only at hSw); go_simp; try with_reducible rfl)
  try simp only [Act.put, List.setIfInBounds_toArray, List.set_cons_zero, List.set_cons_succ]
  refine wpAnyK_take0 9 (v := ?v31) rfl (by kernel_rfl) (fun _ _ _ h => h) (Or.inl ⟨by rfl, ?hy31⟩) (fun _ => hHeld) ?_
  case hy31 => (intro w hSw; go_simp; try with_reducible rfl)
  try simp only [Act.put, List.setIfInBounds_toArray, List.set_cons_zero, List.set_cons_succ]
  refine wpAnyK_step 3 rfl (by kernel_rfl) (fun K hK => ?_)
  go_simp
  refine (fmul_v _ _ _ _ p Y Y 384 384 _ Hp.out (HF2d.out.arg 0 (Nat.le_of_ble_eq_true rfl)).1 (HF2d.out.arg 1 (Nat.le_of_ble_eq_true rfl)).sl (HF2d.out.arg 3 (Nat.le_of_ble_eq_true rfl)) (HF2d.out.arg 3 (Nat.le_of_ble_eq_true rfl)) (by decide) (by decide)).mono ?_
  rintro e w3 ⟨r3, rfl, h⟩
  obtain ⟨V3, HV3⟩ : ∃ V, Hid (V = fM p Y Y) := ⟨_, rfl⟩
  rw [← HV3.out] at h
  have HF3 : Hid (Fm _ _ _ _ _) := HF2d.out.step h
  clear h
  try dsimp only
  refine (fun hHeld => hK.out _ _ (fun _ => hHeld) ?_) ⟨HF3.out.cell 0 0 (Nat.le_of_ble_eq_true rfl) (Nat.le_of_ble_eq_true rfl), HF3.out.cell 0 1 (Nat.le_of_ble_eq_true rfl) (Nat.le_of_ble_eq_true rfl)⟩
  clear hK K
  try simp only [Act.put, List.setIfInBounds_toArray, List.set_cons_zero, List.set_cons_succ]
  refine wpAnyK_step 8 rfl (by kernel_rfl) (fun K hK => ?_)
  go_simp
  refine (nadd_v _ _ V2 B 768 384 _ (HF3.out.got 1 (Nat.le_of_ble_eq_true rfl)) (HF3.out.arg 1 (Nat.le_of_ble_eq_true rfl)) (by decide)).mono ?_
  rintro e w4 ⟨r4, rfl, h⟩
  obtain ⟨V4, HV4⟩ : ∃ V, Hid (V = V2 + B) := ⟨_, rfl⟩
  rw [← HV4.out] at h
  have HF4 : Hid (Fm _ _ _ _ _) := HF3.out.step h
  clear h
  try dsimp only
  refine (fun hHeld => hK.out _ _ (fun _ => hHeld) ?_) ⟨HF4.out.cell 0 0 (Nat.le_of_ble_eq_true rfl) (Nat.le_of_ble_eq_true rfl), HF4.out.cell 0 1 (Nat.le_of_ble_eq_true rfl) (Nat.le_of_ble_eq_true rfl)⟩
  clear hK K
  try simp only [Act.put, List.setIfInBounds_toArray, List.set_cons_zero, List.set_cons_succ]
  refine wpAnyK_step 10 rfl (by kernel_rfl) (fun K hK => ?_)
  go_simp
  refine (thrice_v _ X 384 _ (HF4.out.arg 2 (Nat.le_of_ble_eq_true rfl)) (by decide)).mono ?_
  rintro e w5 ⟨r5, rfl, h⟩
  obtain ⟨V5, HV5⟩ : ∃ V, Hid (V = X * 3) := ⟨_, rfl⟩
  rw [← HV5.out] at h
  have HF5 : Hid (Fm _ _ _ _ _) := HF4.out.step h
  clear h
  try dsimp only
  refine (fun hHeld => hK.out _ _ (fun _ => hHeld) ?_) ⟨HF5.out.cell 0 0 (Nat.le_of_ble_eq_true rfl) (Nat.le_of_ble_eq_true rfl), HF5.out.cell 0 1 (Nat.le_of_ble_eq_true rfl) (Nat.le_of_ble_eq_true rfl)⟩
  clear hK K
  try simp only [Act.put, List.setIfInBounds_toArray, List.set_cons_zero, List.set_cons_succ]
  refine wpAnyK_step 11 rfl (by kernel_rfl) (fun K hK => ?_)
  go_simp
  refine (fsub_v _ _ _ _ p V4 V5 1153 386 _ Hp.out (HF5.out.arg 0 (Nat.le_of_ble_eq_true rfl)).1 (HF5.out.arg 1 (Nat.le_of_ble_eq_true rfl)).sl (HF5.out.got 1 (Nat.le_of_ble_eq_true rfl)) (HF5.out.got 0 (Nat.le_of_ble_eq_true rfl)) (by decide) (by decide)).mono ?_
  rintro e w6 ⟨r6, rfl, h⟩
  obtain ⟨V6, HV6⟩ : ∃ V, Hid (V = fS p V4 V5) := ⟨_, rfl⟩
  rw [← HV6.out] at h
  have HF6 : Hid (Fm _ _ _ _ _) := HF5.out.step h
  clear h
  try dsimp only
  refine (fun hHeld => hK.out _ _ (fun _ => hHeld) ?_) ⟨HF6.out.cell 0 0 (Nat.le_of_ble_eq_true rfl) (Nat.le_of_ble_eq_true rfl), HF6.out.cell 0 1 (Nat.le_of_ble_eq_true rfl) (Nat.le_of_ble_eq_true rfl)⟩
  clear hK K
  try simp only [Act.put, List.setIfInBounds_toArray, List.set_cons_zero, List.set_cons_succ]
  refine wpAnyK_step 12 rfl (by kernel_rfl) (fun K hK => ?_)
  go_simp
  refine (vcmp _ _ V3 V6 _ _ _ (HF6.out.got 3 (Nat.le_of_ble_eq_true rfl)).1 (HF6.out.got 0 (Nat.le_of_ble_eq_true rfl)).1 (by decide) (by decide)).mono ?_
  rintro e w7 ⟨rfl, q, hq⟩
  have HF7 : Hid (Fm w w7 [(54, [.slice p0 p1 p2, .slice b0 b1 b2])] [(.slice p0 p1 p2, p, 384), (.slice b0 b1 b2, B, 384), (.slice x0 x1 x2, X, 384), (.slice y0 y1 y2, Y, 384)] [(r6, V6, 384), (r5, V5, 386), (r4, V4, 1153), (r3, V3, 384), (r2, V2, 768), (r1, V1, 384)]) := (by rw [hq]; exact HF6.out.drewN q : Fm w w7 [(54, [.slice p0 p1 p2, .slice b0 b1 b2])] [(.slice p0 p1 p2, p, 384), (.slice b0 b1 b2, B, 384), (.slice x0 x1 x2, X, 384), (.slice y0 y1 y2, Y, 384)] [(r6, V6, 384), (r5, V5, 386), (r4, V4, 1153), (r3, V3, 384), (r2, V2, 768), (r1, V1, 384)])
  clear hq
  obtain ⟨oo, Hoo⟩ : ∃ oo, Hid (oo = cmp3 ((V3 : Nat) : Int) ((V6 : Nat) : Int)) := ⟨_, rfl⟩
  rw [← Hoo.out]
  try dsimp only
  refine (fun hHeld => hK.out _ _ (fun _ => hHeld) ?_) ⟨HF7.out.cell 0 0 (Nat.le_of_ble_eq_true rfl) (Nat.le_of_ble_eq_true rfl), HF7.out.cell 0 1 (Nat.le_of_ble_eq_true rfl) (Nat.le_of_ble_eq_true rfl)⟩
  clear hK K
  try simp only [Act.put, List.setIfInBounds_toArray, List.set_cons_zero, List.set_cons_succ]
  refine wpAnyK_take0 13 (v := ?v37) rfl (by kernel_rfl) (fun _ _ _ h => h) (Or.inl ⟨by rfl, ?hy37⟩) (fun _ => hHeld) ?_
  case hy37 => (intro w hSw; go_simp; try with_reducible rfl)
  try simp only [Act.put, List.setIfInBounds_toArray, List.set_cons_zero, List.set_cons_succ]
  refine wpAnyK_take0 14 (v := ?v38) rfl (by kernel_rfl) (fun _ _ _ h => h) (Or.inl ⟨by rfl, ?hy38⟩) (fun _ => hHeld) ?_
  case hy38 => (intro w hSw; go_simp; try with_reducible rfl)
  try simp only [Act.put, List.setIfInBounds_toArray, List.set_cons_zero, List.set_cons_succ]
  refine wpAnyK_done (by kernel_rfl) ?_ _
  go_wp2
  go_ret
  refine ⟨?_, HF7.out.bel⟩
  have hz : (oo == 0) = decide (V3 = V6) := by rw [Hoo.out]; exact cmp3_zero _ _
  show Ending.returned (.bool (oo == 0)) = _
  rw [hz]
  obtain rfl := HV6.out
  obtain rfl := HV5.out
  obtain rfl := HV4.out
  obtain rfl := HV3.out
  obtain rfl := HV2.out
  obtain rfl := HV1.out
  rfl
end Go.Proofs.YtmngdaolgdhgmaaGreatDoor
