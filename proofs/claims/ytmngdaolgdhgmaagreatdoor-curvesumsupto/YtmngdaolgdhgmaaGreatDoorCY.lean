import Derived.Test.YtmngdaolgdhgmaaGreatDoorCX
namespace Go.Proofs.YtmngdaolgdhgmaaGreatDoor
open Go.RowKit

set_option maxHeartbeats 20000000 in
theorem plus_v (pv bv v1 v2 : Value) (p B X1 Y1 Z1 X2 Y2 Z2 : Nat) (w : World) (Hp : Hid (Pm p)) (hp : Nk w pv p 384) (hb : Nk w bv B 384) (h1 : Rt w v1 X1 Y1 Z1) (h2 : Rt w v2 X2 Y2 Z2) :
    Calls Tryz.prog 53 #[.agg #[pv, bv], v1, v2] w fun e w' => ∃ r, e = .returned r ∧ Rm w w' r (plusX p B X1 Y1 Z1 X2 Y2 Z2) (plusY p B X1 Y1 Z1 X2 Y2 Z2) (plusZ p B X1 Y1 Z1 X2 Y2 Z2) ∧ Below w.heap.size w w' := by
  obtain ⟨p0, p1, p2, rfl⟩ := hp.sl
  obtain ⟨b0, b1, b2, rfl⟩ := hb.sl
  obtain ⟨x, y, z, rfl, hx, hy, hz⟩ := h1
  obtain ⟨u, v, t, rfl, hu, hv, ht⟩ := h2
  obtain ⟨x0, x1, x2, rfl⟩ := hx.sl
  obtain ⟨y0, y1, y2, rfl⟩ := hy.sl
  obtain ⟨z0, z1, z2, rfl⟩ := hz.sl
  obtain ⟨u0, u1, u2, rfl⟩ := hu.sl
  obtain ⟨v0, v1, v2, rfl⟩ := hv.sl
  obtain ⟨t0, t1, t2, rfl⟩ := ht.sl
  have HF0 : Hid (Fm w ((((w.alloc (.cells #[.slice p0 p1 p2, .slice b0 b1 b2] 54)).alloc (.cells #[.slice x0 x1 x2, .slice y0 y1 y2, .slice z0 z1 z2] 66)).alloc (.cells #[.slice u0 u1 u2, .slice v0 v1 v2, .slice t0 t1 t2] 66)).alloc (.cells #[.slice none 0 0, .slice none 0 0, .slice none 0 0] 66)) [(54, [.slice p0 p1 p2, .slice b0 b1 b2]), (66, [.slice x0 x1 x2, .slice y0 y1 y2, .slice z0 z1 z2]), (66, [.slice u0 u1 u2, .slice v0 v1 v2, .slice t0 t1 t2]), (66, [.slice none 0 0, .slice none 0 0, .slice none 0 0])] [(.slice p0 p1 p2, p, 384), (.slice b0 b1 b2, B, 384), (.slice x0 x1 x2, X1, 384), (.slice y0 y1 y2, Y1, 384), (.slice z0 z1 z2, Z1, 384), (.slice u0 u1 u2, X2, 384), (.slice v0 v1 v2, Y2, 384), (.slice t0 t1 t2, Z2, 384)] []) := (((((Fm.nil (w := w) (A := [(.slice p0 p1 p2, p, 384), (.slice b0 b1 b2, B, 384), (.slice x0 x1 x2, X1, 384), (.slice y0 y1 y2, Y1, 384), (.slice z0 z1 z2, Z1, 384), (.slice u0 u1 u2, X2, 384), (.slice v0 v1 v2, Y2, 384), (.slice t0 t1 t2, Z2, 384)]) (ar_cons hp (ar_cons hb (ar_cons hx (ar_cons hy (ar_cons hz (ar_cons hu (ar_cons hv (ar_cons ht ar_nil))))))))).push (by simp) 54 [.slice p0 p1 p2, .slice b0 b1 b2]).push (by simp) 66 [.slice x0 x1 x2, .slice y0 y1 y2, .slice z0 z1 z2]).push (by simp) 66 [.slice u0 u1 u2, .slice v0 v1 v2, .slice t0 t1 t2]).push (by simp) 66 [.slice none 0 0, .slice none 0 0, .slice none 0 0])
  clear hp hb hx hy hz hu hv ht
  go_enter Tryz.func53, Tryz.ntmps53
  go_wp2_with fail
  generalize ((((w.alloc (.cells #[.slice p0 p1 p2, .slice b0 b1 b2] 54)).alloc (.cells #[.slice x0 x1 x2, .slice y0 y1 y2, .slice z0 z1 z2] 66)).alloc (.cells #[.slice u0 u1 u2, .slice v0 v1 v2, .slice t0 t1 t2] 66)).alloc (.cells #[.slice none 0 0, .slice none 0 0, .slice none 0 0] 66)) = w0 at *
  have HF0d : Hid (Fm _ _ _ _ _) := HF0.out.drew
  refine wp_region_K 17 (fun (w' : World) => w'.cell? ⟨w.heap.size, 0, none⟩ = some (.slice p0 p1 p2) ∧ w'.cell? ⟨w.heap.size, 1, none⟩ = some (.slice b0 b1 b2) ∧ w'.cell? ⟨w.heap.size + 1, 0, none⟩ = some (.slice x0 x1 x2) ∧ w'.cell? ⟨w.heap.size + 1, 1, none⟩ = some (.slice y0 y1 y2) ∧ w'.cell? ⟨w.heap.size + 1, 2, none⟩ = some (.slice z0 z1 z2) ∧ w'.cell? ⟨w.heap.size + 2, 0, none⟩ = some (.slice u0 u1 u2) ∧ w'.cell? ⟨w.heap.size + 2, 1, none⟩ = some (.slice v0 v1 v2) ∧ w'.cell? ⟨w.heap.size + 2, 2, none⟩ = some (.slice t0 t1 t2)) (by kernel_rfl) ?_
  have hHeld : ((fun (w' : World) => w'.cell? ⟨w.heap.size, 0, none⟩ = some (.slice p0 p1 p2) ∧ w'.cell? ⟨w.heap.size, 1, none⟩ = some (.slice b0 b1 b2) ∧ w'.cell? ⟨w.heap.size + 1, 0, none⟩ = some (.slice x0 x1 x2) ∧ w'.cell? ⟨w.heap.size + 1, 1, none⟩ = some (.slice y0 y1 y2) ∧ w'.cell? ⟨w.heap.size + 1, 2, none⟩ = some (.slice z0 z1 z2) ∧ w'.cell? ⟨w.heap.size + 2, 0, none⟩ = some (.slice u0 u1 u2) ∧ w'.cell? ⟨w.heap.size + 2, 1, none⟩ = some (.slice v0 v1 v2) ∧ w'.cell? ⟨w.heap.size + 2, 2, none⟩ = some (.slice t0 t1 t2))) (World.drew _) := ⟨HF0d.out.cell 0 0 (Nat.le_of_ble_eq_true rfl) (Nat.le_of_ble_eq_true rfl), HF0d.out.cell 0 1 (Nat.le_of_ble_eq_true rfl) (Nat.le_of_ble_eq_true rfl), HF0d.out.cell 1 0 (Nat.le_of_ble_eq_true rfl) (Nat.le_of_ble_eq_true rfl), HF0d.out.cell 1 1 (Nat.le_of_ble_eq_true rfl) (Nat.le_of_ble_eq_true rfl), HF0d.out.cell 1 2 (Nat.le_of_ble_eq_true rfl) (Nat.le_of_ble_eq_true rfl), HF0d.out.cell 2 0 (Nat.le_of_ble_eq_true rfl) (Nat.le_of_ble_eq_true rfl), HF0d.out.cell 2 1 (Nat.le_of_ble_eq_true rfl) (Nat.le_of_ble_eq_true rfl), HF0d.out.cell 2 2 (Nat.le_of_ble_eq_true rfl) (Nat.le_of_ble_eq_true rfl)⟩
  refine wpAnyK_take 0 [5, 11, 17] (v := ?v39) rfl (by kernel_rfl) (fun _ _ _ h => h) (Or.inl ⟨by rfl, ?hy39⟩) hHeld ?_
  case hy39 => (intro w hSw; (try dsimp only at hSw); go_simp; try with_reducible rfl)
  try simp only [Act.put, List.setIfInBounds_toArray, List.set_cons_zero, List.set_cons_succ]
  refine wpAnyK_take0 1 (v := ?v40) rfl (by kernel_rfl) (fun _ _ _ h => h) (Or.inl ⟨by rfl, ?hy40⟩) (fun _ => hHeld) ?_
  case hy40 => (intro w hSw; go_simp; try with_reducible rfl)
  try simp only [Act.put, List.setIfInBounds_toArray, List.set_cons_zero, List.set_cons_succ]
  refine wpAnyK_take 2 [5, 11, 17] (v := ?v41) rfl (by kernel_rfl) (fun _ _ _ h => h) (Or.inl ⟨by rfl, ?hy41⟩) hHeld ?_
  case hy41 => (intro w hSw; (try dsimp only at hSw); go_simp; try with_reducible rfl)
  try simp only [Act.put, List.setIfInBounds_toArray, List.set_cons_zero, List.set_cons_succ]
  refine wpAnyK_take0 3 (v := ?v42) rfl (by kernel_rfl) (fun _ _ _ h => h) (Or.inl ⟨by rfl, ?hy42⟩) (fun _ => hHeld) ?_
  case hy42 => (intro w hSw; go_simp; try with_reducible rfl)
  try simp only [Act.put, List.setIfInBounds_toArray, List.set_cons_zero, List.set_cons_succ]
  refine wpAnyK_take 4 [5, 11, 17] (v := ?v43) rfl (by kernel_rfl) (fun _ _ _ h => h) (Or.inl ⟨by rfl, ?hy43⟩) hHeld ?_
  case hy43 => (intro w hSw; (try dsimp only at hSw); go_simp; try with_reducible rfl)
  try simp only [Act.put, List.setIfInBounds_toArray, List.set_cons_zero, List.set_cons_succ]
  refine wpAnyK_take 6 [11, 17] (v := ?v44) rfl (by kernel_rfl) (fun _ _ _ h => h) (Or.inl ⟨by rfl, ?hy44⟩) hHeld ?_
  case hy44 => (intro w hSw; (try dsimp only at hSw); go_simp; try with_reducible rfl)
  try simp only [Act.put, List.setIfInBounds_toArray, List.set_cons_zero, List.set_cons_succ]
  refine wpAnyK_take0 7 (v := ?v45) rfl (by kernel_rfl) (fun _ _ _ h => h) (Or.inl ⟨by rfl, ?hy45⟩) (fun _ => hHeld) ?_
  case hy45 => (intro w hSw; go_simp; try with_reducible rfl)
  try simp only [Act.put, List.setIfInBounds_toArray, List.set_cons_zero, List.set_cons_succ]
  refine wpAnyK_take 8 [11, 17] (v := ?v46) rfl (by kernel_rfl) (fun _ _ _ h => h) (Or.inl ⟨by rfl, ?hy46⟩) hHeld ?_
  case hy46 => (intro w hSw; (try dsimp only at hSw); go_simp; try with_reducible rfl)
  try simp only [Act.put, List.setIfInBounds_toArray, List.set_cons_zero, List.set_cons_succ]
  refine wpAnyK_take0 9 (v := ?v47) rfl (by kernel_rfl) (fun _ _ _ h => h) (Or.inl ⟨by rfl, ?hy47⟩) (fun _ => hHeld) ?_
  case hy47 => (intro w hSw; go_simp; try with_reducible rfl)
  try simp only [Act.put, List.setIfInBounds_toArray, List.set_cons_zero, List.set_cons_succ]
  refine wpAnyK_take 10 [11, 17] (v := ?v48) rfl (by kernel_rfl) (fun _ _ _ h => h) (Or.inl ⟨by rfl, ?hy48⟩) hHeld ?_
  case hy48 => (intro w hSw; (try dsimp only at hSw); go_simp; try with_reducible rfl)
  try simp only [Act.put, List.setIfInBounds_toArray, List.set_cons_zero, List.set_cons_succ]
  refine wpAnyK_take 12 [17] (v := ?v49) rfl (by kernel_rfl) (fun _ _ _ h => h) (Or.inl ⟨by rfl, ?hy49⟩) hHeld ?_
  case hy49 => (intro w hSw; (try dsimp only at hSw); go_simp; try with_reducible rfl)
  try simp only [Act.put, List.setIfInBounds_toArray, List.set_cons_zero, List.set_cons_succ]
  refine wpAnyK_take0 13 (v := ?v50) rfl (by kernel_rfl) (fun _ _ _ h => h) (Or.inl ⟨by rfl, ?hy50⟩) (fun _ => hHeld) ?_
  case hy50 => (intro w hSw; go_simp; try with_reducible rfl)
  try simp only [Act.put, List.setIfInBounds_toArray, List.set_cons_zero, List.set_cons_succ]
  refine wpAnyK_take 14 [17] (v := ?v51) rfl (by kernel_rfl) (fun _ _ _ h => h) (Or.inl ⟨by rfl, ?hy51⟩) hHeld ?_
  case hy51 => (intro w hSw; (try dsimp only at hSw); go_simp; try with_reducible rfl)
  try simp only [Act.put, List.setIfInBounds_toArray, List.set_cons_zero, List.set_cons_succ]
  refine wpAnyK_take0 15 (v := ?v52) rfl (by kernel_rfl) (fun _ _ _ h => h) (Or.inl ⟨by rfl, ?hy52⟩) (fun _ => hHeld) ?_
  case hy52 => (intro w hSw; go_simp; try with_reducible rfl)
  try simp only [Act.put, List.setIfInBounds_toArray, List.set_cons_zero, List.set_cons_succ]
  refine wpAnyK_take 16 [17] (v := ?v53) rfl (by kernel_rfl) (fun _ _ _ h => h) (Or.inl ⟨by rfl, ?hy53⟩) hHeld ?_
  case hy53 => (intro w hSw; (try dsimp only at hSw); go_simp; try with_reducible rfl)
  try simp only [Act.put, List.setIfInBounds_toArray, List.set_cons_zero, List.set_cons_succ]
  refine wpAnyK_step 5 rfl (by kernel_rfl) (fun K hK => ?_)
  go_simp
  refine (fmul_v _ _ _ _ p X1 X2 384 384 _ Hp.out (HF0d.out.arg 0 (Nat.le_of_ble_eq_true rfl)).1 (HF0d.out.arg 1 (Nat.le_of_ble_eq_true rfl)).sl (HF0d.out.arg 2 (Nat.le_of_ble_eq_true rfl)) (HF0d.out.arg 5 (Nat.le_of_ble_eq_true rfl)) (by decide) (by decide)).mono ?_
  rintro e w1 ⟨r1, rfl, h⟩
  obtain ⟨V1, HV1⟩ : ∃ V, Hid (V = fM p X1 X2) := ⟨_, rfl⟩
  rw [← HV1.out] at h
  have HF1 : Hid (Fm _ _ _ _ _) := HF0d.out.step h
  clear h
  try dsimp only
  refine (fun hHeld => hK.out _ _ (fun _ => hHeld) ?_) ⟨HF1.out.cell 0 0 (Nat.le_of_ble_eq_true rfl) (Nat.le_of_ble_eq_true rfl), HF1.out.cell 0 1 (Nat.le_of_ble_eq_true rfl) (Nat.le_of_ble_eq_true rfl), HF1.out.cell 1 0 (Nat.le_of_ble_eq_true rfl) (Nat.le_of_ble_eq_true rfl), HF1.out.cell 1 1 (Nat.le_of_ble_eq_true rfl) (Nat.le_of_ble_eq_true rfl), HF1.out.cell 1 2 (Nat.le_of_ble_eq_true rfl) (Nat.le_of_ble_eq_true rfl), HF1.out.cell 2 0 (Nat.le_of_ble_eq_true rfl) (Nat.le_of_ble_eq_true rfl), HF1.out.cell 2 1 (Nat.le_of_ble_eq_true rfl) (Nat.le_of_ble_eq_true rfl), HF1.out.cell 2 2 (Nat.le_of_ble_eq_true rfl) (Nat.le_of_ble_eq_true rfl)⟩
  clear hK K
  try simp only [Act.put, List.setIfInBounds_toArray, List.set_cons_zero, List.set_cons_succ]
  refine wpAnyK_step 11 rfl (by kernel_rfl) (fun K hK => ?_)
  go_simp
  refine (fmul_v _ _ _ _ p Y1 Y2 384 384 _ Hp.out (HF1.out.arg 0 (Nat.le_of_ble_eq_true rfl)).1 (HF1.out.arg 1 (Nat.le_of_ble_eq_true rfl)).sl (HF1.out.arg 3 (Nat.le_of_ble_eq_true rfl)) (HF1.out.arg 6 (Nat.le_of_ble_eq_true rfl)) (by decide) (by decide)).mono ?_
  rintro e w2 ⟨r2, rfl, h⟩
  obtain ⟨V2, HV2⟩ : ∃ V, Hid (V = fM p Y1 Y2) := ⟨_, rfl⟩
  rw [← HV2.out] at h
  have HF2 : Hid (Fm _ _ _ _ _) := HF1.out.step h
  clear h
  try dsimp only
  refine (fun hHeld => hK.out _ _ (fun _ => hHeld) ?_) ⟨HF2.out.cell 0 0 (Nat.le_of_ble_eq_true rfl) (Nat.le_of_ble_eq_true rfl), HF2.out.cell 0 1 (Nat.le_of_ble_eq_true rfl) (Nat.le_of_ble_eq_true rfl), HF2.out.cell 1 0 (Nat.le_of_ble_eq_true rfl) (Nat.le_of_ble_eq_true rfl), HF2.out.cell 1 1 (Nat.le_of_ble_eq_true rfl) (Nat.le_of_ble_eq_true rfl), HF2.out.cell 1 2 (Nat.le_of_ble_eq_true rfl) (Nat.le_of_ble_eq_true rfl), HF2.out.cell 2 0 (Nat.le_of_ble_eq_true rfl) (Nat.le_of_ble_eq_true rfl), HF2.out.cell 2 1 (Nat.le_of_ble_eq_true rfl) (Nat.le_of_ble_eq_true rfl), HF2.out.cell 2 2 (Nat.le_of_ble_eq_true rfl) (Nat.le_of_ble_eq_true rfl)⟩
  clear hK K
  try simp only [Act.put, List.setIfInBounds_toArray, List.set_cons_zero, List.set_cons_succ]
  refine wpAnyK_step 17 rfl (by kernel_rfl) (fun K hK => ?_)
  go_simp
  refine (fmul_v _ _ _ _ p Z1 Z2 384 384 _ Hp.out (HF2.out.arg 0 (Nat.le_of_ble_eq_true rfl)).1 (HF2.out.arg 1 (Nat.le_of_ble_eq_true rfl)).sl (HF2.out.arg 4 (Nat.le_of_ble_eq_true rfl)) (HF2.out.arg 7 (Nat.le_of_ble_eq_true rfl)) (by decide) (by decide)).mono ?_
  rintro e w3 ⟨r3, rfl, h⟩
  obtain ⟨V3, HV3⟩ : ∃ V, Hid (V = fM p Z1 Z2) := ⟨_, rfl⟩
  rw [← HV3.out] at h
  have HF3 : Hid (Fm _ _ _ _ _) := HF2.out.step h
  clear h
  try dsimp only
  refine (fun hHeld => hK.out _ _ (fun _ => hHeld) ?_) ⟨HF3.out.cell 0 0 (Nat.le_of_ble_eq_true rfl) (Nat.le_of_ble_eq_true rfl), HF3.out.cell 0 1 (Nat.le_of_ble_eq_true rfl) (Nat.le_of_ble_eq_true rfl), HF3.out.cell 1 0 (Nat.le_of_ble_eq_true rfl) (Nat.le_of_ble_eq_true rfl), HF3.out.cell 1 1 (Nat.le_of_ble_eq_true rfl) (Nat.le_of_ble_eq_true rfl), HF3.out.cell 1 2 (Nat.le_of_ble_eq_true rfl) (Nat.le_of_ble_eq_true rfl), HF3.out.cell 2 0 (Nat.le_of_ble_eq_true rfl) (Nat.le_of_ble_eq_true rfl), HF3.out.cell 2 1 (Nat.le_of_ble_eq_true rfl) (Nat.le_of_ble_eq_true rfl), HF3.out.cell 2 2 (Nat.le_of_ble_eq_true rfl) (Nat.le_of_ble_eq_true rfl)⟩
  clear hK K
  try simp only [Act.put, List.setIfInBounds_toArray, List.set_cons_zero, List.set_cons_succ]
  refine wpAnyK_take0 18 (v := ?v57) rfl (by kernel_rfl) (fun _ _ _ h => h) (Or.inl ⟨by rfl, ?hy57⟩) (fun _ => hHeld) ?_
  case hy57 => (intro w hSw; go_simp; try with_reducible rfl)
  try simp only [Act.put, List.setIfInBounds_toArray, List.set_cons_zero, List.set_cons_succ]
  refine wpAnyK_take0 19 (v := ?v58) rfl (by kernel_rfl) (fun _ _ _ h => h) (Or.inl ⟨by rfl, ?hy58⟩) (fun _ => hHeld) ?_
  case hy58 => (intro w hSw; go_simp; try with_reducible rfl)
  try simp only [Act.put, List.setIfInBounds_toArray, List.set_cons_zero, List.set_cons_succ]
  refine wpAnyK_take0 20 (v := ?v59) rfl (by kernel_rfl) (fun _ _ _ h => h) (Or.inl ⟨by rfl, ?hy59⟩) (fun _ => hHeld) ?_
  case hy59 => (intro w hSw; go_simp; try with_reducible rfl)
  try simp only [Act.put, List.setIfInBounds_toArray, List.set_cons_zero, List.set_cons_succ]
  refine wpAnyK_done (by kernel_rfl) ?_ _
  go_wp2_with fail
  have HF3d : Hid (Fm _ _ _ _ _) := HF3.out.drew
  refine wp_region_K 11 (fun (w' : World) => w'.cell? ⟨w.heap.size, 0, none⟩ = some (.slice p0 p1 p2) ∧ w'.cell? ⟨w.heap.size, 1, none⟩ = some (.slice b0 b1 b2) ∧ w'.cell? ⟨w.heap.size + 1, 0, none⟩ = some (.slice x0 x1 x2) ∧ w'.cell? ⟨w.heap.size + 1, 1, none⟩ = some (.slice y0 y1 y2) ∧ w'.cell? ⟨w.heap.size + 1, 2, none⟩ = some (.slice z0 z1 z2) ∧ w'.cell? ⟨w.heap.size + 2, 0, none⟩ = some (.slice u0 u1 u2) ∧ w'.cell? ⟨w.heap.size + 2, 1, none⟩ = some (.slice v0 v1 v2) ∧ w'.cell? ⟨w.heap.size + 2, 2, none⟩ = some (.slice t0 t1 t2)) (by kernel_rfl) ?_
  have hHeld : ((fun (w' : World) => w'.cell? ⟨w.heap.size, 0, none⟩ = some (.slice p0 p1 p2) ∧ w'.cell? ⟨w.heap.size, 1, none⟩ = some (.slice b0 b1 b2) ∧ w'.cell? ⟨w.heap.size + 1, 0, none⟩ = some (.slice x0 x1 x2) ∧ w'.cell? ⟨w.heap.size + 1, 1, none⟩ = some (.slice y0 y1 y2) ∧ w'.cell? ⟨w.heap.size + 1, 2, none⟩ = some (.slice z0 z1 z2) ∧ w'.cell? ⟨w.heap.size + 2, 0, none⟩ = some (.slice u0 u1 u2) ∧ w'.cell? ⟨w.heap.size + 2, 1, none⟩ = some (.slice v0 v1 v2) ∧ w'.cell? ⟨w.heap.size + 2, 2, none⟩ = some (.slice t0 t1 t2))) (World.drew _) := ⟨HF3d.out.cell 0 0 (Nat.le_of_ble_eq_true rfl) (Nat.le_of_ble_eq_true rfl), HF3d.out.cell 0 1 (Nat.le_of_ble_eq_true rfl) (Nat.le_of_ble_eq_true rfl), HF3d.out.cell 1 0 (Nat.le_of_ble_eq_true rfl) (Nat.le_of_ble_eq_true rfl), HF3d.out.cell 1 1 (Nat.le_of_ble_eq_true rfl) (Nat.le_of_ble_eq_true rfl), HF3d.out.cell 1 2 (Nat.le_of_ble_eq_true rfl) (Nat.le_of_ble_eq_true rfl), HF3d.out.cell 2 0 (Nat.le_of_ble_eq_true rfl) (Nat.le_of_ble_eq_true rfl), HF3d.out.cell 2 1 (Nat.le_of_ble_eq_true rfl) (Nat.le_of_ble_eq_true rfl), HF3d.out.cell 2 2 (Nat.le_of_ble_eq_true rfl) (Nat.le_of_ble_eq_true rfl)⟩
  refine wpAnyK_take 0 [11] (v := ?v60) rfl (by kernel_rfl) (fun _ _ _ h => h) (Or.inl ⟨by rfl, ?hy60⟩) hHeld ?_
  case hy60 => (intro w hSw; (try dsimp only at hSw); go_simp; try with_reducible rfl)
  try simp only [Act.put, List.setIfInBounds_toArray, List.set_cons_zero, List.set_cons_succ]
  refine wpAnyK_take0 1 (v := ?v61) rfl (by kernel_rfl) (fun _ _ _ h => h) (Or.inl ⟨by rfl, ?hy61⟩) (fun _ => hHeld) ?_
  case hy61 => (intro w hSw; go_simp; try with_reducible rfl)
  try simp only [Act.put, List.setIfInBounds_toArray, List.set_cons_zero, List.set_cons_succ]
  refine wpAnyK_take 2 [5, 11] (v := ?v62) rfl (by kernel_rfl) (fun _ _ _ h => h) (Or.inl ⟨by rfl, ?hy62⟩) hHeld ?_
  case hy62 => (intro w hSw; (try dsimp only at hSw); go_simp; try with_reducible rfl)
  try simp only [Act.put, List.setIfInBounds_toArray, List.set_cons_zero, List.set_cons_succ]
  refine wpAnyK_take0 3 (v := ?v63) rfl (by kernel_rfl) (fun _ _ _ h => h) (Or.inl ⟨by rfl, ?hy63⟩) (fun _ => hHeld) ?_
  case hy63 => (intro w hSw; go_simp; try with_reducible rfl)
  try simp only [Act.put, List.setIfInBounds_toArray, List.set_cons_zero, List.set_cons_succ]
  refine wpAnyK_take 4 [5, 11] (v := ?v64) rfl (by kernel_rfl) (fun _ _ _ h => h) (Or.inl ⟨by rfl, ?hy64⟩) hHeld ?_
  case hy64 => (intro w hSw; (try dsimp only at hSw); go_simp; try with_reducible rfl)
  try simp only [Act.put, List.setIfInBounds_toArray, List.set_cons_zero, List.set_cons_succ]
  refine wpAnyK_take0 6 (v := ?v65) rfl (by kernel_rfl) (fun _ _ _ h => h) (Or.inl ⟨by rfl, ?hy65⟩) (fun _ => hHeld) ?_
  case hy65 => (intro w hSw; go_simp; try with_reducible rfl)
  try simp only [Act.put, List.setIfInBounds_toArray, List.set_cons_zero, List.set_cons_succ]
  refine wpAnyK_take 7 [10, 11] (v := ?v66) rfl (by kernel_rfl) (fun _ _ _ h => h) (Or.inl ⟨by rfl, ?hy66⟩) hHeld ?_
  case hy66 => (intro w hSw; (try dsimp only at hSw); go_simp; try with_reducible rfl)
  try simp only [Act.put, List.setIfInBounds_toArray, List.set_cons_zero, List.set_cons_succ]
  refine wpAnyK_take0 8 (v := ?v67) rfl (by kernel_rfl) (fun _ _ _ h => h) (Or.inl ⟨by rfl, ?hy67⟩) (fun _ => hHeld) ?_
  case hy67 => (intro w hSw; go_simp; try with_reducible rfl)
  try simp only [Act.put, List.setIfInBounds_toArray, List.set_cons_zero, List.set_cons_succ]
  refine wpAnyK_take 9 [10, 11] (v := ?v68) rfl (by kernel_rfl) (fun _ _ _ h => h) (Or.inl ⟨by rfl, ?hy68⟩) hHeld ?_
  case hy68 => (intro w hSw; (try dsimp only at hSw); go_simp; try with_reducible rfl)
  try simp only [Act.put, List.setIfInBounds_toArray, List.set_cons_zero, List.set_cons_succ]
  refine wpAnyK_step 5 rfl (by kernel_rfl) (fun K hK => ?_)
  go_simp
  refine (nmul_v _ _ X1 Y2 384 384 _ (HF3d.out.arg 2 (Nat.le_of_ble_eq_true rfl)) (HF3d.out.arg 6 (Nat.le_of_ble_eq_true rfl)) (by decide)).mono ?_
  rintro e w4 ⟨r4, rfl, h⟩
  obtain ⟨V4, HV4⟩ : ∃ V, Hid (V = X1 * Y2) := ⟨_, rfl⟩
  rw [← HV4.out] at h
  have HF4 : Hid (Fm _ _ _ _ _) := HF3d.out.step h
  clear h
  try dsimp only
  refine (fun hHeld => hK.out _ _ (fun _ => hHeld) ?_) ⟨HF4.out.cell 0 0 (Nat.le_of_ble_eq_true rfl) (Nat.le_of_ble_eq_true rfl), HF4.out.cell 0 1 (Nat.le_of_ble_eq_true rfl) (Nat.le_of_ble_eq_true rfl), HF4.out.cell 1 0 (Nat.le_of_ble_eq_true rfl) (Nat.le_of_ble_eq_true rfl), HF4.out.cell 1 1 (Nat.le_of_ble_eq_true rfl) (Nat.le_of_ble_eq_true rfl), HF4.out.cell 1 2 (Nat.le_of_ble_eq_true rfl) (Nat.le_of_ble_eq_true rfl), HF4.out.cell 2 0 (Nat.le_of_ble_eq_true rfl) (Nat.le_of_ble_eq_true rfl), HF4.out.cell 2 1 (Nat.le_of_ble_eq_true rfl) (Nat.le_of_ble_eq_true rfl), HF4.out.cell 2 2 (Nat.le_of_ble_eq_true rfl) (Nat.le_of_ble_eq_true rfl)⟩
  clear hK K
  try simp only [Act.put, List.setIfInBounds_toArray, List.set_cons_zero, List.set_cons_succ]
  refine wpAnyK_step 10 rfl (by kernel_rfl) (fun K hK => ?_)
  go_simp
  refine (nmul_v _ _ Y1 X2 384 384 _ (HF4.out.arg 3 (Nat.le_of_ble_eq_true rfl)) (HF4.out.arg 5 (Nat.le_of_ble_eq_true rfl)) (by decide)).mono ?_
  rintro e w5 ⟨r5, rfl, h⟩
  obtain ⟨V5, HV5⟩ : ∃ V, Hid (V = Y1 * X2) := ⟨_, rfl⟩
  rw [← HV5.out] at h
  have HF5 : Hid (Fm _ _ _ _ _) := HF4.out.step h
  clear h
  try dsimp only
  refine (fun hHeld => hK.out _ _ (fun _ => hHeld) ?_) ⟨HF5.out.cell 0 0 (Nat.le_of_ble_eq_true rfl) (Nat.le_of_ble_eq_true rfl), HF5.out.cell 0 1 (Nat.le_of_ble_eq_true rfl) (Nat.le_of_ble_eq_true rfl), HF5.out.cell 1 0 (Nat.le_of_ble_eq_true rfl) (Nat.le_of_ble_eq_true rfl), HF5.out.cell 1 1 (Nat.le_of_ble_eq_true rfl) (Nat.le_of_ble_eq_true rfl), HF5.out.cell 1 2 (Nat.le_of_ble_eq_true rfl) (Nat.le_of_ble_eq_true rfl), HF5.out.cell 2 0 (Nat.le_of_ble_eq_true rfl) (Nat.le_of_ble_eq_true rfl), HF5.out.cell 2 1 (Nat.le_of_ble_eq_true rfl) (Nat.le_of_ble_eq_true rfl), HF5.out.cell 2 2 (Nat.le_of_ble_eq_true rfl) (Nat.le_of_ble_eq_true rfl)⟩
  clear hK K
  try simp only [Act.put, List.setIfInBounds_toArray, List.set_cons_zero, List.set_cons_succ]
  refine wpAnyK_step 11 rfl (by kernel_rfl) (fun K hK => ?_)
  go_simp
  refine (fadd_v _ _ _ _ p V4 V5 768 768 _ Hp.out (HF5.out.arg 0 (Nat.le_of_ble_eq_true rfl)).1 (HF5.out.arg 1 (Nat.le_of_ble_eq_true rfl)).sl (HF5.out.got 1 (Nat.le_of_ble_eq_true rfl)) (HF5.out.got 0 (Nat.le_of_ble_eq_true rfl)) (by decide) (by decide)).mono ?_
  rintro e w6 ⟨r6, rfl, h⟩
  obtain ⟨V6, HV6⟩ : ∃ V, Hid (V = fA p V4 V5) := ⟨_, rfl⟩
  rw [← HV6.out] at h
  have HF6 : Hid (Fm _ _ _ _ _) := HF5.out.step h
  clear h
  try dsimp only
  refine (fun hHeld => hK.out _ _ (fun _ => hHeld) ?_) ⟨HF6.out.cell 0 0 (Nat.le_of_ble_eq_true rfl) (Nat.le_of_ble_eq_true rfl), HF6.out.cell 0 1 (Nat.le_of_ble_eq_true rfl) (Nat.le_of_ble_eq_true rfl), HF6.out.cell 1 0 (Nat.le_of_ble_eq_true rfl) (Nat.le_of_ble_eq_true rfl), HF6.out.cell 1 1 (Nat.le_of_ble_eq_true rfl) (Nat.le_of_ble_eq_true rfl), HF6.out.cell 1 2 (Nat.le_of_ble_eq_true rfl) (Nat.le_of_ble_eq_true rfl), HF6.out.cell 2 0 (Nat.le_of_ble_eq_true rfl) (Nat.le_of_ble_eq_true rfl), HF6.out.cell 2 1 (Nat.le_of_ble_eq_true rfl) (Nat.le_of_ble_eq_true rfl), HF6.out.cell 2 2 (Nat.le_of_ble_eq_true rfl) (Nat.le_of_ble_eq_true rfl)⟩
  clear hK K
  try simp only [Act.put, List.setIfInBounds_toArray, List.set_cons_zero, List.set_cons_succ]
  refine wpAnyK_take0 12 (v := ?v72) rfl (by kernel_rfl) (fun _ _ _ h => h) (Or.inl ⟨by rfl, ?hy72⟩) (fun _ => hHeld) ?_
  case hy72 => (intro w hSw; go_simp; try with_reducible rfl)
  try simp only [Act.put, List.setIfInBounds_toArray, List.set_cons_zero, List.set_cons_succ]
  refine wpAnyK_done (by kernel_rfl) ?_ _
  go_wp2_with fail
  have HF6d : Hid (Fm _ _ _ _ _) := HF6.out.drew
  refine wp_region_K 11 (fun (w' : World) => w'.cell? ⟨w.heap.size, 0, none⟩ = some (.slice p0 p1 p2) ∧ w'.cell? ⟨w.heap.size, 1, none⟩ = some (.slice b0 b1 b2) ∧ w'.cell? ⟨w.heap.size + 1, 0, none⟩ = some (.slice x0 x1 x2) ∧ w'.cell? ⟨w.heap.size + 1, 1, none⟩ = some (.slice y0 y1 y2) ∧ w'.cell? ⟨w.heap.size + 1, 2, none⟩ = some (.slice z0 z1 z2) ∧ w'.cell? ⟨w.heap.size + 2, 0, none⟩ = some (.slice u0 u1 u2) ∧ w'.cell? ⟨w.heap.size + 2, 1, none⟩ = some (.slice v0 v1 v2) ∧ w'.cell? ⟨w.heap.size + 2, 2, none⟩ = some (.slice t0 t1 t2)) (by kernel_rfl) ?_
  have hHeld : ((fun (w' : World) => w'.cell? ⟨w.heap.size, 0, none⟩ = some (.slice p0 p1 p2) ∧ w'.cell? ⟨w.heap.size, 1, none⟩ = some (.slice b0 b1 b2) ∧ w'.cell? ⟨w.heap.size + 1, 0, none⟩ = some (.slice x0 x1 x2) ∧ w'.cell? ⟨w.heap.size + 1, 1, none⟩ = some (.slice y0 y1 y2) ∧ w'.cell? ⟨w.heap.size + 1, 2, none⟩ = some (.slice z0 z1 z2) ∧ w'.cell? ⟨w.heap.size + 2, 0, none⟩ = some (.slice u0 u1 u2) ∧ w'.cell? ⟨w.heap.size + 2, 1, none⟩ = some (.slice v0 v1 v2) ∧ w'.cell? ⟨w.heap.size + 2, 2, none⟩ = some (.slice t0 t1 t2))) (World.drew _) := ⟨HF6d.out.cell 0 0 (Nat.le_of_ble_eq_true rfl) (Nat.le_of_ble_eq_true rfl), HF6d.out.cell 0 1 (Nat.le_of_ble_eq_true rfl) (Nat.le_of_ble_eq_true rfl), HF6d.out.cell 1 0 (Nat.le_of_ble_eq_true rfl) (Nat.le_of_ble_eq_true rfl), HF6d.out.cell 1 1 (Nat.le_of_ble_eq_true rfl) (Nat.le_of_ble_eq_true rfl), HF6d.out.cell 1 2 (Nat.le_of_ble_eq_true rfl) (Nat.le_of_ble_eq_true rfl), HF6d.out.cell 2 0 (Nat.le_of_ble_eq_true rfl) (Nat.le_of_ble_eq_true rfl), HF6d.out.cell 2 1 (Nat.le_of_ble_eq_true rfl) (Nat.le_of_ble_eq_true rfl), HF6d.out.cell 2 2 (Nat.le_of_ble_eq_true rfl) (Nat.le_of_ble_eq_true rfl)⟩
  refine wpAnyK_take 0 [11] (v := ?v73) rfl (by kernel_rfl) (fun _ _ _ h => h) (Or.inl ⟨by rfl, ?hy73⟩) hHeld ?_
  case hy73 => (intro w hSw; (try dsimp only at hSw); go_simp; try with_reducible rfl)
  try simp only [Act.put, List.setIfInBounds_toArray, List.set_cons_zero, List.set_cons_succ]
  refine wpAnyK_take0 1 (v := ?v74) rfl (by kernel_rfl) (fun _ _ _ h => h) (Or.inl ⟨by rfl, ?hy74⟩) (fun _ => hHeld) ?_
  case hy74 => (intro w hSw; go_simp; try with_reducible rfl)
  try simp only [Act.put, List.setIfInBounds_toArray, List.set_cons_zero, List.set_cons_succ]
  refine wpAnyK_take 2 [5, 11] (v := ?v75) rfl (by kernel_rfl) (fun _ _ _ h => h) (Or.inl ⟨by rfl, ?hy75⟩) hHeld ?_
  case hy75 => (intro w hSw; (try dsimp only at hSw); go_simp; try with_reducible rfl)
  try simp only [Act.put, List.setIfInBounds_toArray, List.set_cons_zero, List.set_cons_succ]
  refine wpAnyK_take0 3 (v := ?v76) rfl (by kernel_rfl) (fun _ _ _ h => h) (Or.inl ⟨by rfl, ?hy76⟩) (fun _ => hHeld) ?_
  case hy76 => (intro w hSw; go_simp; try with_reducible rfl)
  try simp only [Act.put, List.setIfInBounds_toArray, List.set_cons_zero, List.set_cons_succ]
  refine wpAnyK_take 4 [5, 11] (v := ?v77) rfl (by kernel_rfl) (fun _ _ _ h => h) (Or.inl ⟨by rfl, ?hy77⟩) hHeld ?_
  case hy77 => (intro w hSw; (try dsimp only at hSw); go_simp; try with_reducible rfl)
  try simp only [Act.put, List.setIfInBounds_toArray, List.set_cons_zero, List.set_cons_succ]
  refine wpAnyK_take0 6 (v := ?v78) rfl (by kernel_rfl) (fun _ _ _ h => h) (Or.inl ⟨by rfl, ?hy78⟩) (fun _ => hHeld) ?_
  case hy78 => (intro w hSw; go_simp; try with_reducible rfl)
  try simp only [Act.put, List.setIfInBounds_toArray, List.set_cons_zero, List.set_cons_succ]
  refine wpAnyK_take 7 [10, 11] (v := ?v79) rfl (by kernel_rfl) (fun _ _ _ h => h) (Or.inl ⟨by rfl, ?hy79⟩) hHeld ?_
  case hy79 => (intro w hSw; (try dsimp only at hSw); go_simp; try with_reducible rfl)
  try simp only [Act.put, List.setIfInBounds_toArray, List.set_cons_zero, List.set_cons_succ]
  refine wpAnyK_take0 8 (v := ?v80) rfl (by kernel_rfl) (fun _ _ _ h => h) (Or.inl ⟨by rfl, ?hy80⟩) (fun _ => hHeld) ?_
  case hy80 => (intro w hSw; go_simp; try with_reducible rfl)
  try simp only [Act.put, List.setIfInBounds_toArray, List.set_cons_zero, List.set_cons_succ]
  refine wpAnyK_take 9 [10, 11] (v := ?v81) rfl (by kernel_rfl) (fun _ _ _ h => h) (Or.inl ⟨by rfl, ?hy81⟩) hHeld ?_
  case hy81 => (intro w hSw; (try dsimp only at hSw); go_simp; try with_reducible rfl)
  try simp only [Act.put, List.setIfInBounds_toArray, List.set_cons_zero, List.set_cons_succ]
  refine wpAnyK_step 5 rfl (by kernel_rfl) (fun K hK => ?_)
  go_simp
  refine (nmul_v _ _ X1 Z2 384 384 _ (HF6d.out.arg 2 (Nat.le_of_ble_eq_true rfl)) (HF6d.out.arg 7 (Nat.le_of_ble_eq_true rfl)) (by decide)).mono ?_
  rintro e w7 ⟨r7, rfl, h⟩
  obtain ⟨V7, HV7⟩ : ∃ V, Hid (V = X1 * Z2) := ⟨_, rfl⟩
  rw [← HV7.out] at h
  have HF7 : Hid (Fm _ _ _ _ _) := HF6d.out.step h
  clear h
  try dsimp only
  refine (fun hHeld => hK.out _ _ (fun _ => hHeld) ?_) ⟨HF7.out.cell 0 0 (Nat.le_of_ble_eq_true rfl) (Nat.le_of_ble_eq_true rfl), HF7.out.cell 0 1 (Nat.le_of_ble_eq_true rfl) (Nat.le_of_ble_eq_true rfl), HF7.out.cell 1 0 (Nat.le_of_ble_eq_true rfl) (Nat.le_of_ble_eq_true rfl), HF7.out.cell 1 1 (Nat.le_of_ble_eq_true rfl) (Nat.le_of_ble_eq_true rfl), HF7.out.cell 1 2 (Nat.le_of_ble_eq_true rfl) (Nat.le_of_ble_eq_true rfl), HF7.out.cell 2 0 (Nat.le_of_ble_eq_true rfl) (Nat.le_of_ble_eq_true rfl), HF7.out.cell 2 1 (Nat.le_of_ble_eq_true rfl) (Nat.le_of_ble_eq_true rfl), HF7.out.cell 2 2 (Nat.le_of_ble_eq_true rfl) (Nat.le_of_ble_eq_true rfl)⟩
  clear hK K
  try simp only [Act.put, List.setIfInBounds_toArray, List.set_cons_zero, List.set_cons_succ]
  refine wpAnyK_step 10 rfl (by kernel_rfl) (fun K hK => ?_)
  go_simp
  refine (nmul_v _ _ Z1 X2 384 384 _ (HF7.out.arg 4 (Nat.le_of_ble_eq_true rfl)) (HF7.out.arg 5 (Nat.le_of_ble_eq_true rfl)) (by decide)).mono ?_
  rintro e w8 ⟨r8, rfl, h⟩
  obtain ⟨V8, HV8⟩ : ∃ V, Hid (V = Z1 * X2) := ⟨_, rfl⟩
  rw [← HV8.out] at h
  have HF8 : Hid (Fm _ _ _ _ _) := HF7.out.step h
  clear h
  try dsimp only
  refine (fun hHeld => hK.out _ _ (fun _ => hHeld) ?_) ⟨HF8.out.cell 0 0 (Nat.le_of_ble_eq_true rfl) (Nat.le_of_ble_eq_true rfl), HF8.out.cell 0 1 (Nat.le_of_ble_eq_true rfl) (Nat.le_of_ble_eq_true rfl), HF8.out.cell 1 0 (Nat.le_of_ble_eq_true rfl) (Nat.le_of_ble_eq_true rfl), HF8.out.cell 1 1 (Nat.le_of_ble_eq_true rfl) (Nat.le_of_ble_eq_true rfl), HF8.out.cell 1 2 (Nat.le_of_ble_eq_true rfl) (Nat.le_of_ble_eq_true rfl), HF8.out.cell 2 0 (Nat.le_of_ble_eq_true rfl) (Nat.le_of_ble_eq_true rfl), HF8.out.cell 2 1 (Nat.le_of_ble_eq_true rfl) (Nat.le_of_ble_eq_true rfl), HF8.out.cell 2 2 (Nat.le_of_ble_eq_true rfl) (Nat.le_of_ble_eq_true rfl)⟩
  clear hK K
  try simp only [Act.put, List.setIfInBounds_toArray, List.set_cons_zero, List.set_cons_succ]
  refine wpAnyK_step 11 rfl (by kernel_rfl) (fun K hK => ?_)
  go_simp
  refine (fadd_v _ _ _ _ p V7 V8 768 768 _ Hp.out (HF8.out.arg 0 (Nat.le_of_ble_eq_true rfl)).1 (HF8.out.arg 1 (Nat.le_of_ble_eq_true rfl)).sl (HF8.out.got 1 (Nat.le_of_ble_eq_true rfl)) (HF8.out.got 0 (Nat.le_of_ble_eq_true rfl)) (by decide) (by decide)).mono ?_
  rintro e w9 ⟨r9, rfl, h⟩
  obtain ⟨V9, HV9⟩ : ∃ V, Hid (V = fA p V7 V8) := ⟨_, rfl⟩
  rw [← HV9.out] at h
  have HF9 : Hid (Fm _ _ _ _ _) := HF8.out.step h
  clear h
  try dsimp only
  refine (fun hHeld => hK.out _ _ (fun _ => hHeld) ?_) ⟨HF9.out.cell 0 0 (Nat.le_of_ble_eq_true rfl) (Nat.le_of_ble_eq_true rfl), HF9.out.cell 0 1 (Nat.le_of_ble_eq_true rfl) (Nat.le_of_ble_eq_true rfl), HF9.out.cell 1 0 (Nat.le_of_ble_eq_true rfl) (Nat.le_of_ble_eq_true rfl), HF9.out.cell 1 1 (Nat.le_of_ble_eq_true rfl) (Nat.le_of_ble_eq_true rfl), HF9.out.cell 1 2 (Nat.le_of_ble_eq_true rfl) (Nat.le_of_ble_eq_true rfl), HF9.out.cell 2 0 (Nat.le_of_ble_eq_true rfl) (Nat.le_of_ble_eq_true rfl), HF9.out.cell 2 1 (Nat.le_of_ble_eq_true rfl) (Nat.le_of_ble_eq_true rfl), HF9.out.cell 2 2 (Nat.le_of_ble_eq_true rfl) (Nat.le_of_ble_eq_true rfl)⟩
  clear hK K
  try simp only [Act.put, List.setIfInBounds_toArray, List.set_cons_zero, List.set_cons_succ]
  refine wpAnyK_take0 12 (v := ?v85) rfl (by kernel_rfl) (fun _ _ _ h => h) (Or.inl ⟨by rfl, ?hy85⟩) (fun _ => hHeld) ?_
  case hy85 => (intro w hSw; go_simp; try with_reducible rfl)
  try simp only [Act.put, List.setIfInBounds_toArray, List.set_cons_zero, List.set_cons_succ]
  refine wpAnyK_done (by kernel_rfl) ?_ _
  go_wp2_with fail
  have HF9d : Hid (Fm _ _ _ _ _) := HF9.out.drew
  refine wp_region_K 11 (fun (w' : World) => w'.cell? ⟨w.heap.size, 0, none⟩ = some (.slice p0 p1 p2) ∧ w'.cell? ⟨w.heap.size, 1, none⟩ = some (.slice b0 b1 b2) ∧ w'.cell? ⟨w.heap.size + 1, 0, none⟩ = some (.slice x0 x1 x2) ∧ w'.cell? ⟨w.heap.size + 1, 1, none⟩ = some (.slice y0 y1 y2) ∧ w'.cell? ⟨w.heap.size + 1, 2, none⟩ = some (.slice z0 z1 z2) ∧ w'.cell? ⟨w.heap.size + 2, 0, none⟩ = some (.slice u0 u1 u2) ∧ w'.cell? ⟨w.heap.size + 2, 1, none⟩ = some (.slice v0 v1 v2) ∧ w'.cell? ⟨w.heap.size + 2, 2, none⟩ = some (.slice t0 t1 t2)) (by kernel_rfl) ?_
  have hHeld : ((fun (w' : World) => w'.cell? ⟨w.heap.size, 0, none⟩ = some (.slice p0 p1 p2) ∧ w'.cell? ⟨w.heap.size, 1, none⟩ = some (.slice b0 b1 b2) ∧ w'.cell? ⟨w.heap.size + 1, 0, none⟩ = some (.slice x0 x1 x2) ∧ w'.cell? ⟨w.heap.size + 1, 1, none⟩ = some (.slice y0 y1 y2) ∧ w'.cell? ⟨w.heap.size + 1, 2, none⟩ = some (.slice z0 z1 z2) ∧ w'.cell? ⟨w.heap.size + 2, 0, none⟩ = some (.slice u0 u1 u2) ∧ w'.cell? ⟨w.heap.size + 2, 1, none⟩ = some (.slice v0 v1 v2) ∧ w'.cell? ⟨w.heap.size + 2, 2, none⟩ = some (.slice t0 t1 t2))) (World.drew _) := ⟨HF9d.out.cell 0 0 (Nat.le_of_ble_eq_true rfl) (Nat.le_of_ble_eq_true rfl), HF9d.out.cell 0 1 (Nat.le_of_ble_eq_true rfl) (Nat.le_of_ble_eq_true rfl), HF9d.out.cell 1 0 (Nat.le_of_ble_eq_true rfl) (Nat.le_of_ble_eq_true rfl), HF9d.out.cell 1 1 (Nat.le_of_ble_eq_true rfl) (Nat.le_of_ble_eq_true rfl), HF9d.out.cell 1 2 (Nat.le_of_ble_eq_true rfl) (Nat.le_of_ble_eq_true rfl), HF9d.out.cell 2 0 (Nat.le_of_ble_eq_true rfl) (Nat.le_of_ble_eq_true rfl), HF9d.out.cell 2 1 (Nat.le_of_ble_eq_true rfl) (Nat.le_of_ble_eq_true rfl), HF9d.out.cell 2 2 (Nat.le_of_ble_eq_true rfl) (Nat.le_of_ble_eq_true rfl)⟩
  refine wpAnyK_take 0 [11] (v := ?v86) rfl (by kernel_rfl) (fun _ _ _ h => h) (Or.inl ⟨by rfl, ?hy86⟩) hHeld ?_
  case hy86 => (intro w hSw; (try dsimp only at hSw); go_simp; try with_reducible rfl)
  try simp only [Act.put, List.setIfInBounds_toArray, List.set_cons_zero, List.set_cons_succ]
  refine wpAnyK_take0 1 (v := ?v87) rfl (by kernel_rfl) (fun _ _ _ h => h) (Or.inl ⟨by rfl, ?hy87⟩) (fun _ => hHeld) ?_
  case hy87 => (intro w hSw; go_simp; try with_reducible rfl)
  try simp only [Act.put, List.setIfInBounds_toArray, List.set_cons_zero, List.set_cons_succ]
  refine wpAnyK_take 2 [5, 11] (v := ?v88) rfl (by kernel_rfl) (fun _ _ _ h => h) (Or.inl ⟨by rfl, ?hy88⟩) hHeld ?_
  case hy88 => (intro w hSw; (try dsimp only at hSw); go_simp; try with_reducible rfl)
  try simp only [Act.put, List.setIfInBounds_toArray, List.set_cons_zero, List.set_cons_succ]
  refine wpAnyK_take0 3 (v := ?v89) rfl (by kernel_rfl) (fun _ _ _ h => h) (Or.inl ⟨by rfl, ?hy89⟩) (fun _ => hHeld) ?_
  case hy89 => (intro w hSw; go_simp; try with_reducible rfl)
  try simp only [Act.put, List.setIfInBounds_toArray, List.set_cons_zero, List.set_cons_succ]
  refine wpAnyK_take 4 [5, 11] (v := ?v90) rfl (by kernel_rfl) (fun _ _ _ h => h) (Or.inl ⟨by rfl, ?hy90⟩) hHeld ?_
  case hy90 => (intro w hSw; (try dsimp only at hSw); go_simp; try with_reducible rfl)
  try simp only [Act.put, List.setIfInBounds_toArray, List.set_cons_zero, List.set_cons_succ]
  refine wpAnyK_take0 6 (v := ?v91) rfl (by kernel_rfl) (fun _ _ _ h => h) (Or.inl ⟨by rfl, ?hy91⟩) (fun _ => hHeld) ?_
  case hy91 => (intro w hSw; go_simp; try with_reducible rfl)
  try simp only [Act.put, List.setIfInBounds_toArray, List.set_cons_zero, List.set_cons_succ]
  refine wpAnyK_take 7 [10, 11] (v := ?v92) rfl (by kernel_rfl) (fun _ _ _ h => h) (Or.inl ⟨by rfl, ?hy92⟩) hHeld ?_
  case hy92 => (intro w hSw; (try dsimp only at hSw); go_simp; try with_reducible rfl)
  try simp only [Act.put, List.setIfInBounds_toArray, List.set_cons_zero, List.set_cons_succ]
  refine wpAnyK_take0 8 (v := ?v93) rfl (by kernel_rfl) (fun _ _ _ h => h) (Or.inl ⟨by rfl, ?hy93⟩) (fun _ => hHeld) ?_
  case hy93 => (intro w hSw; go_simp; try with_reducible rfl)
  try simp only [Act.put, List.setIfInBounds_toArray, List.set_cons_zero, List.set_cons_succ]
  refine wpAnyK_take 9 [10, 11] (v := ?v94) rfl (by kernel_rfl) (fun _ _ _ h => h) (Or.inl ⟨by rfl, ?hy94⟩) hHeld ?_
  case hy94 => (intro w hSw; (try dsimp only at hSw); go_simp; try with_reducible rfl)
  try simp only [Act.put, List.setIfInBounds_toArray, List.set_cons_zero, List.set_cons_succ]
  refine wpAnyK_step 5 rfl (by kernel_rfl) (fun K hK => ?_)
  go_simp
  refine (nmul_v _ _ Y1 Z2 384 384 _ (HF9d.out.arg 3 (Nat.le_of_ble_eq_true rfl)) (HF9d.out.arg 7 (Nat.le_of_ble_eq_true rfl)) (by decide)).mono ?_
  rintro e w10 ⟨r10, rfl, h⟩
  obtain ⟨V10, HV10⟩ : ∃ V, Hid (V = Y1 * Z2) := ⟨_, rfl⟩
  rw [← HV10.out] at h
  have HF10 : Hid (Fm _ _ _ _ _) := HF9d.out.step h
  clear h
  try dsimp only
  refine (fun hHeld => hK.out _ _ (fun _ => hHeld) ?_) ⟨HF10.out.cell 0 0 (Nat.le_of_ble_eq_true rfl) (Nat.le_of_ble_eq_true rfl), HF10.out.cell 0 1 (Nat.le_of_ble_eq_true rfl) (Nat.le_of_ble_eq_true rfl), HF10.out.cell 1 0 (Nat.le_of_ble_eq_true rfl) (Nat.le_of_ble_eq_true rfl), HF10.out.cell 1 1 (Nat.le_of_ble_eq_true rfl) (Nat.le_of_ble_eq_true rfl), HF10.out.cell 1 2 (Nat.le_of_ble_eq_true rfl) (Nat.le_of_ble_eq_true rfl), HF10.out.cell 2 0 (Nat.le_of_ble_eq_true rfl) (Nat.le_of_ble_eq_true rfl), HF10.out.cell 2 1 (Nat.le_of_ble_eq_true rfl) (Nat.le_of_ble_eq_true rfl), HF10.out.cell 2 2 (Nat.le_of_ble_eq_true rfl) (Nat.le_of_ble_eq_true rfl)⟩
  clear hK K
  try simp only [Act.put, List.setIfInBounds_toArray, List.set_cons_zero, List.set_cons_succ]
  refine wpAnyK_step 10 rfl (by kernel_rfl) (fun K hK => ?_)
  go_simp
  refine (nmul_v _ _ Z1 Y2 384 384 _ (HF10.out.arg 4 (Nat.le_of_ble_eq_true rfl)) (HF10.out.arg 6 (Nat.le_of_ble_eq_true rfl)) (by decide)).mono ?_
  rintro e w11 ⟨r11, rfl, h⟩
  obtain ⟨V11, HV11⟩ : ∃ V, Hid (V = Z1 * Y2) := ⟨_, rfl⟩
  rw [← HV11.out] at h
  have HF11 : Hid (Fm _ _ _ _ _) := HF10.out.step h
  clear h
  try dsimp only
  refine (fun hHeld => hK.out _ _ (fun _ => hHeld) ?_) ⟨HF11.out.cell 0 0 (Nat.le_of_ble_eq_true rfl) (Nat.le_of_ble_eq_true rfl), HF11.out.cell 0 1 (Nat.le_of_ble_eq_true rfl) (Nat.le_of_ble_eq_true rfl), HF11.out.cell 1 0 (Nat.le_of_ble_eq_true rfl) (Nat.le_of_ble_eq_true rfl), HF11.out.cell 1 1 (Nat.le_of_ble_eq_true rfl) (Nat.le_of_ble_eq_true rfl), HF11.out.cell 1 2 (Nat.le_of_ble_eq_true rfl) (Nat.le_of_ble_eq_true rfl), HF11.out.cell 2 0 (Nat.le_of_ble_eq_true rfl) (Nat.le_of_ble_eq_true rfl), HF11.out.cell 2 1 (Nat.le_of_ble_eq_true rfl) (Nat.le_of_ble_eq_true rfl), HF11.out.cell 2 2 (Nat.le_of_ble_eq_true rfl) (Nat.le_of_ble_eq_true rfl)⟩
  clear hK K
  try simp only [Act.put, List.setIfInBounds_toArray, List.set_cons_zero, List.set_cons_succ]
  refine wpAnyK_step 11 rfl (by kernel_rfl) (fun K hK => ?_)
  go_simp
  refine (fadd_v _ _ _ _ p V10 V11 768 768 _ Hp.out (HF11.out.arg 0 (Nat.le_of_ble_eq_true rfl)).1 (HF11.out.arg 1 (Nat.le_of_ble_eq_true rfl)).sl (HF11.out.got 1 (Nat.le_of_ble_eq_true rfl)) (HF11.out.got 0 (Nat.le_of_ble_eq_true rfl)) (by decide) (by decide)).mono ?_
  rintro e w12 ⟨r12, rfl, h⟩
  obtain ⟨V12, HV12⟩ : ∃ V, Hid (V = fA p V10 V11) := ⟨_, rfl⟩
  rw [← HV12.out] at h
  have HF12 : Hid (Fm _ _ _ _ _) := HF11.out.step h
  clear h
  try dsimp only
  refine (fun hHeld => hK.out _ _ (fun _ => hHeld) ?_) ⟨HF12.out.cell 0 0 (Nat.le_of_ble_eq_true rfl) (Nat.le_of_ble_eq_true rfl), HF12.out.cell 0 1 (Nat.le_of_ble_eq_true rfl) (Nat.le_of_ble_eq_true rfl), HF12.out.cell 1 0 (Nat.le_of_ble_eq_true rfl) (Nat.le_of_ble_eq_true rfl), HF12.out.cell 1 1 (Nat.le_of_ble_eq_true rfl) (Nat.le_of_ble_eq_true rfl), HF12.out.cell 1 2 (Nat.le_of_ble_eq_true rfl) (Nat.le_of_ble_eq_true rfl), HF12.out.cell 2 0 (Nat.le_of_ble_eq_true rfl) (Nat.le_of_ble_eq_true rfl), HF12.out.cell 2 1 (Nat.le_of_ble_eq_true rfl) (Nat.le_of_ble_eq_true rfl), HF12.out.cell 2 2 (Nat.le_of_ble_eq_true rfl) (Nat.le_of_ble_eq_true rfl)⟩
  clear hK K
  try simp only [Act.put, List.setIfInBounds_toArray, List.set_cons_zero, List.set_cons_succ]
  refine wpAnyK_take0 12 (v := ?v98) rfl (by kernel_rfl) (fun _ _ _ h => h) (Or.inl ⟨by rfl, ?hy98⟩) (fun _ => hHeld) ?_
  case hy98 => (intro w hSw; go_simp; try with_reducible rfl)
  try simp only [Act.put, List.setIfInBounds_toArray, List.set_cons_zero, List.set_cons_succ]
  refine wpAnyK_done (by kernel_rfl) ?_ _
  skip
  have c0_0 : w12.cell? ⟨w.heap.size, 0, none⟩ = some (.slice p0 p1 p2) := HF12.out.cell 0 0 (Nat.le_of_ble_eq_true rfl) (Nat.le_of_ble_eq_true rfl)
  have c0_1 : w12.cell? ⟨w.heap.size, 1, none⟩ = some (.slice b0 b1 b2) := HF12.out.cell 0 1 (Nat.le_of_ble_eq_true rfl) (Nat.le_of_ble_eq_true rfl)
  have c1_0 : w12.cell? ⟨w.heap.size + 1, 0, none⟩ = some (.slice x0 x1 x2) := HF12.out.cell 1 0 (Nat.le_of_ble_eq_true rfl) (Nat.le_of_ble_eq_true rfl)
  have c1_1 : w12.cell? ⟨w.heap.size + 1, 1, none⟩ = some (.slice y0 y1 y2) := HF12.out.cell 1 1 (Nat.le_of_ble_eq_true rfl) (Nat.le_of_ble_eq_true rfl)
  have c1_2 : w12.cell? ⟨w.heap.size + 1, 2, none⟩ = some (.slice z0 z1 z2) := HF12.out.cell 1 2 (Nat.le_of_ble_eq_true rfl) (Nat.le_of_ble_eq_true rfl)
  have c2_0 : w12.cell? ⟨w.heap.size + 2, 0, none⟩ = some (.slice u0 u1 u2) := HF12.out.cell 2 0 (Nat.le_of_ble_eq_true rfl) (Nat.le_of_ble_eq_true rfl)
  have c2_1 : w12.cell? ⟨w.heap.size + 2, 1, none⟩ = some (.slice v0 v1 v2) := HF12.out.cell 2 1 (Nat.le_of_ble_eq_true rfl) (Nat.le_of_ble_eq_true rfl)
  have c2_2 : w12.cell? ⟨w.heap.size + 2, 2, none⟩ = some (.slice t0 t1 t2) := HF12.out.cell 2 2 (Nat.le_of_ble_eq_true rfl) (Nat.le_of_ble_eq_true rfl)
  go_wp2_with fail
  refine (fsub_v _ _ _ _ p V1 V3 384 384 _ Hp.out (HF12.out.arg 0 (Nat.le_of_ble_eq_true rfl)).1 (HF12.out.arg 1 (Nat.le_of_ble_eq_true rfl)).sl (HF12.out.got 11 (Nat.le_of_ble_eq_true rfl)) (HF12.out.got 9 (Nat.le_of_ble_eq_true rfl)) (by decide) (by decide)).mono ?_
  rintro e w13 ⟨r13, rfl, h⟩
  obtain ⟨V13, HV13⟩ : ∃ V, Hid (V = fS p V1 V3) := ⟨_, rfl⟩
  rw [← HV13.out] at h
  have HF13 : Hid (Fm _ _ _ _ _) := HF12.out.step h
  clear h
  clear c0_0 c0_1 c1_0 c1_1 c1_2 c2_0 c2_1 c2_2
  have c0_0 : w13.cell? ⟨w.heap.size, 0, none⟩ = some (.slice p0 p1 p2) := HF13.out.cell 0 0 (Nat.le_of_ble_eq_true rfl) (Nat.le_of_ble_eq_true rfl)
  have c0_1 : w13.cell? ⟨w.heap.size, 1, none⟩ = some (.slice b0 b1 b2) := HF13.out.cell 0 1 (Nat.le_of_ble_eq_true rfl) (Nat.le_of_ble_eq_true rfl)
  have c1_0 : w13.cell? ⟨w.heap.size + 1, 0, none⟩ = some (.slice x0 x1 x2) := HF13.out.cell 1 0 (Nat.le_of_ble_eq_true rfl) (Nat.le_of_ble_eq_true rfl)
  have c1_1 : w13.cell? ⟨w.heap.size + 1, 1, none⟩ = some (.slice y0 y1 y2) := HF13.out.cell 1 1 (Nat.le_of_ble_eq_true rfl) (Nat.le_of_ble_eq_true rfl)
  have c1_2 : w13.cell? ⟨w.heap.size + 1, 2, none⟩ = some (.slice z0 z1 z2) := HF13.out.cell 1 2 (Nat.le_of_ble_eq_true rfl) (Nat.le_of_ble_eq_true rfl)
  have c2_0 : w13.cell? ⟨w.heap.size + 2, 0, none⟩ = some (.slice u0 u1 u2) := HF13.out.cell 2 0 (Nat.le_of_ble_eq_true rfl) (Nat.le_of_ble_eq_true rfl)
  have c2_1 : w13.cell? ⟨w.heap.size + 2, 1, none⟩ = some (.slice v0 v1 v2) := HF13.out.cell 2 1 (Nat.le_of_ble_eq_true rfl) (Nat.le_of_ble_eq_true rfl)
  have c2_2 : w13.cell? ⟨w.heap.size + 2, 2, none⟩ = some (.slice t0 t1 t2) := HF13.out.cell 2 2 (Nat.le_of_ble_eq_true rfl) (Nat.le_of_ble_eq_true rfl)
  go_wp2_with fail
  refine (thrice_v _ V13 384 _ (HF13.out.got 0 (Nat.le_of_ble_eq_true rfl)) (by decide)).mono ?_
  rintro e w14 ⟨r14, rfl, h⟩
  obtain ⟨V14, HV14⟩ : ∃ V, Hid (V = V13 * 3) := ⟨_, rfl⟩
  rw [← HV14.out] at h
  have HF14 : Hid (Fm _ _ _ _ _) := HF13.out.step h
  clear h
  clear c0_0 c0_1 c1_0 c1_1 c1_2 c2_0 c2_1 c2_2
  go_wp2_with fail
  have HF14d : Hid (Fm _ _ _ _ _) := HF14.out.drew
  refine wp_region_K 7 (fun (w' : World) => w'.cell? ⟨w.heap.size, 0, none⟩ = some (.slice p0 p1 p2) ∧ w'.cell? ⟨w.heap.size, 1, none⟩ = some (.slice b0 b1 b2) ∧ w'.cell? ⟨w.heap.size + 1, 0, none⟩ = some (.slice x0 x1 x2) ∧ w'.cell? ⟨w.heap.size + 1, 1, none⟩ = some (.slice y0 y1 y2) ∧ w'.cell? ⟨w.heap.size + 1, 2, none⟩ = some (.slice z0 z1 z2) ∧ w'.cell? ⟨w.heap.size + 2, 0, none⟩ = some (.slice u0 u1 u2) ∧ w'.cell? ⟨w.heap.size + 2, 1, none⟩ = some (.slice v0 v1 v2) ∧ w'.cell? ⟨w.heap.size + 2, 2, none⟩ = some (.slice t0 t1 t2)) (by kernel_rfl) ?_
  have hHeld : ((fun (w' : World) => w'.cell? ⟨w.heap.size, 0, none⟩ = some (.slice p0 p1 p2) ∧ w'.cell? ⟨w.heap.size, 1, none⟩ = some (.slice b0 b1 b2) ∧ w'.cell? ⟨w.heap.size + 1, 0, none⟩ = some (.slice x0 x1 x2) ∧ w'.cell? ⟨w.heap.size + 1, 1, none⟩ = some (.slice y0 y1 y2) ∧ w'.cell? ⟨w.heap.size + 1, 2, none⟩ = some (.slice z0 z1 z2) ∧ w'.cell? ⟨w.heap.size + 2, 0, none⟩ = some (.slice u0 u1 u2) ∧ w'.cell? ⟨w.heap.size + 2, 1, none⟩ = some (.slice v0 v1 v2) ∧ w'.cell? ⟨w.heap.size + 2, 2, none⟩ = some (.slice t0 t1 t2))) (World.drew _) := ⟨HF14d.out.cell 0 0 (Nat.le_of_ble_eq_true rfl) (Nat.le_of_ble_eq_true rfl), HF14d.out.cell 0 1 (Nat.le_of_ble_eq_true rfl) (Nat.le_of_ble_eq_true rfl), HF14d.out.cell 1 0 (Nat.le_of_ble_eq_true rfl) (Nat.le_of_ble_eq_true rfl), HF14d.out.cell 1 1 (Nat.le_of_ble_eq_true rfl) (Nat.le_of_ble_eq_true rfl), HF14d.out.cell 1 2 (Nat.le_of_ble_eq_true rfl) (Nat.le_of_ble_eq_true rfl), HF14d.out.cell 2 0 (Nat.le_of_ble_eq_true rfl) (Nat.le_of_ble_eq_true rfl), HF14d.out.cell 2 1 (Nat.le_of_ble_eq_true rfl) (Nat.le_of_ble_eq_true rfl), HF14d.out.cell 2 2 (Nat.le_of_ble_eq_true rfl) (Nat.le_of_ble_eq_true rfl)⟩
  refine wpAnyK_take 0 [6, 7] (v := ?v99) rfl (by kernel_rfl) (fun _ _ _ h => h) (Or.inl ⟨by rfl, ?hy99⟩) hHeld ?_
  case hy99 => (intro w hSw; (try dsimp only at hSw); go_simp; try with_reducible rfl)
  try simp only [Act.put, List.setIfInBounds_toArray, List.set_cons_zero, List.set_cons_succ]
  refine wpAnyK_take0 1 (v := ?v100) rfl (by kernel_rfl) (fun _ _ _ h => h) (Or.inl ⟨by rfl, ?hy100⟩) (fun _ => hHeld) ?_
  case hy100 => (intro w hSw; go_simp; try with_reducible rfl)
  try simp only [Act.put, List.setIfInBounds_toArray, List.set_cons_zero, List.set_cons_succ]
  refine wpAnyK_take 2 [4, 6, 7] (v := ?v101) rfl (by kernel_rfl) (fun _ _ _ h => h) (Or.inl ⟨by rfl, ?hy101⟩) hHeld ?_
  case hy101 => (intro w hSw; (try dsimp only at hSw); go_simp; try with_reducible rfl)
  try simp only [Act.put, List.setIfInBounds_toArray, List.set_cons_zero, List.set_cons_succ]
  refine wpAnyK_take0 3 (v := ?v102) rfl (by kernel_rfl) (fun _ _ _ h => h) (Or.inl ⟨by rfl, ?hy102⟩) (fun _ => hHeld) ?_
  case hy102 => (intro w hSw; go_simp; try with_reducible rfl)
  try simp only [Act.put, List.setIfInBounds_toArray, List.set_cons_zero, List.set_cons_succ]
  refine wpAnyK_take0 5 (v := ?v103) rfl (by kernel_rfl) (fun _ _ _ h => h) (Or.inl ⟨by rfl, ?hy103⟩) (fun _ => hHeld) ?_
  case hy103 => (intro w hSw; go_simp; try with_reducible rfl)
  try simp only [Act.put, List.setIfInBounds_toArray, List.set_cons_zero, List.set_cons_succ]
  refine wpAnyK_step 4 rfl (by kernel_rfl) (fun K hK => ?_)
  go_simp
  refine (nmul_v _ _ B V3 384 384 _ (HF14d.out.arg 1 (Nat.le_of_ble_eq_true rfl)) (HF14d.out.got 11 (Nat.le_of_ble_eq_true rfl)) (by decide)).mono ?_
  rintro e w15 ⟨r15, rfl, h⟩
  obtain ⟨V15, HV15⟩ : ∃ V, Hid (V = B * V3) := ⟨_, rfl⟩
  rw [← HV15.out] at h
  have HF15 : Hid (Fm _ _ _ _ _) := HF14d.out.step h
  clear h
  try dsimp only
  refine (fun hHeld => hK.out _ _ (fun _ => hHeld) ?_) ⟨HF15.out.cell 0 0 (Nat.le_of_ble_eq_true rfl) (Nat.le_of_ble_eq_true rfl), HF15.out.cell 0 1 (Nat.le_of_ble_eq_true rfl) (Nat.le_of_ble_eq_true rfl), HF15.out.cell 1 0 (Nat.le_of_ble_eq_true rfl) (Nat.le_of_ble_eq_true rfl), HF15.out.cell 1 1 (Nat.le_of_ble_eq_true rfl) (Nat.le_of_ble_eq_true rfl), HF15.out.cell 1 2 (Nat.le_of_ble_eq_true rfl) (Nat.le_of_ble_eq_true rfl), HF15.out.cell 2 0 (Nat.le_of_ble_eq_true rfl) (Nat.le_of_ble_eq_true rfl), HF15.out.cell 2 1 (Nat.le_of_ble_eq_true rfl) (Nat.le_of_ble_eq_true rfl), HF15.out.cell 2 2 (Nat.le_of_ble_eq_true rfl) (Nat.le_of_ble_eq_true rfl)⟩
  clear hK K
  try simp only [Act.put, List.setIfInBounds_toArray, List.set_cons_zero, List.set_cons_succ]
  refine wpAnyK_step 6 rfl (by kernel_rfl) (fun K hK => ?_)
  go_simp
  refine (fsub_v _ _ _ _ p V15 V9 768 384 _ Hp.out (HF15.out.arg 0 (Nat.le_of_ble_eq_true rfl)).1 (HF15.out.arg 1 (Nat.le_of_ble_eq_true rfl)).sl (HF15.out.got 0 (Nat.le_of_ble_eq_true rfl)) (HF15.out.got 6 (Nat.le_of_ble_eq_true rfl)) (by decide) (by decide)).mono ?_
  rintro e w16 ⟨r16, rfl, h⟩
  obtain ⟨V16, HV16⟩ : ∃ V, Hid (V = fS p V15 V9) := ⟨_, rfl⟩
  rw [← HV16.out] at h
  have HF16 : Hid (Fm _ _ _ _ _) := HF15.out.step h
  clear h
  try dsimp only
  refine (fun hHeld => hK.out _ _ (fun _ => hHeld) ?_) ⟨HF16.out.cell 0 0 (Nat.le_of_ble_eq_true rfl) (Nat.le_of_ble_eq_true rfl), HF16.out.cell 0 1 (Nat.le_of_ble_eq_true rfl) (Nat.le_of_ble_eq_true rfl), HF16.out.cell 1 0 (Nat.le_of_ble_eq_true rfl) (Nat.le_of_ble_eq_true rfl), HF16.out.cell 1 1 (Nat.le_of_ble_eq_true rfl) (Nat.le_of_ble_eq_true rfl), HF16.out.cell 1 2 (Nat.le_of_ble_eq_true rfl) (Nat.le_of_ble_eq_true rfl), HF16.out.cell 2 0 (Nat.le_of_ble_eq_true rfl) (Nat.le_of_ble_eq_true rfl), HF16.out.cell 2 1 (Nat.le_of_ble_eq_true rfl) (Nat.le_of_ble_eq_true rfl), HF16.out.cell 2 2 (Nat.le_of_ble_eq_true rfl) (Nat.le_of_ble_eq_true rfl)⟩
  clear hK K
  try simp only [Act.put, List.setIfInBounds_toArray, List.set_cons_zero, List.set_cons_succ]
  refine wpAnyK_step 7 rfl (by kernel_rfl) (fun K hK => ?_)
  go_simp
  refine (thrice_v _ V16 384 _ (HF16.out.got 0 (Nat.le_of_ble_eq_true rfl)) (by decide)).mono ?_
  rintro e w17 ⟨r17, rfl, h⟩
  obtain ⟨V17, HV17⟩ : ∃ V, Hid (V = V16 * 3) := ⟨_, rfl⟩
  rw [← HV17.out] at h
  have HF17 : Hid (Fm _ _ _ _ _) := HF16.out.step h
  clear h
  try dsimp only
  refine (fun hHeld => hK.out _ _ (fun _ => hHeld) ?_) ⟨HF17.out.cell 0 0 (Nat.le_of_ble_eq_true rfl) (Nat.le_of_ble_eq_true rfl), HF17.out.cell 0 1 (Nat.le_of_ble_eq_true rfl) (Nat.le_of_ble_eq_true rfl), HF17.out.cell 1 0 (Nat.le_of_ble_eq_true rfl) (Nat.le_of_ble_eq_true rfl), HF17.out.cell 1 1 (Nat.le_of_ble_eq_true rfl) (Nat.le_of_ble_eq_true rfl), HF17.out.cell 1 2 (Nat.le_of_ble_eq_true rfl) (Nat.le_of_ble_eq_true rfl), HF17.out.cell 2 0 (Nat.le_of_ble_eq_true rfl) (Nat.le_of_ble_eq_true rfl), HF17.out.cell 2 1 (Nat.le_of_ble_eq_true rfl) (Nat.le_of_ble_eq_true rfl), HF17.out.cell 2 2 (Nat.le_of_ble_eq_true rfl) (Nat.le_of_ble_eq_true rfl)⟩
  clear hK K
  try simp only [Act.put, List.setIfInBounds_toArray, List.set_cons_zero, List.set_cons_succ]
  refine wpAnyK_take0 8 (v := ?v107) rfl (by kernel_rfl) (fun _ _ _ h => h) (Or.inl ⟨by rfl, ?hy107⟩) (fun _ => hHeld) ?_
  case hy107 => (intro w hSw; go_simp; try with_reducible rfl)
  try simp only [Act.put, List.setIfInBounds_toArray, List.set_cons_zero, List.set_cons_succ]
  refine wpAnyK_done (by kernel_rfl) ?_ _
  go_wp2_with fail
  have HF17d : Hid (Fm _ _ _ _ _) := HF17.out.drew
  refine wp_region_K 10 (fun (w' : World) => w'.cell? ⟨w.heap.size, 0, none⟩ = some (.slice p0 p1 p2) ∧ w'.cell? ⟨w.heap.size, 1, none⟩ = some (.slice b0 b1 b2) ∧ w'.cell? ⟨w.heap.size + 1, 0, none⟩ = some (.slice x0 x1 x2) ∧ w'.cell? ⟨w.heap.size + 1, 1, none⟩ = some (.slice y0 y1 y2) ∧ w'.cell? ⟨w.heap.size + 1, 2, none⟩ = some (.slice z0 z1 z2) ∧ w'.cell? ⟨w.heap.size + 2, 0, none⟩ = some (.slice u0 u1 u2) ∧ w'.cell? ⟨w.heap.size + 2, 1, none⟩ = some (.slice v0 v1 v2) ∧ w'.cell? ⟨w.heap.size + 2, 2, none⟩ = some (.slice t0 t1 t2)) (by kernel_rfl) ?_
  have hHeld : ((fun (w' : World) => w'.cell? ⟨w.heap.size, 0, none⟩ = some (.slice p0 p1 p2) ∧ w'.cell? ⟨w.heap.size, 1, none⟩ = some (.slice b0 b1 b2) ∧ w'.cell? ⟨w.heap.size + 1, 0, none⟩ = some (.slice x0 x1 x2) ∧ w'.cell? ⟨w.heap.size + 1, 1, none⟩ = some (.slice y0 y1 y2) ∧ w'.cell? ⟨w.heap.size + 1, 2, none⟩ = some (.slice z0 z1 z2) ∧ w'.cell? ⟨w.heap.size + 2, 0, none⟩ = some (.slice u0 u1 u2) ∧ w'.cell? ⟨w.heap.size + 2, 1, none⟩ = some (.slice v0 v1 v2) ∧ w'.cell? ⟨w.heap.size + 2, 2, none⟩ = some (.slice t0 t1 t2))) (World.drew _) := ⟨HF17d.out.cell 0 0 (Nat.le_of_ble_eq_true rfl) (Nat.le_of_ble_eq_true rfl), HF17d.out.cell 0 1 (Nat.le_of_ble_eq_true rfl) (Nat.le_of_ble_eq_true rfl), HF17d.out.cell 1 0 (Nat.le_of_ble_eq_true rfl) (Nat.le_of_ble_eq_true rfl), HF17d.out.cell 1 1 (Nat.le_of_ble_eq_true rfl) (Nat.le_of_ble_eq_true rfl), HF17d.out.cell 1 2 (Nat.le_of_ble_eq_true rfl) (Nat.le_of_ble_eq_true rfl), HF17d.out.cell 2 0 (Nat.le_of_ble_eq_true rfl) (Nat.le_of_ble_eq_true rfl), HF17d.out.cell 2 1 (Nat.le_of_ble_eq_true rfl) (Nat.le_of_ble_eq_true rfl), HF17d.out.cell 2 2 (Nat.le_of_ble_eq_true rfl) (Nat.le_of_ble_eq_true rfl)⟩
  refine wpAnyK_take 0 [9, 10] (v := ?v108) rfl (by kernel_rfl) (fun _ _ _ h => h) (Or.inl ⟨by rfl, ?hy108⟩) hHeld ?_
  case hy108 => (intro w hSw; (try dsimp only at hSw); go_simp; try with_reducible rfl)
  try simp only [Act.put, List.setIfInBounds_toArray, List.set_cons_zero, List.set_cons_succ]
  refine wpAnyK_take0 1 (v := ?v109) rfl (by kernel_rfl) (fun _ _ _ h => h) (Or.inl ⟨by rfl, ?hy109⟩) (fun _ => hHeld) ?_
  case hy109 => (intro w hSw; go_simp; try with_reducible rfl)
  try simp only [Act.put, List.setIfInBounds_toArray, List.set_cons_zero, List.set_cons_succ]
  refine wpAnyK_take 2 [4, 9, 10] (v := ?v110) rfl (by kernel_rfl) (fun _ _ _ h => h) (Or.inl ⟨by rfl, ?hy110⟩) hHeld ?_
  case hy110 => (intro w hSw; (try dsimp only at hSw); go_simp; try with_reducible rfl)
  try simp only [Act.put, List.setIfInBounds_toArray, List.set_cons_zero, List.set_cons_succ]
  refine wpAnyK_take0 3 (v := ?v111) rfl (by kernel_rfl) (fun _ _ _ h => h) (Or.inl ⟨by rfl, ?hy111⟩) (fun _ => hHeld) ?_
  case hy111 => (intro w hSw; go_simp; try with_reducible rfl)
  try simp only [Act.put, List.setIfInBounds_toArray, List.set_cons_zero, List.set_cons_succ]
  refine wpAnyK_take0 5 (v := ?v112) rfl (by kernel_rfl) (fun _ _ _ h => h) (Or.inl ⟨by rfl, ?hy112⟩) (fun _ => hHeld) ?_
  case hy112 => (intro w hSw; go_simp; try with_reducible rfl)
  try simp only [Act.put, List.setIfInBounds_toArray, List.set_cons_zero, List.set_cons_succ]
  refine wpAnyK_take0 6 (v := ?v113) rfl (by kernel_rfl) (fun _ _ _ h => h) (Or.inl ⟨by rfl, ?hy113⟩) (fun _ => hHeld) ?_
  case hy113 => (intro w hSw; go_simp; try with_reducible rfl)
  try simp only [Act.put, List.setIfInBounds_toArray, List.set_cons_zero, List.set_cons_succ]
  refine wpAnyK_step 4 rfl (by kernel_rfl) (fun K hK => ?_)
  go_simp
  refine (nmul_v _ _ B V9 384 384 _ (HF17d.out.arg 1 (Nat.le_of_ble_eq_true rfl)) (HF17d.out.got 8 (Nat.le_of_ble_eq_true rfl)) (by decide)).mono ?_
  rintro e w18 ⟨r18, rfl, h⟩
  obtain ⟨V18, HV18⟩ : ∃ V, Hid (V = B * V9) := ⟨_, rfl⟩
  rw [← HV18.out] at h
  have HF18 : Hid (Fm _ _ _ _ _) := HF17d.out.step h
  clear h
  try dsimp only
  refine (fun hHeld => hK.out _ _ (fun _ => hHeld) ?_) ⟨HF18.out.cell 0 0 (Nat.le_of_ble_eq_true rfl) (Nat.le_of_ble_eq_true rfl), HF18.out.cell 0 1 (Nat.le_of_ble_eq_true rfl) (Nat.le_of_ble_eq_true rfl), HF18.out.cell 1 0 (Nat.le_of_ble_eq_true rfl) (Nat.le_of_ble_eq_true rfl), HF18.out.cell 1 1 (Nat.le_of_ble_eq_true rfl) (Nat.le_of_ble_eq_true rfl), HF18.out.cell 1 2 (Nat.le_of_ble_eq_true rfl) (Nat.le_of_ble_eq_true rfl), HF18.out.cell 2 0 (Nat.le_of_ble_eq_true rfl) (Nat.le_of_ble_eq_true rfl), HF18.out.cell 2 1 (Nat.le_of_ble_eq_true rfl) (Nat.le_of_ble_eq_true rfl), HF18.out.cell 2 2 (Nat.le_of_ble_eq_true rfl) (Nat.le_of_ble_eq_true rfl)⟩
  clear hK K
  try simp only [Act.put, List.setIfInBounds_toArray, List.set_cons_zero, List.set_cons_succ]
  refine wpAnyK_step 7 rfl (by kernel_rfl) (fun K hK => ?_)
  go_simp
  refine (thrice_v _ V3 384 _ (HF18.out.got 15 (Nat.le_of_ble_eq_true rfl)) (by decide)).mono ?_
  rintro e w19 ⟨r19, rfl, h⟩
  obtain ⟨V19, HV19⟩ : ∃ V, Hid (V = V3 * 3) := ⟨_, rfl⟩
  rw [← HV19.out] at h
  have HF19 : Hid (Fm _ _ _ _ _) := HF18.out.step h
  clear h
  try dsimp only
  refine (fun hHeld => hK.out _ _ (fun _ => hHeld) ?_) ⟨HF19.out.cell 0 0 (Nat.le_of_ble_eq_true rfl) (Nat.le_of_ble_eq_true rfl), HF19.out.cell 0 1 (Nat.le_of_ble_eq_true rfl) (Nat.le_of_ble_eq_true rfl), HF19.out.cell 1 0 (Nat.le_of_ble_eq_true rfl) (Nat.le_of_ble_eq_true rfl), HF19.out.cell 1 1 (Nat.le_of_ble_eq_true rfl) (Nat.le_of_ble_eq_true rfl), HF19.out.cell 1 2 (Nat.le_of_ble_eq_true rfl) (Nat.le_of_ble_eq_true rfl), HF19.out.cell 2 0 (Nat.le_of_ble_eq_true rfl) (Nat.le_of_ble_eq_true rfl), HF19.out.cell 2 1 (Nat.le_of_ble_eq_true rfl) (Nat.le_of_ble_eq_true rfl), HF19.out.cell 2 2 (Nat.le_of_ble_eq_true rfl) (Nat.le_of_ble_eq_true rfl)⟩
  clear hK K
  try simp only [Act.put, List.setIfInBounds_toArray, List.set_cons_zero, List.set_cons_succ]
  refine wpAnyK_step 8 rfl (by kernel_rfl) (fun K hK => ?_)
  go_simp
  refine (nadd_v _ _ V1 V19 384 386 _ (HF19.out.got 18 (Nat.le_of_ble_eq_true rfl)) (HF19.out.got 0 (Nat.le_of_ble_eq_true rfl)) (by decide)).mono ?_
  rintro e w20 ⟨r20, rfl, h⟩
  obtain ⟨V20, HV20⟩ : ∃ V, Hid (V = V1 + V19) := ⟨_, rfl⟩
  rw [← HV20.out] at h
  have HF20 : Hid (Fm _ _ _ _ _) := HF19.out.step h
  clear h
  try dsimp only
  refine (fun hHeld => hK.out _ _ (fun _ => hHeld) ?_) ⟨HF20.out.cell 0 0 (Nat.le_of_ble_eq_true rfl) (Nat.le_of_ble_eq_true rfl), HF20.out.cell 0 1 (Nat.le_of_ble_eq_true rfl) (Nat.le_of_ble_eq_true rfl), HF20.out.cell 1 0 (Nat.le_of_ble_eq_true rfl) (Nat.le_of_ble_eq_true rfl), HF20.out.cell 1 1 (Nat.le_of_ble_eq_true rfl) (Nat.le_of_ble_eq_true rfl), HF20.out.cell 1 2 (Nat.le_of_ble_eq_true rfl) (Nat.le_of_ble_eq_true rfl), HF20.out.cell 2 0 (Nat.le_of_ble_eq_true rfl) (Nat.le_of_ble_eq_true rfl), HF20.out.cell 2 1 (Nat.le_of_ble_eq_true rfl) (Nat.le_of_ble_eq_true rfl), HF20.out.cell 2 2 (Nat.le_of_ble_eq_true rfl) (Nat.le_of_ble_eq_true rfl)⟩
  clear hK K
  try simp only [Act.put, List.setIfInBounds_toArray, List.set_cons_zero, List.set_cons_succ]
  refine wpAnyK_step 9 rfl (by kernel_rfl) (fun K hK => ?_)
  go_simp
  refine (fsub_v _ _ _ _ p V18 V20 768 771 _ Hp.out (HF20.out.arg 0 (Nat.le_of_ble_eq_true rfl)).1 (HF20.out.arg 1 (Nat.le_of_ble_eq_true rfl)).sl (HF20.out.got 2 (Nat.le_of_ble_eq_true rfl)) (HF20.out.got 0 (Nat.le_of_ble_eq_true rfl)) (by decide) (by decide)).mono ?_
  rintro e w21 ⟨r21, rfl, h⟩
  obtain ⟨V21, HV21⟩ : ∃ V, Hid (V = fS p V18 V20) := ⟨_, rfl⟩
  rw [← HV21.out] at h
  have HF21 : Hid (Fm _ _ _ _ _) := HF20.out.step h
  clear h
  try dsimp only
  refine (fun hHeld => hK.out _ _ (fun _ => hHeld) ?_) ⟨HF21.out.cell 0 0 (Nat.le_of_ble_eq_true rfl) (Nat.le_of_ble_eq_true rfl), HF21.out.cell 0 1 (Nat.le_of_ble_eq_true rfl) (Nat.le_of_ble_eq_true rfl), HF21.out.cell 1 0 (Nat.le_of_ble_eq_true rfl) (Nat.le_of_ble_eq_true rfl), HF21.out.cell 1 1 (Nat.le_of_ble_eq_true rfl) (Nat.le_of_ble_eq_true rfl), HF21.out.cell 1 2 (Nat.le_of_ble_eq_true rfl) (Nat.le_of_ble_eq_true rfl), HF21.out.cell 2 0 (Nat.le_of_ble_eq_true rfl) (Nat.le_of_ble_eq_true rfl), HF21.out.cell 2 1 (Nat.le_of_ble_eq_true rfl) (Nat.le_of_ble_eq_true rfl), HF21.out.cell 2 2 (Nat.le_of_ble_eq_true rfl) (Nat.le_of_ble_eq_true rfl)⟩
  clear hK K
  try simp only [Act.put, List.setIfInBounds_toArray, List.set_cons_zero, List.set_cons_succ]
  refine wpAnyK_step 10 rfl (by kernel_rfl) (fun K hK => ?_)
  go_simp
  refine (thrice_v _ V21 384 _ (HF21.out.got 0 (Nat.le_of_ble_eq_true rfl)) (by decide)).mono ?_
  rintro e w22 ⟨r22, rfl, h⟩
  obtain ⟨V22, HV22⟩ : ∃ V, Hid (V = V21 * 3) := ⟨_, rfl⟩
  rw [← HV22.out] at h
  have HF22 : Hid (Fm _ _ _ _ _) := HF21.out.step h
  clear h
  try dsimp only
  refine (fun hHeld => hK.out _ _ (fun _ => hHeld) ?_) ⟨HF22.out.cell 0 0 (Nat.le_of_ble_eq_true rfl) (Nat.le_of_ble_eq_true rfl), HF22.out.cell 0 1 (Nat.le_of_ble_eq_true rfl) (Nat.le_of_ble_eq_true rfl), HF22.out.cell 1 0 (Nat.le_of_ble_eq_true rfl) (Nat.le_of_ble_eq_true rfl), HF22.out.cell 1 1 (Nat.le_of_ble_eq_true rfl) (Nat.le_of_ble_eq_true rfl), HF22.out.cell 1 2 (Nat.le_of_ble_eq_true rfl) (Nat.le_of_ble_eq_true rfl), HF22.out.cell 2 0 (Nat.le_of_ble_eq_true rfl) (Nat.le_of_ble_eq_true rfl), HF22.out.cell 2 1 (Nat.le_of_ble_eq_true rfl) (Nat.le_of_ble_eq_true rfl), HF22.out.cell 2 2 (Nat.le_of_ble_eq_true rfl) (Nat.le_of_ble_eq_true rfl)⟩
  clear hK K
  try simp only [Act.put, List.setIfInBounds_toArray, List.set_cons_zero, List.set_cons_succ]
  refine wpAnyK_take0 11 (v := ?v119) rfl (by kernel_rfl) (fun _ _ _ h => h) (Or.inl ⟨by rfl, ?hy119⟩) (fun _ => hHeld) ?_
  case hy119 => (intro w hSw; go_simp; try with_reducible rfl)
  try simp only [Act.put, List.setIfInBounds_toArray, List.set_cons_zero, List.set_cons_succ]
  refine wpAnyK_done (by kernel_rfl) ?_ _
  go_wp2_with fail
  have HF22d : Hid (Fm _ _ _ _ _) := HF22.out.drew
  refine wp_region_K 6 (fun (w' : World) => w'.cell? ⟨w.heap.size, 0, none⟩ = some (.slice p0 p1 p2) ∧ w'.cell? ⟨w.heap.size, 1, none⟩ = some (.slice b0 b1 b2) ∧ w'.cell? ⟨w.heap.size + 1, 0, none⟩ = some (.slice x0 x1 x2) ∧ w'.cell? ⟨w.heap.size + 1, 1, none⟩ = some (.slice y0 y1 y2) ∧ w'.cell? ⟨w.heap.size + 1, 2, none⟩ = some (.slice z0 z1 z2) ∧ w'.cell? ⟨w.heap.size + 2, 0, none⟩ = some (.slice u0 u1 u2) ∧ w'.cell? ⟨w.heap.size + 2, 1, none⟩ = some (.slice v0 v1 v2) ∧ w'.cell? ⟨w.heap.size + 2, 2, none⟩ = some (.slice t0 t1 t2)) (by kernel_rfl) ?_
  have hHeld : ((fun (w' : World) => w'.cell? ⟨w.heap.size, 0, none⟩ = some (.slice p0 p1 p2) ∧ w'.cell? ⟨w.heap.size, 1, none⟩ = some (.slice b0 b1 b2) ∧ w'.cell? ⟨w.heap.size + 1, 0, none⟩ = some (.slice x0 x1 x2) ∧ w'.cell? ⟨w.heap.size + 1, 1, none⟩ = some (.slice y0 y1 y2) ∧ w'.cell? ⟨w.heap.size + 1, 2, none⟩ = some (.slice z0 z1 z2) ∧ w'.cell? ⟨w.heap.size + 2, 0, none⟩ = some (.slice u0 u1 u2) ∧ w'.cell? ⟨w.heap.size + 2, 1, none⟩ = some (.slice v0 v1 v2) ∧ w'.cell? ⟨w.heap.size + 2, 2, none⟩ = some (.slice t0 t1 t2))) (World.drew _) := ⟨HF22d.out.cell 0 0 (Nat.le_of_ble_eq_true rfl) (Nat.le_of_ble_eq_true rfl), HF22d.out.cell 0 1 (Nat.le_of_ble_eq_true rfl) (Nat.le_of_ble_eq_true rfl), HF22d.out.cell 1 0 (Nat.le_of_ble_eq_true rfl) (Nat.le_of_ble_eq_true rfl), HF22d.out.cell 1 1 (Nat.le_of_ble_eq_true rfl) (Nat.le_of_ble_eq_true rfl), HF22d.out.cell 1 2 (Nat.le_of_ble_eq_true rfl) (Nat.le_of_ble_eq_true rfl), HF22d.out.cell 2 0 (Nat.le_of_ble_eq_true rfl) (Nat.le_of_ble_eq_true rfl), HF22d.out.cell 2 1 (Nat.le_of_ble_eq_true rfl) (Nat.le_of_ble_eq_true rfl), HF22d.out.cell 2 2 (Nat.le_of_ble_eq_true rfl) (Nat.le_of_ble_eq_true rfl)⟩
  refine wpAnyK_take0 0 (v := ?v120) rfl (by kernel_rfl) (fun _ _ _ h => h) (Or.inl ⟨by rfl, ?hy120⟩) (fun _ => hHeld) ?_
  case hy120 => (intro w hSw; go_simp; try with_reducible rfl)
  try simp only [Act.put, List.setIfInBounds_toArray, List.set_cons_zero, List.set_cons_succ]
  refine wpAnyK_take0 1 (v := ?v121) rfl (by kernel_rfl) (fun _ _ _ h => h) (Or.inl ⟨by rfl, ?hy121⟩) (fun _ => hHeld) ?_
  case hy121 => (intro w hSw; go_simp; try with_reducible rfl)
  try simp only [Act.put, List.setIfInBounds_toArray, List.set_cons_zero, List.set_cons_succ]
  refine wpAnyK_take 3 [6] (v := ?v122) rfl (by kernel_rfl) (fun _ _ _ h => h) (Or.inl ⟨by rfl, ?hy122⟩) hHeld ?_
  case hy122 => (intro w hSw; (try dsimp only at hSw); go_simp; try with_reducible rfl)
  try simp only [Act.put, List.setIfInBounds_toArray, List.set_cons_zero, List.set_cons_succ]
  refine wpAnyK_take0 4 (v := ?v123) rfl (by kernel_rfl) (fun _ _ _ h => h) (Or.inl ⟨by rfl, ?hy123⟩) (fun _ => hHeld) ?_
  case hy123 => (intro w hSw; go_simp; try with_reducible rfl)
  try simp only [Act.put, List.setIfInBounds_toArray, List.set_cons_zero, List.set_cons_succ]
  refine wpAnyK_take0 5 (v := ?v124) rfl (by kernel_rfl) (fun _ _ _ h => h) (Or.inl ⟨by rfl, ?hy124⟩) (fun _ => hHeld) ?_
  case hy124 => (intro w hSw; go_simp; try with_reducible rfl)
  try simp only [Act.put, List.setIfInBounds_toArray, List.set_cons_zero, List.set_cons_succ]
  refine wpAnyK_step 2 rfl (by kernel_rfl) (fun K hK => ?_)
  go_simp
  refine (nadd_v _ _ V2 V17 384 386 _ (HF22d.out.got 20 (Nat.le_of_ble_eq_true rfl)) (HF22d.out.got 5 (Nat.le_of_ble_eq_true rfl)) (by decide)).mono ?_
  rintro e w23 ⟨r23, rfl, h⟩
  obtain ⟨V23, HV23⟩ : ∃ V, Hid (V = V2 + V17) := ⟨_, rfl⟩
  rw [← HV23.out] at h
  have HF23 : Hid (Fm _ _ _ _ _) := HF22d.out.step h
  clear h
  try dsimp only
  refine (fun hHeld => hK.out _ _ (fun _ => hHeld) ?_) ⟨HF23.out.cell 0 0 (Nat.le_of_ble_eq_true rfl) (Nat.le_of_ble_eq_true rfl), HF23.out.cell 0 1 (Nat.le_of_ble_eq_true rfl) (Nat.le_of_ble_eq_true rfl), HF23.out.cell 1 0 (Nat.le_of_ble_eq_true rfl) (Nat.le_of_ble_eq_true rfl), HF23.out.cell 1 1 (Nat.le_of_ble_eq_true rfl) (Nat.le_of_ble_eq_true rfl), HF23.out.cell 1 2 (Nat.le_of_ble_eq_true rfl) (Nat.le_of_ble_eq_true rfl), HF23.out.cell 2 0 (Nat.le_of_ble_eq_true rfl) (Nat.le_of_ble_eq_true rfl), HF23.out.cell 2 1 (Nat.le_of_ble_eq_true rfl) (Nat.le_of_ble_eq_true rfl), HF23.out.cell 2 2 (Nat.le_of_ble_eq_true rfl) (Nat.le_of_ble_eq_true rfl)⟩
  clear hK K
  try simp only [Act.put, List.setIfInBounds_toArray, List.set_cons_zero, List.set_cons_succ]
  refine wpAnyK_step 6 rfl (by kernel_rfl) (fun K hK => ?_)
  go_simp
  refine (fsub_v _ _ _ _ p V2 V17 384 386 _ Hp.out (HF23.out.arg 0 (Nat.le_of_ble_eq_true rfl)).1 (HF23.out.arg 1 (Nat.le_of_ble_eq_true rfl)).sl (HF23.out.got 21 (Nat.le_of_ble_eq_true rfl)) (HF23.out.got 6 (Nat.le_of_ble_eq_true rfl)) (by decide) (by decide)).mono ?_
  rintro e w24 ⟨r24, rfl, h⟩
  obtain ⟨V24, HV24⟩ : ∃ V, Hid (V = fS p V2 V17) := ⟨_, rfl⟩
  rw [← HV24.out] at h
  have HF24 : Hid (Fm _ _ _ _ _) := HF23.out.step h
  clear h
  try dsimp only
  refine (fun hHeld => hK.out _ _ (fun _ => hHeld) ?_) ⟨HF24.out.cell 0 0 (Nat.le_of_ble_eq_true rfl) (Nat.le_of_ble_eq_true rfl), HF24.out.cell 0 1 (Nat.le_of_ble_eq_true rfl) (Nat.le_of_ble_eq_true rfl), HF24.out.cell 1 0 (Nat.le_of_ble_eq_true rfl) (Nat.le_of_ble_eq_true rfl), HF24.out.cell 1 1 (Nat.le_of_ble_eq_true rfl) (Nat.le_of_ble_eq_true rfl), HF24.out.cell 1 2 (Nat.le_of_ble_eq_true rfl) (Nat.le_of_ble_eq_true rfl), HF24.out.cell 2 0 (Nat.le_of_ble_eq_true rfl) (Nat.le_of_ble_eq_true rfl), HF24.out.cell 2 1 (Nat.le_of_ble_eq_true rfl) (Nat.le_of_ble_eq_true rfl), HF24.out.cell 2 2 (Nat.le_of_ble_eq_true rfl) (Nat.le_of_ble_eq_true rfl)⟩
  clear hK K
  try simp only [Act.put, List.setIfInBounds_toArray, List.set_cons_zero, List.set_cons_succ]
  refine wpAnyK_take0 7 (v := ?v127) rfl (by kernel_rfl) (fun _ _ _ h => h) (Or.inl ⟨by rfl, ?hy127⟩) (fun _ => hHeld) ?_
  case hy127 => (intro w hSw; go_simp; try with_reducible rfl)
  try simp only [Act.put, List.setIfInBounds_toArray, List.set_cons_zero, List.set_cons_succ]
  refine wpAnyK_take0 8 (v := ?v128) rfl (by kernel_rfl) (fun _ _ _ h => h) (Or.inl ⟨by rfl, ?hy128⟩) (fun _ => hHeld) ?_
  case hy128 => (intro w hSw; go_simp; try with_reducible rfl)
  try simp only [Act.put, List.setIfInBounds_toArray, List.set_cons_zero, List.set_cons_succ]
  refine wpAnyK_done (by kernel_rfl) ?_ _
  go_wp2_with fail
  have HF24d : Hid (Fm _ _ _ _ _) := HF24.out.drew
  refine wp_region_K 25 (fun (w' : World) => w'.cell? ⟨w.heap.size, 0, none⟩ = some (.slice p0 p1 p2) ∧ w'.cell? ⟨w.heap.size, 1, none⟩ = some (.slice b0 b1 b2) ∧ w'.cell? ⟨w.heap.size + 1, 0, none⟩ = some (.slice x0 x1 x2) ∧ w'.cell? ⟨w.heap.size + 1, 1, none⟩ = some (.slice y0 y1 y2) ∧ w'.cell? ⟨w.heap.size + 1, 2, none⟩ = some (.slice z0 z1 z2) ∧ w'.cell? ⟨w.heap.size + 2, 0, none⟩ = some (.slice u0 u1 u2) ∧ w'.cell? ⟨w.heap.size + 2, 1, none⟩ = some (.slice v0 v1 v2) ∧ w'.cell? ⟨w.heap.size + 2, 2, none⟩ = some (.slice t0 t1 t2)) (by kernel_rfl) ?_
  have hHeld : ((fun (w' : World) => w'.cell? ⟨w.heap.size, 0, none⟩ = some (.slice p0 p1 p2) ∧ w'.cell? ⟨w.heap.size, 1, none⟩ = some (.slice b0 b1 b2) ∧ w'.cell? ⟨w.heap.size + 1, 0, none⟩ = some (.slice x0 x1 x2) ∧ w'.cell? ⟨w.heap.size + 1, 1, none⟩ = some (.slice y0 y1 y2) ∧ w'.cell? ⟨w.heap.size + 1, 2, none⟩ = some (.slice z0 z1 z2) ∧ w'.cell? ⟨w.heap.size + 2, 0, none⟩ = some (.slice u0 u1 u2) ∧ w'.cell? ⟨w.heap.size + 2, 1, none⟩ = some (.slice v0 v1 v2) ∧ w'.cell? ⟨w.heap.size + 2, 2, none⟩ = some (.slice t0 t1 t2))) (World.drew _) := ⟨HF24d.out.cell 0 0 (Nat.le_of_ble_eq_true rfl) (Nat.le_of_ble_eq_true rfl), HF24d.out.cell 0 1 (Nat.le_of_ble_eq_true rfl) (Nat.le_of_ble_eq_true rfl), HF24d.out.cell 1 0 (Nat.le_of_ble_eq_true rfl) (Nat.le_of_ble_eq_true rfl), HF24d.out.cell 1 1 (Nat.le_of_ble_eq_true rfl) (Nat.le_of_ble_eq_true rfl), HF24d.out.cell 1 2 (Nat.le_of_ble_eq_true rfl) (Nat.le_of_ble_eq_true rfl), HF24d.out.cell 2 0 (Nat.le_of_ble_eq_true rfl) (Nat.le_of_ble_eq_true rfl), HF24d.out.cell 2 1 (Nat.le_of_ble_eq_true rfl) (Nat.le_of_ble_eq_true rfl), HF24d.out.cell 2 2 (Nat.le_of_ble_eq_true rfl) (Nat.le_of_ble_eq_true rfl)⟩
  refine wpAnyK_take 0 [7, 24, 25] (v := ?v129) rfl (by kernel_rfl) (fun _ _ _ h => h) (Or.inl ⟨by rfl, ?hy129⟩) hHeld ?_
  case hy129 => (intro w hSw; (try dsimp only at hSw); go_simp; try with_reducible rfl)
  try simp only [Act.put, List.setIfInBounds_toArray, List.set_cons_zero, List.set_cons_succ]
  refine wpAnyK_take0 1 (v := ?v130) rfl (by kernel_rfl) (fun _ _ _ h => h) (Or.inl ⟨by rfl, ?hy130⟩) (fun _ => hHeld) ?_
  case hy130 => (intro w hSw; go_simp; try with_reducible rfl)
  try simp only [Act.put, List.setIfInBounds_toArray, List.set_cons_zero, List.set_cons_succ]
  refine wpAnyK_take0 2 (v := ?v131) rfl (by kernel_rfl) (fun _ _ _ h => h) (Or.inl ⟨by rfl, ?hy131⟩) (fun _ => hHeld) ?_
  case hy131 => (intro w hSw; go_simp; try with_reducible rfl)
  try simp only [Act.put, List.setIfInBounds_toArray, List.set_cons_zero, List.set_cons_succ]
  refine wpAnyK_take0 4 (v := ?v132) rfl (by kernel_rfl) (fun _ _ _ h => h) (Or.inl ⟨by rfl, ?hy132⟩) (fun _ => hHeld) ?_
  case hy132 => (intro w hSw; go_simp; try with_reducible rfl)
  try simp only [Act.put, List.setIfInBounds_toArray, List.set_cons_zero, List.set_cons_succ]
  refine wpAnyK_take0 5 (v := ?v133) rfl (by kernel_rfl) (fun _ _ _ h => h) (Or.inl ⟨by rfl, ?hy133⟩) (fun _ => hHeld) ?_
  case hy133 => (intro w hSw; go_simp; try with_reducible rfl)
  try simp only [Act.put, List.setIfInBounds_toArray, List.set_cons_zero, List.set_cons_succ]
  refine wpAnyK_take 8 [15, 24, 25] (v := ?v134) rfl (by kernel_rfl) (fun _ _ _ h => h) (Or.inl ⟨by rfl, ?hy134⟩) hHeld ?_
  case hy134 => (intro w hSw; (try dsimp only at hSw); go_simp; try with_reducible rfl)
  try simp only [Act.put, List.setIfInBounds_toArray, List.set_cons_zero, List.set_cons_succ]
  refine wpAnyK_take0 9 (v := ?v135) rfl (by kernel_rfl) (fun _ _ _ h => h) (Or.inl ⟨by rfl, ?hy135⟩) (fun _ => hHeld) ?_
  case hy135 => (intro w hSw; go_simp; try with_reducible rfl)
  try simp only [Act.put, List.setIfInBounds_toArray, List.set_cons_zero, List.set_cons_succ]
  refine wpAnyK_take0 10 (v := ?v136) rfl (by kernel_rfl) (fun _ _ _ h => h) (Or.inl ⟨by rfl, ?hy136⟩) (fun _ => hHeld) ?_
  case hy136 => (intro w hSw; go_simp; try with_reducible rfl)
  try simp only [Act.put, List.setIfInBounds_toArray, List.set_cons_zero, List.set_cons_succ]
  refine wpAnyK_take0 12 (v := ?v137) rfl (by kernel_rfl) (fun _ _ _ h => h) (Or.inl ⟨by rfl, ?hy137⟩) (fun _ => hHeld) ?_
  case hy137 => (intro w hSw; go_simp; try with_reducible rfl)
  try simp only [Act.put, List.setIfInBounds_toArray, List.set_cons_zero, List.set_cons_succ]
  refine wpAnyK_take0 13 (v := ?v138) rfl (by kernel_rfl) (fun _ _ _ h => h) (Or.inl ⟨by rfl, ?hy138⟩) (fun _ => hHeld) ?_
  case hy138 => (intro w hSw; go_simp; try with_reducible rfl)
  try simp only [Act.put, List.setIfInBounds_toArray, List.set_cons_zero, List.set_cons_succ]
  refine wpAnyK_take 16 [23, 24, 25] (v := ?v139) rfl (by kernel_rfl) (fun _ _ _ h => h) (Or.inl ⟨by rfl, ?hy139⟩) hHeld ?_
  case hy139 => (intro w hSw; (try dsimp only at hSw); go_simp; try with_reducible rfl)
  try simp only [Act.put, List.setIfInBounds_toArray, List.set_cons_zero, List.set_cons_succ]
  refine wpAnyK_take0 17 (v := ?v140) rfl (by kernel_rfl) (fun _ _ _ h => h) (Or.inl ⟨by rfl, ?hy140⟩) (fun _ => hHeld) ?_
  case hy140 => (intro w hSw; go_simp; try with_reducible rfl)
  try simp only [Act.put, List.setIfInBounds_toArray, List.set_cons_zero, List.set_cons_succ]
  refine wpAnyK_take0 18 (v := ?v141) rfl (by kernel_rfl) (fun _ _ _ h => h) (Or.inl ⟨by rfl, ?hy141⟩) (fun _ => hHeld) ?_
  case hy141 => (intro w hSw; go_simp; try with_reducible rfl)
  try simp only [Act.put, List.setIfInBounds_toArray, List.set_cons_zero, List.set_cons_succ]
  refine wpAnyK_take0 20 (v := ?v142) rfl (by kernel_rfl) (fun _ _ _ h => h) (Or.inl ⟨by rfl, ?hy142⟩) (fun _ => hHeld) ?_
  case hy142 => (intro w hSw; go_simp; try with_reducible rfl)
  try simp only [Act.put, List.setIfInBounds_toArray, List.set_cons_zero, List.set_cons_succ]
  refine wpAnyK_take0 21 (v := ?v143) rfl (by kernel_rfl) (fun _ _ _ h => h) (Or.inl ⟨by rfl, ?hy143⟩) (fun _ => hHeld) ?_
  case hy143 => (intro w hSw; go_simp; try with_reducible rfl)
  try simp only [Act.put, List.setIfInBounds_toArray, List.set_cons_zero, List.set_cons_succ]
  refine wpAnyK_step 3 rfl (by kernel_rfl) (fun K hK => ?_)
  go_simp
  refine (nmul_v _ _ V6 V24 384 384 _ (HF24d.out.got 18 (Nat.le_of_ble_eq_true rfl)) (HF24d.out.got 0 (Nat.le_of_ble_eq_true rfl)) (by decide)).mono ?_
  rintro e w25 ⟨r25, rfl, h⟩
  obtain ⟨V25, HV25⟩ : ∃ V, Hid (V = V6 * V24) := ⟨_, rfl⟩
  rw [← HV25.out] at h
  have HF25 : Hid (Fm _ _ _ _ _) := HF24d.out.step h
  clear h
  try dsimp only
  refine (fun hHeld => hK.out _ _ (fun _ => hHeld) ?_) ⟨HF25.out.cell 0 0 (Nat.le_of_ble_eq_true rfl) (Nat.le_of_ble_eq_true rfl), HF25.out.cell 0 1 (Nat.le_of_ble_eq_true rfl) (Nat.le_of_ble_eq_true rfl), HF25.out.cell 1 0 (Nat.le_of_ble_eq_true rfl) (Nat.le_of_ble_eq_true rfl), HF25.out.cell 1 1 (Nat.le_of_ble_eq_true rfl) (Nat.le_of_ble_eq_true rfl), HF25.out.cell 1 2 (Nat.le_of_ble_eq_true rfl) (Nat.le_of_ble_eq_true rfl), HF25.out.cell 2 0 (Nat.le_of_ble_eq_true rfl) (Nat.le_of_ble_eq_true rfl), HF25.out.cell 2 1 (Nat.le_of_ble_eq_true rfl) (Nat.le_of_ble_eq_true rfl), HF25.out.cell 2 2 (Nat.le_of_ble_eq_true rfl) (Nat.le_of_ble_eq_true rfl)⟩
  clear hK K
  try simp only [Act.put, List.setIfInBounds_toArray, List.set_cons_zero, List.set_cons_succ]
  refine wpAnyK_step 6 rfl (by kernel_rfl) (fun K hK => ?_)
  go_simp
  refine (nmul_v _ _ V12 V22 384 386 _ (HF25.out.got 13 (Nat.le_of_ble_eq_true rfl)) (HF25.out.got 3 (Nat.le_of_ble_eq_true rfl)) (by decide)).mono ?_
  rintro e w26 ⟨r26, rfl, h⟩
  obtain ⟨V26, HV26⟩ : ∃ V, Hid (V = V12 * V22) := ⟨_, rfl⟩
  rw [← HV26.out] at h
  have HF26 : Hid (Fm _ _ _ _ _) := HF25.out.step h
  clear h
  try dsimp only
  refine (fun hHeld => hK.out _ _ (fun _ => hHeld) ?_) ⟨HF26.out.cell 0 0 (Nat.le_of_ble_eq_true rfl) (Nat.le_of_ble_eq_true rfl), HF26.out.cell 0 1 (Nat.le_of_ble_eq_true rfl) (Nat.le_of_ble_eq_true rfl), HF26.out.cell 1 0 (Nat.le_of_ble_eq_true rfl) (Nat.le_of_ble_eq_true rfl), HF26.out.cell 1 1 (Nat.le_of_ble_eq_true rfl) (Nat.le_of_ble_eq_true rfl), HF26.out.cell 1 2 (Nat.le_of_ble_eq_true rfl) (Nat.le_of_ble_eq_true rfl), HF26.out.cell 2 0 (Nat.le_of_ble_eq_true rfl) (Nat.le_of_ble_eq_true rfl), HF26.out.cell 2 1 (Nat.le_of_ble_eq_true rfl) (Nat.le_of_ble_eq_true rfl), HF26.out.cell 2 2 (Nat.le_of_ble_eq_true rfl) (Nat.le_of_ble_eq_true rfl)⟩
  clear hK K
  try simp only [Act.put, List.setIfInBounds_toArray, List.set_cons_zero, List.set_cons_succ]
  refine wpAnyK_step 7 rfl (by kernel_rfl) (fun K hK => ?_)
  go_simp
  refine (fsub_v _ _ _ _ p V25 V26 768 770 _ Hp.out (HF26.out.arg 0 (Nat.le_of_ble_eq_true rfl)).1 (HF26.out.arg 1 (Nat.le_of_ble_eq_true rfl)).sl (HF26.out.got 1 (Nat.le_of_ble_eq_true rfl)) (HF26.out.got 0 (Nat.le_of_ble_eq_true rfl)) (by decide) (by decide)).mono ?_
  rintro e w27 ⟨r27, rfl, h⟩
  obtain ⟨V27, HV27⟩ : ∃ V, Hid (V = fS p V25 V26) := ⟨_, rfl⟩
  rw [← HV27.out] at h
  have HF27 : Hid (Fm _ _ _ _ _) := HF26.out.step h
  clear h
  try dsimp only
  refine (fun hHeld => hK.out _ _ (fun _ => hHeld) ?_) ⟨HF27.out.cell 0 0 (Nat.le_of_ble_eq_true rfl) (Nat.le_of_ble_eq_true rfl), HF27.out.cell 0 1 (Nat.le_of_ble_eq_true rfl) (Nat.le_of_ble_eq_true rfl), HF27.out.cell 1 0 (Nat.le_of_ble_eq_true rfl) (Nat.le_of_ble_eq_true rfl), HF27.out.cell 1 1 (Nat.le_of_ble_eq_true rfl) (Nat.le_of_ble_eq_true rfl), HF27.out.cell 1 2 (Nat.le_of_ble_eq_true rfl) (Nat.le_of_ble_eq_true rfl), HF27.out.cell 2 0 (Nat.le_of_ble_eq_true rfl) (Nat.le_of_ble_eq_true rfl), HF27.out.cell 2 1 (Nat.le_of_ble_eq_true rfl) (Nat.le_of_ble_eq_true rfl), HF27.out.cell 2 2 (Nat.le_of_ble_eq_true rfl) (Nat.le_of_ble_eq_true rfl)⟩
  clear hK K
  try simp only [Act.put, List.setIfInBounds_toArray, List.set_cons_zero, List.set_cons_succ]
  refine wpAnyK_step 11 rfl (by kernel_rfl) (fun K hK => ?_)
  go_simp
  refine (nmul_v _ _ V23 V24 771 384 _ (HF27.out.got 4 (Nat.le_of_ble_eq_true rfl)) (HF27.out.got 3 (Nat.le_of_ble_eq_true rfl)) (by decide)).mono ?_
  rintro e w28 ⟨r28, rfl, h⟩
  obtain ⟨V28, HV28⟩ : ∃ V, Hid (V = V23 * V24) := ⟨_, rfl⟩
  rw [← HV28.out] at h
  have HF28 : Hid (Fm _ _ _ _ _) := HF27.out.step h
  clear h
  try dsimp only
  refine (fun hHeld => hK.out _ _ (fun _ => hHeld) ?_) ⟨HF28.out.cell 0 0 (Nat.le_of_ble_eq_true rfl) (Nat.le_of_ble_eq_true rfl), HF28.out.cell 0 1 (Nat.le_of_ble_eq_true rfl) (Nat.le_of_ble_eq_true rfl), HF28.out.cell 1 0 (Nat.le_of_ble_eq_true rfl) (Nat.le_of_ble_eq_true rfl), HF28.out.cell 1 1 (Nat.le_of_ble_eq_true rfl) (Nat.le_of_ble_eq_true rfl), HF28.out.cell 1 2 (Nat.le_of_ble_eq_true rfl) (Nat.le_of_ble_eq_true rfl), HF28.out.cell 2 0 (Nat.le_of_ble_eq_true rfl) (Nat.le_of_ble_eq_true rfl), HF28.out.cell 2 1 (Nat.le_of_ble_eq_true rfl) (Nat.le_of_ble_eq_true rfl), HF28.out.cell 2 2 (Nat.le_of_ble_eq_true rfl) (Nat.le_of_ble_eq_true rfl)⟩
  clear hK K
  try simp only [Act.put, List.setIfInBounds_toArray, List.set_cons_zero, List.set_cons_succ]
  refine wpAnyK_step 14 rfl (by kernel_rfl) (fun K hK => ?_)
  go_simp
  refine (nmul_v _ _ V14 V22 386 386 _ (HF28.out.got 14 (Nat.le_of_ble_eq_true rfl)) (HF28.out.got 6 (Nat.le_of_ble_eq_true rfl)) (by decide)).mono ?_
  rintro e w29 ⟨r29, rfl, h⟩
  obtain ⟨V29, HV29⟩ : ∃ V, Hid (V = V14 * V22) := ⟨_, rfl⟩
  rw [← HV29.out] at h
  have HF29 : Hid (Fm _ _ _ _ _) := HF28.out.step h
  clear h
  try dsimp only
  refine (fun hHeld => hK.out _ _ (fun _ => hHeld) ?_) ⟨HF29.out.cell 0 0 (Nat.le_of_ble_eq_true rfl) (Nat.le_of_ble_eq_true rfl), HF29.out.cell 0 1 (Nat.le_of_ble_eq_true rfl) (Nat.le_of_ble_eq_true rfl), HF29.out.cell 1 0 (Nat.le_of_ble_eq_true rfl) (Nat.le_of_ble_eq_true rfl), HF29.out.cell 1 1 (Nat.le_of_ble_eq_true rfl) (Nat.le_of_ble_eq_true rfl), HF29.out.cell 1 2 (Nat.le_of_ble_eq_true rfl) (Nat.le_of_ble_eq_true rfl), HF29.out.cell 2 0 (Nat.le_of_ble_eq_true rfl) (Nat.le_of_ble_eq_true rfl), HF29.out.cell 2 1 (Nat.le_of_ble_eq_true rfl) (Nat.le_of_ble_eq_true rfl), HF29.out.cell 2 2 (Nat.le_of_ble_eq_true rfl) (Nat.le_of_ble_eq_true rfl)⟩
  clear hK K
  try simp only [Act.put, List.setIfInBounds_toArray, List.set_cons_zero, List.set_cons_succ]
  refine wpAnyK_step 15 rfl (by kernel_rfl) (fun K hK => ?_)
  go_simp
  refine (fadd_v _ _ _ _ p V28 V29 1155 772 _ Hp.out (HF29.out.arg 0 (Nat.le_of_ble_eq_true rfl)).1 (HF29.out.arg 1 (Nat.le_of_ble_eq_true rfl)).sl (HF29.out.got 1 (Nat.le_of_ble_eq_true rfl)) (HF29.out.got 0 (Nat.le_of_ble_eq_true rfl)) (by decide) (by decide)).mono ?_
  rintro e w30 ⟨r30, rfl, h⟩
  obtain ⟨V30, HV30⟩ : ∃ V, Hid (V = fA p V28 V29) := ⟨_, rfl⟩
  rw [← HV30.out] at h
  have HF30 : Hid (Fm _ _ _ _ _) := HF29.out.step h
  clear h
  try dsimp only
  refine (fun hHeld => hK.out _ _ (fun _ => hHeld) ?_) ⟨HF30.out.cell 0 0 (Nat.le_of_ble_eq_true rfl) (Nat.le_of_ble_eq_true rfl), HF30.out.cell 0 1 (Nat.le_of_ble_eq_true rfl) (Nat.le_of_ble_eq_true rfl), HF30.out.cell 1 0 (Nat.le_of_ble_eq_true rfl) (Nat.le_of_ble_eq_true rfl), HF30.out.cell 1 1 (Nat.le_of_ble_eq_true rfl) (Nat.le_of_ble_eq_true rfl), HF30.out.cell 1 2 (Nat.le_of_ble_eq_true rfl) (Nat.le_of_ble_eq_true rfl), HF30.out.cell 2 0 (Nat.le_of_ble_eq_true rfl) (Nat.le_of_ble_eq_true rfl), HF30.out.cell 2 1 (Nat.le_of_ble_eq_true rfl) (Nat.le_of_ble_eq_true rfl), HF30.out.cell 2 2 (Nat.le_of_ble_eq_true rfl) (Nat.le_of_ble_eq_true rfl)⟩
  clear hK K
  try simp only [Act.put, List.setIfInBounds_toArray, List.set_cons_zero, List.set_cons_succ]
  refine wpAnyK_step 19 rfl (by kernel_rfl) (fun K hK => ?_)
  go_simp
  refine (nmul_v _ _ V12 V23 384 771 _ (HF30.out.got 18 (Nat.le_of_ble_eq_true rfl)) (HF30.out.got 7 (Nat.le_of_ble_eq_true rfl)) (by decide)).mono ?_
  rintro e w31 ⟨r31, rfl, h⟩
  obtain ⟨V31, HV31⟩ : ∃ V, Hid (V = V12 * V23) := ⟨_, rfl⟩
  rw [← HV31.out] at h
  have HF31 : Hid (Fm _ _ _ _ _) := HF30.out.step h
  clear h
  try dsimp only
  refine (fun hHeld => hK.out _ _ (fun _ => hHeld) ?_) ⟨HF31.out.cell 0 0 (Nat.le_of_ble_eq_true rfl) (Nat.le_of_ble_eq_true rfl), HF31.out.cell 0 1 (Nat.le_of_ble_eq_true rfl) (Nat.le_of_ble_eq_true rfl), HF31.out.cell 1 0 (Nat.le_of_ble_eq_true rfl) (Nat.le_of_ble_eq_true rfl), HF31.out.cell 1 1 (Nat.le_of_ble_eq_true rfl) (Nat.le_of_ble_eq_true rfl), HF31.out.cell 1 2 (Nat.le_of_ble_eq_true rfl) (Nat.le_of_ble_eq_true rfl), HF31.out.cell 2 0 (Nat.le_of_ble_eq_true rfl) (Nat.le_of_ble_eq_true rfl), HF31.out.cell 2 1 (Nat.le_of_ble_eq_true rfl) (Nat.le_of_ble_eq_true rfl), HF31.out.cell 2 2 (Nat.le_of_ble_eq_true rfl) (Nat.le_of_ble_eq_true rfl)⟩
  clear hK K
  try simp only [Act.put, List.setIfInBounds_toArray, List.set_cons_zero, List.set_cons_succ]
  refine wpAnyK_step 22 rfl (by kernel_rfl) (fun K hK => ?_)
  go_simp
  refine (nmul_v _ _ V6 V14 384 386 _ (HF31.out.got 25 (Nat.le_of_ble_eq_true rfl)) (HF31.out.got 17 (Nat.le_of_ble_eq_true rfl)) (by decide)).mono ?_
  rintro e w32 ⟨r32, rfl, h⟩
  obtain ⟨V32, HV32⟩ : ∃ V, Hid (V = V6 * V14) := ⟨_, rfl⟩
  rw [← HV32.out] at h
  have HF32 : Hid (Fm _ _ _ _ _) := HF31.out.step h
  clear h
  try dsimp only
  refine (fun hHeld => hK.out _ _ (fun _ => hHeld) ?_) ⟨HF32.out.cell 0 0 (Nat.le_of_ble_eq_true rfl) (Nat.le_of_ble_eq_true rfl), HF32.out.cell 0 1 (Nat.le_of_ble_eq_true rfl) (Nat.le_of_ble_eq_true rfl), HF32.out.cell 1 0 (Nat.le_of_ble_eq_true rfl) (Nat.le_of_ble_eq_true rfl), HF32.out.cell 1 1 (Nat.le_of_ble_eq_true rfl) (Nat.le_of_ble_eq_true rfl), HF32.out.cell 1 2 (Nat.le_of_ble_eq_true rfl) (Nat.le_of_ble_eq_true rfl), HF32.out.cell 2 0 (Nat.le_of_ble_eq_true rfl) (Nat.le_of_ble_eq_true rfl), HF32.out.cell 2 1 (Nat.le_of_ble_eq_true rfl) (Nat.le_of_ble_eq_true rfl), HF32.out.cell 2 2 (Nat.le_of_ble_eq_true rfl) (Nat.le_of_ble_eq_true rfl)⟩
  clear hK K
  try simp only [Act.put, List.setIfInBounds_toArray, List.set_cons_zero, List.set_cons_succ]
  refine wpAnyK_step 23 rfl (by kernel_rfl) (fun K hK => ?_)
  go_simp
  refine (fadd_v _ _ _ _ p V31 V32 1155 770 _ Hp.out (HF32.out.arg 0 (Nat.le_of_ble_eq_true rfl)).1 (HF32.out.arg 1 (Nat.le_of_ble_eq_true rfl)).sl (HF32.out.got 1 (Nat.le_of_ble_eq_true rfl)) (HF32.out.got 0 (Nat.le_of_ble_eq_true rfl)) (by decide) (by decide)).mono ?_
  rintro e w33 ⟨r33, rfl, h⟩
  obtain ⟨V33, HV33⟩ : ∃ V, Hid (V = fA p V31 V32) := ⟨_, rfl⟩
  rw [← HV33.out] at h
  have HF33 : Hid (Fm _ _ _ _ _) := HF32.out.step h
  clear h
  try dsimp only
  refine (fun hHeld => hK.out _ _ (fun _ => hHeld) ?_) ⟨HF33.out.cell 0 0 (Nat.le_of_ble_eq_true rfl) (Nat.le_of_ble_eq_true rfl), HF33.out.cell 0 1 (Nat.le_of_ble_eq_true rfl) (Nat.le_of_ble_eq_true rfl), HF33.out.cell 1 0 (Nat.le_of_ble_eq_true rfl) (Nat.le_of_ble_eq_true rfl), HF33.out.cell 1 1 (Nat.le_of_ble_eq_true rfl) (Nat.le_of_ble_eq_true rfl), HF33.out.cell 1 2 (Nat.le_of_ble_eq_true rfl) (Nat.le_of_ble_eq_true rfl), HF33.out.cell 2 0 (Nat.le_of_ble_eq_true rfl) (Nat.le_of_ble_eq_true rfl), HF33.out.cell 2 1 (Nat.le_of_ble_eq_true rfl) (Nat.le_of_ble_eq_true rfl), HF33.out.cell 2 2 (Nat.le_of_ble_eq_true rfl) (Nat.le_of_ble_eq_true rfl)⟩
  clear hK K
  try simp only [Act.put, List.setIfInBounds_toArray, List.set_cons_zero, List.set_cons_succ]
  obtain ⟨r10, r11, r12, rfl⟩ := (HF33.out.got 6 (Nat.le_of_ble_eq_true rfl)).sl
  obtain ⟨r20, r21, r22, rfl⟩ := (HF33.out.got 3 (Nat.le_of_ble_eq_true rfl)).sl
  obtain ⟨r30, r31, r32, rfl⟩ := (HF33.out.got 0 (Nat.le_of_ble_eq_true rfl)).sl
  have c3_0 : w33.cell? ⟨w.heap.size + 3, 0, none⟩ = some (.slice none 0 0) := HF33.out.cell 3 0 (Nat.le_of_ble_eq_true rfl) (Nat.le_of_ble_eq_true rfl)
  have c3_1 : w33.cell? ⟨w.heap.size + 3, 1, none⟩ = some (.slice none 0 0) := HF33.out.cell 3 1 (Nat.le_of_ble_eq_true rfl) (Nat.le_of_ble_eq_true rfl)
  have c3_2 : w33.cell? ⟨w.heap.size + 3, 2, none⟩ = some (.slice none 0 0) := HF33.out.cell 3 2 (Nat.le_of_ble_eq_true rfl) (Nat.le_of_ble_eq_true rfl)
  have f3_0 : w33.frozen? ⟨w.heap.size + 3, 0, none⟩ = false := HF33.out.frozen 3 0 (Nat.le_of_ble_eq_true rfl)
  have f3_1 : w33.frozen? ⟨w.heap.size + 3, 1, none⟩ = false := HF33.out.frozen 3 1 (Nat.le_of_ble_eq_true rfl)
  have f3_2 : w33.frozen? ⟨w.heap.size + 3, 2, none⟩ = false := HF33.out.frozen 3 2 (Nat.le_of_ble_eq_true rfl)
  refine wpAnyK_take0 24 (v := ?v154) rfl (by kernel_rfl) (fun _ _ _ h => h) (Or.inl ⟨by rfl, ?hy154⟩) (fun _ => hHeld) ?_
  case hy154 => (intro w hSw; go_simp; try with_reducible rfl)
  try simp only [Act.put, List.setIfInBounds_toArray, List.set_cons_zero, List.set_cons_succ]
  refine wpAnyK_step 25 rfl (by kernel_rfl) (fun K hK => ?_)
  go_simp
  refine hK.out _ _ ?hk155 ?_
  case hk155 => exact (fun h => nomatch (h.symm.trans (show _ = true by kernel_rfl)))
  clear hK K
  try simp only [Act.put, List.setIfInBounds_toArray, List.set_cons_zero, List.set_cons_succ]
  refine wpAnyK_done (by kernel_rfl) ?_ _
  go_wp2
  (try simp only [Exit.inBlock, Exit.then])
  have hb := (((But.refl w33 (w.heap.size + 3)).set 0 (.slice r10 r11 r12)).set 1 (.slice r20 r21 r22)).set 2 (.slice r30 r31 r32)
  have g1 := HF33.out.out 3 (by simp) hb 6 (by simp)
  have g2 := HF33.out.out 3 (by simp) hb 3 (by simp)
  have g3 := HF33.out.out 3 (by simp) hb 0 (by simp)
  have g4 := HF33.out.outB 3 (by simp) hb
  refine bodyPost_ret (v := .agg #[.slice r10 r11 r12, .slice r20 r21 r22, .slice r30 r31 r32]) ?_ rfl ⟨_, rfl, ⟨_, _, _, rfl, ?_, ?_, ?_⟩, g4⟩
  · rw [results_cell rfl]; go_simp
  · clear hb; obtain rfl := HV33.out; obtain rfl := HV32.out; obtain rfl := HV31.out; obtain rfl := HV30.out; obtain rfl := HV29.out; obtain rfl := HV28.out; obtain rfl := HV27.out; obtain rfl := HV26.out; obtain rfl := HV25.out; obtain rfl := HV24.out; obtain rfl := HV23.out; obtain rfl := HV22.out; obtain rfl := HV21.out; obtain rfl := HV20.out; obtain rfl := HV19.out; obtain rfl := HV18.out; obtain rfl := HV17.out; obtain rfl := HV16.out; obtain rfl := HV15.out; obtain rfl := HV14.out; obtain rfl := HV13.out; obtain rfl := HV12.out; obtain rfl := HV11.out; obtain rfl := HV10.out; obtain rfl := HV9.out; obtain rfl := HV8.out; obtain rfl := HV7.out; obtain rfl := HV6.out; obtain rfl := HV5.out; obtain rfl := HV4.out; obtain rfl := HV3.out; obtain rfl := HV2.out; obtain rfl := HV1.out; exact g1
  · clear hb; obtain rfl := HV33.out; obtain rfl := HV32.out; obtain rfl := HV31.out; obtain rfl := HV30.out; obtain rfl := HV29.out; obtain rfl := HV28.out; obtain rfl := HV27.out; obtain rfl := HV26.out; obtain rfl := HV25.out; obtain rfl := HV24.out; obtain rfl := HV23.out; obtain rfl := HV22.out; obtain rfl := HV21.out; obtain rfl := HV20.out; obtain rfl := HV19.out; obtain rfl := HV18.out; obtain rfl := HV17.out; obtain rfl := HV16.out; obtain rfl := HV15.out; obtain rfl := HV14.out; obtain rfl := HV13.out; obtain rfl := HV12.out; obtain rfl := HV11.out; obtain rfl := HV10.out; obtain rfl := HV9.out; obtain rfl := HV8.out; obtain rfl := HV7.out; obtain rfl := HV6.out; obtain rfl := HV5.out; obtain rfl := HV4.out; obtain rfl := HV3.out; obtain rfl := HV2.out; obtain rfl := HV1.out; exact g2
  · clear hb; obtain rfl := HV33.out; obtain rfl := HV32.out; obtain rfl := HV31.out; obtain rfl := HV30.out; obtain rfl := HV29.out; obtain rfl := HV28.out; obtain rfl := HV27.out; obtain rfl := HV26.out; obtain rfl := HV25.out; obtain rfl := HV24.out; obtain rfl := HV23.out; obtain rfl := HV22.out; obtain rfl := HV21.out; obtain rfl := HV20.out; obtain rfl := HV19.out; obtain rfl := HV18.out; obtain rfl := HV17.out; obtain rfl := HV16.out; obtain rfl := HV15.out; obtain rfl := HV14.out; obtain rfl := HV13.out; obtain rfl := HV12.out; obtain rfl := HV11.out; obtain rfl := HV10.out; obtain rfl := HV9.out; obtain rfl := HV8.out; obtain rfl := HV7.out; obtain rfl := HV6.out; obtain rfl := HV5.out; obtain rfl := HV4.out; obtain rfl := HV3.out; obtain rfl := HV2.out; obtain rfl := HV1.out; exact g3
end Go.Proofs.YtmngdaolgdhgmaaGreatDoor
