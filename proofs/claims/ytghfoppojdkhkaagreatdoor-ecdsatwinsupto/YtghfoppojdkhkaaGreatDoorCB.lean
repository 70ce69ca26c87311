import Derived.Test.YtghfoppojdkhkaaGreatDoorCY
namespace Go.Proofs.YtghfoppojdkhkaaGreatDoor
open Go.RowKit

set_option maxRecDepth 100000

set_option maxHeartbeats 8000000 in
theorem step_v (pv bv v1 v2 : Value) (p B X1 Y1 Z1 X2 Y2 Z2 : Nat) (w : World) (Hp : Hid (Pm p)) (hp : Nk w pv p 384) (hb : Nk w bv B 384) (h1 : Rt w v1 X1 Y1 Z1) (h2 : Rt w v2 X2 Y2 Z2) :
    Calls Tryz.prog 93 #[.agg #[pv, bv], v1, v2] w fun e w' => ∃ r, e = .returned r ∧ Rm w w' r
      (plusX p B (plusX p B X1 Y1 Z1 X1 Y1 Z1) (plusY p B X1 Y1 Z1 X1 Y1 Z1) (plusZ p B X1 Y1 Z1 X1 Y1 Z1) X2 Y2 Z2) (plusY p B (plusX p B X1 Y1 Z1 X1 Y1 Z1) (plusY p B X1 Y1 Z1 X1 Y1 Z1) (plusZ p B X1 Y1 Z1 X1 Y1 Z1) X2 Y2 Z2) (plusZ p B (plusX p B X1 Y1 Z1 X1 Y1 Z1) (plusY p B X1 Y1 Z1 X1 Y1 Z1) (plusZ p B X1 Y1 Z1 X1 Y1 Z1) X2 Y2 Z2) ∧ Below w.heap.size w w' := by
  obtain ⟨p0, p1, p2, rfl⟩ := hp.sl
  obtain ⟨b0, b1, b2, rfl⟩ := hb.sl
  have HR : Hid (Rt w v1 X1 Y1 Z1 ∧ Rt w v2 X2 Y2 Z2 ∧ Nk w (.slice p0 p1 p2) p 384 ∧ Nk w (.slice b0 b1 b2) B 384) := ⟨h1, h2, hp, hb⟩
  obtain ⟨x, y, z, rfl, hx, hy, hz⟩ := h1
  obtain ⟨u, v, t, rfl, hu, hv, ht⟩ := h2
  obtain ⟨x0, x1, x2, rfl⟩ := hx.sl
  obtain ⟨y0, y1, y2, rfl⟩ := hy.sl
  obtain ⟨z0, z1, z2, rfl⟩ := hz.sl
  obtain ⟨u0, u1, u2, rfl⟩ := hu.sl
  obtain ⟨v0, v1, v2, rfl⟩ := hv.sl
  obtain ⟨t0, t1, t2, rfl⟩ := ht.sl
  have HF0 : Hid (Fm w ((((w.alloc (.cells #[.slice p0 p1 p2, .slice b0 b1 b2] 65)).alloc (.cells #[.slice x0 x1 x2, .slice y0 y1 y2, .slice z0 z1 z2] 97)).alloc (.cells #[.slice u0 u1 u2, .slice v0 v1 v2, .slice t0 t1 t2] 97)).alloc (.cells #[.slice none 0 0, .slice none 0 0, .slice none 0 0] 97)) [(65, [.slice p0 p1 p2, .slice b0 b1 b2]), (97, [.slice x0 x1 x2, .slice y0 y1 y2, .slice z0 z1 z2]), (97, [.slice u0 u1 u2, .slice v0 v1 v2, .slice t0 t1 t2]), (97, [.slice none 0 0, .slice none 0 0, .slice none 0 0])] [] []) := (((((Fm.nil (w := w) (A := []) ar_nil).push (by simp) 65 [.slice p0 p1 p2, .slice b0 b1 b2]).push (by simp) 97 [.slice x0 x1 x2, .slice y0 y1 y2, .slice z0 z1 z2]).push (by simp) 97 [.slice u0 u1 u2, .slice v0 v1 v2, .slice t0 t1 t2]).push (by simp) 97 [.slice none 0 0, .slice none 0 0, .slice none 0 0])
  clear hp hb hx hy hz hu hv ht
  go_enter Tryz.func93, Tryz.ntmps93
  go_wp2_with fail
  generalize ((((w.alloc (.cells #[.slice p0 p1 p2, .slice b0 b1 b2] 65)).alloc (.cells #[.slice x0 x1 x2, .slice y0 y1 y2, .slice z0 z1 z2] 97)).alloc (.cells #[.slice u0 u1 u2, .slice v0 v1 v2, .slice t0 t1 t2] 97)).alloc (.cells #[.slice none 0 0, .slice none 0 0, .slice none 0 0] 97)) = w0 at *
  have HF0d : Hid (Fm w w0.drew [(65, [.slice p0 p1 p2, .slice b0 b1 b2]), (97, [.slice x0 x1 x2, .slice y0 y1 y2, .slice z0 z1 z2]), (97, [.slice u0 u1 u2, .slice v0 v1 v2, .slice t0 t1 t2]), (97, [.slice none 0 0, .slice none 0 0, .slice none 0 0])] [] []) := HF0.out.drew
  refine wp_region_K 7 (fun (w' : World) => w'.cell? ⟨w.heap.size, 0, none⟩ = some (.slice p0 p1 p2) ∧ w'.cell? ⟨w.heap.size, 1, none⟩ = some (.slice b0 b1 b2) ∧ w'.cell? ⟨w.heap.size + 1, 0, none⟩ = some (.slice x0 x1 x2) ∧ w'.cell? ⟨w.heap.size + 1, 1, none⟩ = some (.slice y0 y1 y2) ∧ w'.cell? ⟨w.heap.size + 1, 2, none⟩ = some (.slice z0 z1 z2) ∧ w'.cell? ⟨w.heap.size + 2, 0, none⟩ = some (.slice u0 u1 u2) ∧ w'.cell? ⟨w.heap.size + 2, 1, none⟩ = some (.slice v0 v1 v2) ∧ w'.cell? ⟨w.heap.size + 2, 2, none⟩ = some (.slice t0 t1 t2)) (by kernel_rfl) ?_
  have hHeld : ((fun (w' : World) => w'.cell? ⟨w.heap.size, 0, none⟩ = some (.slice p0 p1 p2) ∧ w'.cell? ⟨w.heap.size, 1, none⟩ = some (.slice b0 b1 b2) ∧ w'.cell? ⟨w.heap.size + 1, 0, none⟩ = some (.slice x0 x1 x2) ∧ w'.cell? ⟨w.heap.size + 1, 1, none⟩ = some (.slice y0 y1 y2) ∧ w'.cell? ⟨w.heap.size + 1, 2, none⟩ = some (.slice z0 z1 z2) ∧ w'.cell? ⟨w.heap.size + 2, 0, none⟩ = some (.slice u0 u1 u2) ∧ w'.cell? ⟨w.heap.size + 2, 1, none⟩ = some (.slice v0 v1 v2) ∧ w'.cell? ⟨w.heap.size + 2, 2, none⟩ = some (.slice t0 t1 t2))) (World.drew _) := ⟨HF0d.out.cell 0 0 (Nat.le_of_ble_eq_true rfl) (Nat.le_of_ble_eq_true rfl), HF0d.out.cell 0 1 (Nat.le_of_ble_eq_true rfl) (Nat.le_of_ble_eq_true rfl), HF0d.out.cell 1 0 (Nat.le_of_ble_eq_true rfl) (Nat.le_of_ble_eq_true rfl), HF0d.out.cell 1 1 (Nat.le_of_ble_eq_true rfl) (Nat.le_of_ble_eq_true rfl), HF0d.out.cell 1 2 (Nat.le_of_ble_eq_true rfl) (Nat.le_of_ble_eq_true rfl), HF0d.out.cell 2 0 (Nat.le_of_ble_eq_true rfl) (Nat.le_of_ble_eq_true rfl), HF0d.out.cell 2 1 (Nat.le_of_ble_eq_true rfl) (Nat.le_of_ble_eq_true rfl), HF0d.out.cell 2 2 (Nat.le_of_ble_eq_true rfl) (Nat.le_of_ble_eq_true rfl)⟩
  refine wpAnyK_take 0 [6, 7] (v := ?v1) rfl (by kernel_rfl) (fun _ _ _ h => h) (Or.inl ⟨by rfl, ?hy1⟩) hHeld ?_
  case hy1 => (intro w hSw; (try dsimp only at hSw); go_simp; try with_reducible rfl)
  try simp only [Act.put, List.setIfInBounds_toArray, List.set_cons_zero, List.set_cons_succ]
  refine wpAnyK_take 1 [4, 6, 7] (v := ?v2) rfl (by kernel_rfl) (fun _ _ _ h => h) (Or.inl ⟨by rfl, ?hy2⟩) hHeld ?_
  case hy2 => (intro w hSw; (try dsimp only at hSw); go_simp; try with_reducible rfl)
  try simp only [Act.put, List.setIfInBounds_toArray, List.set_cons_zero, List.set_cons_succ]
  refine wpAnyK_take 2 [4, 6, 7] (v := ?v3) rfl (by kernel_rfl) (fun _ _ _ h => h) (Or.inl ⟨by rfl, ?hy3⟩) hHeld ?_
  case hy3 => (intro w hSw; (try dsimp only at hSw); go_simp; try with_reducible rfl)
  try simp only [Act.put, List.setIfInBounds_toArray, List.set_cons_zero, List.set_cons_succ]
  refine wpAnyK_take 3 [4, 6, 7] (v := ?v4) rfl (by kernel_rfl) (fun _ _ _ h => h) (Or.inl ⟨by rfl, ?hy4⟩) hHeld ?_
  case hy4 => (intro w hSw; (try dsimp only at hSw); go_simp; try with_reducible rfl)
  try simp only [Act.put, List.setIfInBounds_toArray, List.set_cons_zero, List.set_cons_succ]
  refine wpAnyK_take 5 [6, 7] (v := ?v5) rfl (by kernel_rfl) (fun _ _ _ h => h) (Or.inl ⟨by rfl, ?hy5⟩) hHeld ?_
  case hy5 => (intro w hSw; (try dsimp only at hSw); go_simp; try with_reducible rfl)
  try simp only [Act.put, List.setIfInBounds_toArray, List.set_cons_zero, List.set_cons_succ]
  refine wpAnyK_step 4 rfl (by kernel_rfl) (fun K hK => ?_)
  go_simp
  refine (plus_v (.slice p0 p1 p2) (.slice b0 b1 b2) _ _ p B X1 Y1 Z1 X1 Y1 Z1 _ Hp (HR.out.2.2.1.below HF0d.out.bel (Nat.le_refl _)) (HR.out.2.2.2.below HF0d.out.bel (Nat.le_refl _)) (HR.out.1.below HF0d.out.bel (Nat.le_refl _)) (HR.out.1.below HF0d.out.bel (Nat.le_refl _))).mono ?_
  rintro e w1 ⟨q1, rfl, hm1, hB⟩
  have HF1 : Hid (Fm w w1 [(65, [.slice p0 p1 p2, .slice b0 b1 b2]), (97, [.slice x0 x1 x2, .slice y0 y1 y2, .slice z0 z1 z2]), (97, [.slice u0 u1 u2, .slice v0 v1 v2, .slice t0 t1 t2]), (97, [.slice none 0 0, .slice none 0 0, .slice none 0 0])] [] []) := HF0d.out.below hB
  have HT1 : Hid (Rt w1 q1 _ _ _) := hm1.rt
  clear hB hm1
  try dsimp only
  refine hK.out _ _ ?hk6 ?_
  case hk6 => exact fun _ => ⟨HF1.out.cell 0 0 (Nat.le_of_ble_eq_true rfl) (Nat.le_of_ble_eq_true rfl), HF1.out.cell 0 1 (Nat.le_of_ble_eq_true rfl) (Nat.le_of_ble_eq_true rfl), HF1.out.cell 1 0 (Nat.le_of_ble_eq_true rfl) (Nat.le_of_ble_eq_true rfl), HF1.out.cell 1 1 (Nat.le_of_ble_eq_true rfl) (Nat.le_of_ble_eq_true rfl), HF1.out.cell 1 2 (Nat.le_of_ble_eq_true rfl) (Nat.le_of_ble_eq_true rfl), HF1.out.cell 2 0 (Nat.le_of_ble_eq_true rfl) (Nat.le_of_ble_eq_true rfl), HF1.out.cell 2 1 (Nat.le_of_ble_eq_true rfl) (Nat.le_of_ble_eq_true rfl), HF1.out.cell 2 2 (Nat.le_of_ble_eq_true rfl) (Nat.le_of_ble_eq_true rfl)⟩
  have hHeld : ((fun (w' : World) => w'.cell? ⟨w.heap.size, 0, none⟩ = some (.slice p0 p1 p2) ∧ w'.cell? ⟨w.heap.size, 1, none⟩ = some (.slice b0 b1 b2) ∧ w'.cell? ⟨w.heap.size + 1, 0, none⟩ = some (.slice x0 x1 x2) ∧ w'.cell? ⟨w.heap.size + 1, 1, none⟩ = some (.slice y0 y1 y2) ∧ w'.cell? ⟨w.heap.size + 1, 2, none⟩ = some (.slice z0 z1 z2) ∧ w'.cell? ⟨w.heap.size + 2, 0, none⟩ = some (.slice u0 u1 u2) ∧ w'.cell? ⟨w.heap.size + 2, 1, none⟩ = some (.slice v0 v1 v2) ∧ w'.cell? ⟨w.heap.size + 2, 2, none⟩ = some (.slice t0 t1 t2))) _ := ⟨HF1.out.cell 0 0 (Nat.le_of_ble_eq_true rfl) (Nat.le_of_ble_eq_true rfl), HF1.out.cell 0 1 (Nat.le_of_ble_eq_true rfl) (Nat.le_of_ble_eq_true rfl), HF1.out.cell 1 0 (Nat.le_of_ble_eq_true rfl) (Nat.le_of_ble_eq_true rfl), HF1.out.cell 1 1 (Nat.le_of_ble_eq_true rfl) (Nat.le_of_ble_eq_true rfl), HF1.out.cell 1 2 (Nat.le_of_ble_eq_true rfl) (Nat.le_of_ble_eq_true rfl), HF1.out.cell 2 0 (Nat.le_of_ble_eq_true rfl) (Nat.le_of_ble_eq_true rfl), HF1.out.cell 2 1 (Nat.le_of_ble_eq_true rfl) (Nat.le_of_ble_eq_true rfl), HF1.out.cell 2 2 (Nat.le_of_ble_eq_true rfl) (Nat.le_of_ble_eq_true rfl)⟩
  clear hK K
  try simp only [Act.put, List.setIfInBounds_toArray, List.set_cons_zero, List.set_cons_succ]
  refine wpAnyK_step 6 rfl (by kernel_rfl) (fun K hK => ?_)
  go_simp
  refine (plus_v (.slice p0 p1 p2) (.slice b0 b1 b2) q1 _ p B _ _ _ X2 Y2 Z2 w1 Hp (HR.out.2.2.1.below HF1.out.bel (Nat.le_refl _)) (HR.out.2.2.2.below HF1.out.bel (Nat.le_refl _)) HT1.out (HR.out.2.1.below HF1.out.bel (Nat.le_refl _))).mono ?_
  rintro e w2 ⟨q2, rfl, hm2, hB⟩
  have HF2 : Hid (Fm w w2 [(65, [.slice p0 p1 p2, .slice b0 b1 b2]), (97, [.slice x0 x1 x2, .slice y0 y1 y2, .slice z0 z1 z2]), (97, [.slice u0 u1 u2, .slice v0 v1 v2, .slice t0 t1 t2]), (97, [.slice none 0 0, .slice none 0 0, .slice none 0 0])] [] []) := HF1.out.below hB
  have HT2 : Hid (Rm w1 w2 q2 _ _ _) := hm2
  clear hB hm2
  try dsimp only
  refine hK.out _ _ ?hk7 ?_
  case hk7 => exact fun _ => ⟨HF2.out.cell 0 0 (Nat.le_of_ble_eq_true rfl) (Nat.le_of_ble_eq_true rfl), HF2.out.cell 0 1 (Nat.le_of_ble_eq_true rfl) (Nat.le_of_ble_eq_true rfl), HF2.out.cell 1 0 (Nat.le_of_ble_eq_true rfl) (Nat.le_of_ble_eq_true rfl), HF2.out.cell 1 1 (Nat.le_of_ble_eq_true rfl) (Nat.le_of_ble_eq_true rfl), HF2.out.cell 1 2 (Nat.le_of_ble_eq_true rfl) (Nat.le_of_ble_eq_true rfl), HF2.out.cell 2 0 (Nat.le_of_ble_eq_true rfl) (Nat.le_of_ble_eq_true rfl), HF2.out.cell 2 1 (Nat.le_of_ble_eq_true rfl) (Nat.le_of_ble_eq_true rfl), HF2.out.cell 2 2 (Nat.le_of_ble_eq_true rfl) (Nat.le_of_ble_eq_true rfl)⟩
  have hHeld : ((fun (w' : World) => w'.cell? ⟨w.heap.size, 0, none⟩ = some (.slice p0 p1 p2) ∧ w'.cell? ⟨w.heap.size, 1, none⟩ = some (.slice b0 b1 b2) ∧ w'.cell? ⟨w.heap.size + 1, 0, none⟩ = some (.slice x0 x1 x2) ∧ w'.cell? ⟨w.heap.size + 1, 1, none⟩ = some (.slice y0 y1 y2) ∧ w'.cell? ⟨w.heap.size + 1, 2, none⟩ = some (.slice z0 z1 z2) ∧ w'.cell? ⟨w.heap.size + 2, 0, none⟩ = some (.slice u0 u1 u2) ∧ w'.cell? ⟨w.heap.size + 2, 1, none⟩ = some (.slice v0 v1 v2) ∧ w'.cell? ⟨w.heap.size + 2, 2, none⟩ = some (.slice t0 t1 t2))) _ := ⟨HF2.out.cell 0 0 (Nat.le_of_ble_eq_true rfl) (Nat.le_of_ble_eq_true rfl), HF2.out.cell 0 1 (Nat.le_of_ble_eq_true rfl) (Nat.le_of_ble_eq_true rfl), HF2.out.cell 1 0 (Nat.le_of_ble_eq_true rfl) (Nat.le_of_ble_eq_true rfl), HF2.out.cell 1 1 (Nat.le_of_ble_eq_true rfl) (Nat.le_of_ble_eq_true rfl), HF2.out.cell 1 2 (Nat.le_of_ble_eq_true rfl) (Nat.le_of_ble_eq_true rfl), HF2.out.cell 2 0 (Nat.le_of_ble_eq_true rfl) (Nat.le_of_ble_eq_true rfl), HF2.out.cell 2 1 (Nat.le_of_ble_eq_true rfl) (Nat.le_of_ble_eq_true rfl), HF2.out.cell 2 2 (Nat.le_of_ble_eq_true rfl) (Nat.le_of_ble_eq_true rfl)⟩
  clear hK K
  try simp only [Act.put, List.setIfInBounds_toArray, List.set_cons_zero, List.set_cons_succ]
  obtain ⟨r10, r11, r12, r20, r21, r22, r30, r31, r32, rfl⟩ := HT2.out.shape
  have c0 : w2.cell? ⟨w.heap.size + 3, 0, none⟩ = some (.slice none 0 0) := HF2.out.cell 3 0 (Nat.le_of_ble_eq_true rfl) (Nat.le_of_ble_eq_true rfl)
  have c1 : w2.cell? ⟨w.heap.size + 3, 1, none⟩ = some (.slice none 0 0) := HF2.out.cell 3 1 (Nat.le_of_ble_eq_true rfl) (Nat.le_of_ble_eq_true rfl)
  have c2 : w2.cell? ⟨w.heap.size + 3, 2, none⟩ = some (.slice none 0 0) := HF2.out.cell 3 2 (Nat.le_of_ble_eq_true rfl) (Nat.le_of_ble_eq_true rfl)
  have f0 : w2.frozen? ⟨w.heap.size + 3, 0, none⟩ = false := HF2.out.frozen 3 0 (Nat.le_of_ble_eq_true rfl)
  have f1 : w2.frozen? ⟨w.heap.size + 3, 1, none⟩ = false := HF2.out.frozen 3 1 (Nat.le_of_ble_eq_true rfl)
  have f2 : w2.frozen? ⟨w.heap.size + 3, 2, none⟩ = false := HF2.out.frozen 3 2 (Nat.le_of_ble_eq_true rfl)
  refine wpAnyK_step 7 rfl (by kernel_rfl) (fun K hK => ?_)
  go_simp
  refine hK.out _ _ ?hk9 ?_
  case hk9 => exact (fun h => nomatch (h.symm.trans (show _ = true by kernel_rfl)))
  clear hK K
  try simp only [Act.put, List.setIfInBounds_toArray, List.set_cons_zero, List.set_cons_succ]
  refine wpAnyK_done (by kernel_rfl) ?_ _
  go_wp2
  (try simp only [Exit.inBlock, Exit.then])
  have hb := (((But.refl w2 (w.heap.size + 3)).set 0 (.slice r10 r11 r12)).set 1 (.slice r20 r21 r22)).set 2 (.slice r30 r31 r32)
  have hsz := HF1.out.sz
  simp only [List.length_cons, List.length_nil] at hsz
  refine bodyPost_ret (v := .agg #[.slice r10 r11 r12, .slice r20 r21 r22, .slice r30 r31 r32]) ?_ rfl ⟨_, rfl, HT2.out.later HF1.out.bel hb (by omega), HF2.out.outB 3 (by simp) hb⟩
  rw [results_cell rfl]; go_simp
/-- A step of the ladder: twice the point, and one more. -/
theorem Cv.stepR {p b x1 y1 z1 x2 y2 z2 : Nat} {P Q : Pt} (C : Cv p b) (hp : Pm p) (hP : Rp p x1 y1 z1 P) (hQ : Rp p x2 y2 z2 Q) (oP : onP p b P) (oQ : onP p b Q) :
    Rp p (plusX p b (plusX p b x1 y1 z1 x1 y1 z1) (plusY p b x1 y1 z1 x1 y1 z1) (plusZ p b x1 y1 z1 x1 y1 z1) x2 y2 z2) (plusY p b (plusX p b x1 y1 z1 x1 y1 z1) (plusY p b x1 y1 z1 x1 y1 z1) (plusZ p b x1 y1 z1 x1 y1 z1) x2 y2 z2) (plusZ p b (plusX p b x1 y1 z1 x1 y1 z1) (plusY p b x1 y1 z1 x1 y1 z1) (plusZ p b x1 y1 z1 x1 y1 z1) x2 y2 z2) (sm p (sm p P P) Q) :=
  C.plusR hp (C.plusR hp hP hP oP oP) hQ (C.son oP oP) oQ
theorem digit_1 (v : Value) (A j : Nat) (w : World) (hv : Nu w v A) (h : A / 2 ^ j % 2 = 1) (hj : j ≤ 1000000) : Calls Tryz.prog 94 #[v, .int .i64 (j : Int)] w fun e w' => e = .returned (.int .i64 1) ∧ w' = w := by
  obtain ⟨xs, n1, rfl, k1⟩ := hv
  have C := bit_pos j v xs w n1 (by omega)
  rw [decide_eq_true h] at C
  clear n1 h
  go_enter Tryz.func94, Tryz.ntmps94
  go_wp2_with fail
  refine C.mono ?_
  rintro e w1 ⟨rfl, rfl⟩
  clear C
  go_wp2
  go_ret
  exact ⟨rfl, rfl⟩
theorem digit_0 (v : Value) (A j : Nat) (w : World) (hv : Nu w v A) (h : ¬ A / 2 ^ j % 2 = 1) (hj : j ≤ 1000000) : Calls Tryz.prog 94 #[v, .int .i64 (j : Int)] w fun e w' => e = .returned (.int .i64 0) ∧ w' = w := by
  obtain ⟨xs, n1, rfl, k1⟩ := hv
  have C := bit_pos j v xs w n1 (by omega)
  rw [decide_eq_false h] at C
  clear n1 h
  go_enter Tryz.func94, Tryz.ntmps94
  go_wp2_with fail
  refine C.mono ?_
  rintro e w1 ⟨rfl, rfl⟩
  clear C
  go_wp2
  go_ret
  exact ⟨rfl, rfl⟩
theorem large11_v (v : Value) (A : Nat) (w : World) (hv : Nu w v A) : Calls Tryz.prog 74 #[v] w fun e w' => e = .returned (.bool (decide (1024 < bl A))) ∧ w' = w := by
  have C := vbits v A _ w hv (by decide)
  have hd : decide (((bl A : Nat) : Int) > 1024) = decide (1024 < bl A) := by
    by_cases h : 1024 < bl A
    · rw [decide_eq_true h, decide_eq_true (by omega)]
    · rw [decide_eq_false h, decide_eq_false (by omega)]
  have Hd : Hid (decide (((bl A : Nat) : Int) > 1024) = decide (1024 < bl A)) := hd
  clear hv hd
  generalize ((bl A : Nat) : Int) = z at *
  go_enter Tryz.func74, Tryz.ntmps74
  go_wp2_with fail
  refine C.mono ?_
  rintro e w1 ⟨rfl, rfl⟩
  clear C
  go_wp2
  go_ret
  refine ⟨?_, rfl⟩
  rw [← Hd.out]
  rfl
end Go.Proofs.YtghfoppojdkhkaaGreatDoor
