import Derived.Test.YtjpjepfmphlneaaGreatDoorDW
namespace Go.Proofs.YtjpjepfmphlneaaGreatDoor
open Go.RowKit

set_option maxRecDepth 100000

theorem pq_f (a b : R4) : pq eP eD a b = ⟨fM eP (fA eP (a.x * b.y) (b.x * a.y)) (fS eP (fM eP a.z b.z) (fM eP eD (fM eP a.t b.t))), fM eP (fA eP (a.y * b.y) (a.x * b.x)) (fA eP (fM eP a.z b.z) (fM eP eD (fM eP a.t b.t))), fM eP (fA eP (fM eP a.z b.z) (fM eP eD (fM eP a.t b.t))) (fS eP (fM eP a.z b.z) (fM eP eD (fM eP a.t b.t))), fM eP (fA eP (a.x * b.y) (b.x * a.y)) (fA eP (a.y * b.y) (a.x * b.x))⟩ := by
  rw [fS_sS (show 0 < eP by decide +kernel)]
  rfl
set_option maxHeartbeats 20000000 in
theorem plus_v (v u : Value) (r s : R4) (w : World) (T : Te w) (hv : Q4 w v r) (hu : Q4 w u s) : Calls Tryz.prog 55 #[v, u] w fun e w' => ∃ t, e = .returned t ∧ Qm w' w.heap.size t (pq eP eD r s) ∧ Below w.heap.size w w' := by
  rw [pq_f]
  obtain ⟨xa, ya, za, ta, rfl, hxa, hya, hza, hta⟩ := hv
  obtain ⟨xb, yb, zb, tb, rfl, hxb, hyb, hzb, htb⟩ := hu
  obtain ⟨xa0, xa1, xa2, rfl⟩ := hxa.sl
  obtain ⟨ya0, ya1, ya2, rfl⟩ := hya.sl
  obtain ⟨za0, za1, za2, rfl⟩ := hza.sl
  obtain ⟨ta0, ta1, ta2, rfl⟩ := hta.sl
  obtain ⟨xb0, xb1, xb2, rfl⟩ := hxb.sl
  obtain ⟨yb0, yb1, yb2, rfl⟩ := hyb.sl
  obtain ⟨zb0, zb1, zb2, rfl⟩ := hzb.sl
  obtain ⟨tb0, tb1, tb2, rfl⟩ := htb.sl
  have HF0 : Hid (Fm w (((w.alloc (.cells #[.slice xa0 xa1 xa2, .slice ya0 ya1 ya2, .slice za0 za1 za2, .slice ta0 ta1 ta2] 68)).alloc (.cells #[.slice xb0 xb1 xb2, .slice yb0 yb1 yb2, .slice zb0 zb1 zb2, .slice tb0 tb1 tb2] 68)).alloc (.cells #[.slice none 0 0, .slice none 0 0, .slice none 0 0, .slice none 0 0] 68)) [(68, [.slice xa0 xa1 xa2, .slice ya0 ya1 ya2, .slice za0 za1 za2, .slice ta0 ta1 ta2]), (68, [.slice xb0 xb1 xb2, .slice yb0 yb1 yb2, .slice zb0 zb1 zb2, .slice tb0 tb1 tb2]), (68, [.slice none 0 0, .slice none 0 0, .slice none 0 0, .slice none 0 0])] [(.slice xa0 xa1 xa2, r.x, 256), (.slice ya0 ya1 ya2, r.y, 256), (.slice za0 za1 za2, r.z, 256), (.slice ta0 ta1 ta2, r.t, 256), (.slice xb0 xb1 xb2, s.x, 256), (.slice yb0 yb1 yb2, s.y, 256), (.slice zb0 zb1 zb2, s.z, 256), (.slice tb0 tb1 tb2, s.t, 256)] []) := ((((Fm.nil (w := w) (A := [(.slice xa0 xa1 xa2, r.x, 256), (.slice ya0 ya1 ya2, r.y, 256), (.slice za0 za1 za2, r.z, 256), (.slice ta0 ta1 ta2, r.t, 256), (.slice xb0 xb1 xb2, s.x, 256), (.slice yb0 yb1 yb2, s.y, 256), (.slice zb0 zb1 zb2, s.z, 256), (.slice tb0 tb1 tb2, s.t, 256)]) (ar_cons hxa (ar_cons hya (ar_cons hza (ar_cons hta (ar_cons hxb (ar_cons hyb (ar_cons hzb (ar_cons htb ar_nil))))))))).push (by simp) 68 [.slice xa0 xa1 xa2, .slice ya0 ya1 ya2, .slice za0 za1 za2, .slice ta0 ta1 ta2]).push (by simp) 68 [.slice xb0 xb1 xb2, .slice yb0 yb1 yb2, .slice zb0 zb1 zb2, .slice tb0 tb1 tb2]).push (by simp) 68 [.slice none 0 0, .slice none 0 0, .slice none 0 0, .slice none 0 0])
  have HT : Hid (Te w) := T
  clear T hxa hya hza hta hxb hyb hzb htb
  go_enter Tryz.func55, Tryz.ntmps55
  go_wp2_with fail
  generalize (((w.alloc (.cells #[.slice xa0 xa1 xa2, .slice ya0 ya1 ya2, .slice za0 za1 za2, .slice ta0 ta1 ta2] 68)).alloc (.cells #[.slice xb0 xb1 xb2, .slice yb0 yb1 yb2, .slice zb0 zb1 zb2, .slice tb0 tb1 tb2] 68)).alloc (.cells #[.slice none 0 0, .slice none 0 0, .slice none 0 0, .slice none 0 0] 68)) = w0 at *
  have HF0d : Hid (Fm w w0.drew [(68, [.slice xa0 xa1 xa2, .slice ya0 ya1 ya2, .slice za0 za1 za2, .slice ta0 ta1 ta2]), (68, [.slice xb0 xb1 xb2, .slice yb0 yb1 yb2, .slice zb0 zb1 zb2, .slice tb0 tb1 tb2]), (68, [.slice none 0 0, .slice none 0 0, .slice none 0 0, .slice none 0 0])] [(.slice xa0 xa1 xa2, r.x, 256), (.slice ya0 ya1 ya2, r.y, 256), (.slice za0 za1 za2, r.z, 256), (.slice ta0 ta1 ta2, r.t, 256), (.slice xb0 xb1 xb2, s.x, 256), (.slice yb0 yb1 yb2, s.y, 256), (.slice zb0 zb1 zb2, s.z, 256), (.slice tb0 tb1 tb2, s.t, 256)] []) := HF0.out.drew
  refine wp_region_K 10 (fun (w' : World) => w'.cell? ⟨w.heap.size, 0, none⟩ = some (.slice xa0 xa1 xa2) ∧ w'.cell? ⟨w.heap.size, 1, none⟩ = some (.slice ya0 ya1 ya2) ∧ w'.cell? ⟨w.heap.size, 2, none⟩ = some (.slice za0 za1 za2) ∧ w'.cell? ⟨w.heap.size, 3, none⟩ = some (.slice ta0 ta1 ta2) ∧ w'.cell? ⟨w.heap.size + 1, 0, none⟩ = some (.slice xb0 xb1 xb2) ∧ w'.cell? ⟨w.heap.size + 1, 1, none⟩ = some (.slice yb0 yb1 yb2) ∧ w'.cell? ⟨w.heap.size + 1, 2, none⟩ = some (.slice zb0 zb1 zb2) ∧ w'.cell? ⟨w.heap.size + 1, 3, none⟩ = some (.slice tb0 tb1 tb2)) (by kernel_rfl) ?_
  have hHeld : ((fun (w' : World) => w'.cell? ⟨w.heap.size, 0, none⟩ = some (.slice xa0 xa1 xa2) ∧ w'.cell? ⟨w.heap.size, 1, none⟩ = some (.slice ya0 ya1 ya2) ∧ w'.cell? ⟨w.heap.size, 2, none⟩ = some (.slice za0 za1 za2) ∧ w'.cell? ⟨w.heap.size, 3, none⟩ = some (.slice ta0 ta1 ta2) ∧ w'.cell? ⟨w.heap.size + 1, 0, none⟩ = some (.slice xb0 xb1 xb2) ∧ w'.cell? ⟨w.heap.size + 1, 1, none⟩ = some (.slice yb0 yb1 yb2) ∧ w'.cell? ⟨w.heap.size + 1, 2, none⟩ = some (.slice zb0 zb1 zb2) ∧ w'.cell? ⟨w.heap.size + 1, 3, none⟩ = some (.slice tb0 tb1 tb2))) (World.drew _) := ⟨HF0d.out.cell 0 0 (okb rfl) (okb rfl), HF0d.out.cell 0 1 (okb rfl) (okb rfl), HF0d.out.cell 0 2 (okb rfl) (okb rfl), HF0d.out.cell 0 3 (okb rfl) (okb rfl), HF0d.out.cell 1 0 (okb rfl) (okb rfl), HF0d.out.cell 1 1 (okb rfl) (okb rfl), HF0d.out.cell 1 2 (okb rfl) (okb rfl), HF0d.out.cell 1 3 (okb rfl) (okb rfl)⟩
  refine wpAnyK_take0 0 (v := ?v1) rfl (by kernel_rfl) (fun _ _ _ h => h) (Or.inl ⟨by rfl, ?hy1⟩) (fun _ => hHeld) ?_
  case hy1 => (intro w hSw; go_simp; try with_reducible rfl)
  try simp only [Act.put, List.setIfInBounds_toArray, List.set_cons_zero, List.set_cons_succ]
  refine wpAnyK_take 1 [4, 10] (v := ?v2) rfl (by kernel_rfl) (fun _ _ _ h => h) (Or.inl ⟨by rfl, ?hy2⟩) hHeld ?_
  case hy2 => (intro w hSw; (try dsimp only at hSw); go_simp; try with_reducible rfl)
  try simp only [Act.put, List.setIfInBounds_toArray, List.set_cons_zero, List.set_cons_succ]
  refine wpAnyK_take0 2 (v := ?v3) rfl (by kernel_rfl) (fun _ _ _ h => h) (Or.inl ⟨by rfl, ?hy3⟩) (fun _ => hHeld) ?_
  case hy3 => (intro w hSw; go_simp; try with_reducible rfl)
  try simp only [Act.put, List.setIfInBounds_toArray, List.set_cons_zero, List.set_cons_succ]
  refine wpAnyK_take 3 [4, 10] (v := ?v4) rfl (by kernel_rfl) (fun _ _ _ h => h) (Or.inl ⟨by rfl, ?hy4⟩) hHeld ?_
  case hy4 => (intro w hSw; (try dsimp only at hSw); go_simp; try with_reducible rfl)
  try simp only [Act.put, List.setIfInBounds_toArray, List.set_cons_zero, List.set_cons_succ]
  refine wpAnyK_take0 5 (v := ?v5) rfl (by kernel_rfl) (fun _ _ _ h => h) (Or.inl ⟨by rfl, ?hy5⟩) (fun _ => hHeld) ?_
  case hy5 => (intro w hSw; go_simp; try with_reducible rfl)
  try simp only [Act.put, List.setIfInBounds_toArray, List.set_cons_zero, List.set_cons_succ]
  refine wpAnyK_take 6 [9, 10] (v := ?v6) rfl (by kernel_rfl) (fun _ _ _ h => h) (Or.inl ⟨by rfl, ?hy6⟩) hHeld ?_
  case hy6 => (intro w hSw; (try dsimp only at hSw); go_simp; try with_reducible rfl)
  try simp only [Act.put, List.setIfInBounds_toArray, List.set_cons_zero, List.set_cons_succ]
  refine wpAnyK_take0 7 (v := ?v7) rfl (by kernel_rfl) (fun _ _ _ h => h) (Or.inl ⟨by rfl, ?hy7⟩) (fun _ => hHeld) ?_
  case hy7 => (intro w hSw; go_simp; try with_reducible rfl)
  try simp only [Act.put, List.setIfInBounds_toArray, List.set_cons_zero, List.set_cons_succ]
  refine wpAnyK_take 8 [9, 10] (v := ?v8) rfl (by kernel_rfl) (fun _ _ _ h => h) (Or.inl ⟨by rfl, ?hy8⟩) hHeld ?_
  case hy8 => (intro w hSw; (try dsimp only at hSw); go_simp; try with_reducible rfl)
  try simp only [Act.put, List.setIfInBounds_toArray, List.set_cons_zero, List.set_cons_succ]
  refine wpAnyK_step 4 rfl (by kernel_rfl) (fun K hK => ?_)
  go_simp
  refine (nmul_v _ _ r.x s.y 256 256 _ (HF0d.out.arg 0 (okb rfl)) (HF0d.out.arg 5 (okb rfl)) (by decide)).mono ?_
  rintro e w1 ⟨r1, rfl, h⟩
  obtain ⟨V1, HV1⟩ : ∃ V, Hid (V = r.x * s.y) := ⟨_, rfl⟩
  rw [← HV1.out] at h
  have HF1 : Hid (Fm w w1 [(68, [.slice xa0 xa1 xa2, .slice ya0 ya1 ya2, .slice za0 za1 za2, .slice ta0 ta1 ta2]), (68, [.slice xb0 xb1 xb2, .slice yb0 yb1 yb2, .slice zb0 zb1 zb2, .slice tb0 tb1 tb2]), (68, [.slice none 0 0, .slice none 0 0, .slice none 0 0, .slice none 0 0])] [(.slice xa0 xa1 xa2, r.x, 256), (.slice ya0 ya1 ya2, r.y, 256), (.slice za0 za1 za2, r.z, 256), (.slice ta0 ta1 ta2, r.t, 256), (.slice xb0 xb1 xb2, s.x, 256), (.slice yb0 yb1 yb2, s.y, 256), (.slice zb0 zb1 zb2, s.z, 256), (.slice tb0 tb1 tb2, s.t, 256)] [(r1, V1, 512)]) := HF0d.out.step h
  clear h
  try dsimp only
  refine hK.out _ _ ?hk9 ?_
  case hk9 => exact fun _ => ⟨HF1.out.cell 0 0 (okb rfl) (okb rfl), HF1.out.cell 0 1 (okb rfl) (okb rfl), HF1.out.cell 0 2 (okb rfl) (okb rfl), HF1.out.cell 0 3 (okb rfl) (okb rfl), HF1.out.cell 1 0 (okb rfl) (okb rfl), HF1.out.cell 1 1 (okb rfl) (okb rfl), HF1.out.cell 1 2 (okb rfl) (okb rfl), HF1.out.cell 1 3 (okb rfl) (okb rfl)⟩
  have hHeld : ((fun (w' : World) => w'.cell? ⟨w.heap.size, 0, none⟩ = some (.slice xa0 xa1 xa2) ∧ w'.cell? ⟨w.heap.size, 1, none⟩ = some (.slice ya0 ya1 ya2) ∧ w'.cell? ⟨w.heap.size, 2, none⟩ = some (.slice za0 za1 za2) ∧ w'.cell? ⟨w.heap.size, 3, none⟩ = some (.slice ta0 ta1 ta2) ∧ w'.cell? ⟨w.heap.size + 1, 0, none⟩ = some (.slice xb0 xb1 xb2) ∧ w'.cell? ⟨w.heap.size + 1, 1, none⟩ = some (.slice yb0 yb1 yb2) ∧ w'.cell? ⟨w.heap.size + 1, 2, none⟩ = some (.slice zb0 zb1 zb2) ∧ w'.cell? ⟨w.heap.size + 1, 3, none⟩ = some (.slice tb0 tb1 tb2))) _ := ⟨HF1.out.cell 0 0 (okb rfl) (okb rfl), HF1.out.cell 0 1 (okb rfl) (okb rfl), HF1.out.cell 0 2 (okb rfl) (okb rfl), HF1.out.cell 0 3 (okb rfl) (okb rfl), HF1.out.cell 1 0 (okb rfl) (okb rfl), HF1.out.cell 1 1 (okb rfl) (okb rfl), HF1.out.cell 1 2 (okb rfl) (okb rfl), HF1.out.cell 1 3 (okb rfl) (okb rfl)⟩
  clear hK K
  try simp only [Act.put, List.setIfInBounds_toArray, List.set_cons_zero, List.set_cons_succ]
  refine wpAnyK_step 9 rfl (by kernel_rfl) (fun K hK => ?_)
  go_simp
  refine (nmul_v _ _ s.x r.y 256 256 _ (HF1.out.arg 4 (okb rfl)) (HF1.out.arg 1 (okb rfl)) (by decide)).mono ?_
  rintro e w2 ⟨r2, rfl, h⟩
  obtain ⟨V2, HV2⟩ : ∃ V, Hid (V = s.x * r.y) := ⟨_, rfl⟩
  rw [← HV2.out] at h
  have HF2 : Hid (Fm w w2 [(68, [.slice xa0 xa1 xa2, .slice ya0 ya1 ya2, .slice za0 za1 za2, .slice ta0 ta1 ta2]), (68, [.slice xb0 xb1 xb2, .slice yb0 yb1 yb2, .slice zb0 zb1 zb2, .slice tb0 tb1 tb2]), (68, [.slice none 0 0, .slice none 0 0, .slice none 0 0, .slice none 0 0])] [(.slice xa0 xa1 xa2, r.x, 256), (.slice ya0 ya1 ya2, r.y, 256), (.slice za0 za1 za2, r.z, 256), (.slice ta0 ta1 ta2, r.t, 256), (.slice xb0 xb1 xb2, s.x, 256), (.slice yb0 yb1 yb2, s.y, 256), (.slice zb0 zb1 zb2, s.z, 256), (.slice tb0 tb1 tb2, s.t, 256)] [(r2, V2, 512), (r1, V1, 512)]) := HF1.out.step h
  clear h
  try dsimp only
  refine hK.out _ _ ?hk10 ?_
  case hk10 => exact fun _ => ⟨HF2.out.cell 0 0 (okb rfl) (okb rfl), HF2.out.cell 0 1 (okb rfl) (okb rfl), HF2.out.cell 0 2 (okb rfl) (okb rfl), HF2.out.cell 0 3 (okb rfl) (okb rfl), HF2.out.cell 1 0 (okb rfl) (okb rfl), HF2.out.cell 1 1 (okb rfl) (okb rfl), HF2.out.cell 1 2 (okb rfl) (okb rfl), HF2.out.cell 1 3 (okb rfl) (okb rfl)⟩
  have hHeld : ((fun (w' : World) => w'.cell? ⟨w.heap.size, 0, none⟩ = some (.slice xa0 xa1 xa2) ∧ w'.cell? ⟨w.heap.size, 1, none⟩ = some (.slice ya0 ya1 ya2) ∧ w'.cell? ⟨w.heap.size, 2, none⟩ = some (.slice za0 za1 za2) ∧ w'.cell? ⟨w.heap.size, 3, none⟩ = some (.slice ta0 ta1 ta2) ∧ w'.cell? ⟨w.heap.size + 1, 0, none⟩ = some (.slice xb0 xb1 xb2) ∧ w'.cell? ⟨w.heap.size + 1, 1, none⟩ = some (.slice yb0 yb1 yb2) ∧ w'.cell? ⟨w.heap.size + 1, 2, none⟩ = some (.slice zb0 zb1 zb2) ∧ w'.cell? ⟨w.heap.size + 1, 3, none⟩ = some (.slice tb0 tb1 tb2))) _ := ⟨HF2.out.cell 0 0 (okb rfl) (okb rfl), HF2.out.cell 0 1 (okb rfl) (okb rfl), HF2.out.cell 0 2 (okb rfl) (okb rfl), HF2.out.cell 0 3 (okb rfl) (okb rfl), HF2.out.cell 1 0 (okb rfl) (okb rfl), HF2.out.cell 1 1 (okb rfl) (okb rfl), HF2.out.cell 1 2 (okb rfl) (okb rfl), HF2.out.cell 1 3 (okb rfl) (okb rfl)⟩
  clear hK K
  try simp only [Act.put, List.setIfInBounds_toArray, List.set_cons_zero, List.set_cons_succ]
  refine wpAnyK_step 10 rfl (by kernel_rfl) (fun K hK => ?_)
  go_simp
  refine (eadd_v _ _ V1 V2 512 512 _ (HT.out.below HF2.out.bel (Nat.le_refl _)) (HF2.out.got 1 (okb rfl)) (HF2.out.got 0 (okb rfl)) (by decide) (by decide)).mono ?_
  rintro e w3 ⟨r3, rfl, h⟩
  obtain ⟨V3, HV3⟩ : ∃ V, Hid (V = fA eP V1 V2) := ⟨_, rfl⟩
  rw [← HV3.out] at h
  have HF3 : Hid (Fm w w3 [(68, [.slice xa0 xa1 xa2, .slice ya0 ya1 ya2, .slice za0 za1 za2, .slice ta0 ta1 ta2]), (68, [.slice xb0 xb1 xb2, .slice yb0 yb1 yb2, .slice zb0 zb1 zb2, .slice tb0 tb1 tb2]), (68, [.slice none 0 0, .slice none 0 0, .slice none 0 0, .slice none 0 0])] [(.slice xa0 xa1 xa2, r.x, 256), (.slice ya0 ya1 ya2, r.y, 256), (.slice za0 za1 za2, r.z, 256), (.slice ta0 ta1 ta2, r.t, 256), (.slice xb0 xb1 xb2, s.x, 256), (.slice yb0 yb1 yb2, s.y, 256), (.slice zb0 zb1 zb2, s.z, 256), (.slice tb0 tb1 tb2, s.t, 256)] [(r3, V3, 256), (r2, V2, 512), (r1, V1, 512)]) := HF2.out.step h
  clear h
  try dsimp only
  refine hK.out _ _ ?hk11 ?_
  case hk11 => exact fun _ => ⟨HF3.out.cell 0 0 (okb rfl) (okb rfl), HF3.out.cell 0 1 (okb rfl) (okb rfl), HF3.out.cell 0 2 (okb rfl) (okb rfl), HF3.out.cell 0 3 (okb rfl) (okb rfl), HF3.out.cell 1 0 (okb rfl) (okb rfl), HF3.out.cell 1 1 (okb rfl) (okb rfl), HF3.out.cell 1 2 (okb rfl) (okb rfl), HF3.out.cell 1 3 (okb rfl) (okb rfl)⟩
  have hHeld : ((fun (w' : World) => w'.cell? ⟨w.heap.size, 0, none⟩ = some (.slice xa0 xa1 xa2) ∧ w'.cell? ⟨w.heap.size, 1, none⟩ = some (.slice ya0 ya1 ya2) ∧ w'.cell? ⟨w.heap.size, 2, none⟩ = some (.slice za0 za1 za2) ∧ w'.cell? ⟨w.heap.size, 3, none⟩ = some (.slice ta0 ta1 ta2) ∧ w'.cell? ⟨w.heap.size + 1, 0, none⟩ = some (.slice xb0 xb1 xb2) ∧ w'.cell? ⟨w.heap.size + 1, 1, none⟩ = some (.slice yb0 yb1 yb2) ∧ w'.cell? ⟨w.heap.size + 1, 2, none⟩ = some (.slice zb0 zb1 zb2) ∧ w'.cell? ⟨w.heap.size + 1, 3, none⟩ = some (.slice tb0 tb1 tb2))) _ := ⟨HF3.out.cell 0 0 (okb rfl) (okb rfl), HF3.out.cell 0 1 (okb rfl) (okb rfl), HF3.out.cell 0 2 (okb rfl) (okb rfl), HF3.out.cell 0 3 (okb rfl) (okb rfl), HF3.out.cell 1 0 (okb rfl) (okb rfl), HF3.out.cell 1 1 (okb rfl) (okb rfl), HF3.out.cell 1 2 (okb rfl) (okb rfl), HF3.out.cell 1 3 (okb rfl) (okb rfl)⟩
  clear hK K
  try simp only [Act.put, List.setIfInBounds_toArray, List.set_cons_zero, List.set_cons_succ]
  refine wpAnyK_take0 11 (v := ?v12) rfl (by kernel_rfl) (fun _ _ _ h => h) (Or.inl ⟨by rfl, ?hy12⟩) (fun _ => hHeld) ?_
  case hy12 => (intro w hSw; go_simp; try with_reducible rfl)
  try simp only [Act.put, List.setIfInBounds_toArray, List.set_cons_zero, List.set_cons_succ]
  refine wpAnyK_done (by kernel_rfl) ?_ _
  go_wp2_with fail
  have HF3d : Hid (Fm w w3.drew [(68, [.slice xa0 xa1 xa2, .slice ya0 ya1 ya2, .slice za0 za1 za2, .slice ta0 ta1 ta2]), (68, [.slice xb0 xb1 xb2, .slice yb0 yb1 yb2, .slice zb0 zb1 zb2, .slice tb0 tb1 tb2]), (68, [.slice none 0 0, .slice none 0 0, .slice none 0 0, .slice none 0 0])] [(.slice xa0 xa1 xa2, r.x, 256), (.slice ya0 ya1 ya2, r.y, 256), (.slice za0 za1 za2, r.z, 256), (.slice ta0 ta1 ta2, r.t, 256), (.slice xb0 xb1 xb2, s.x, 256), (.slice yb0 yb1 yb2, s.y, 256), (.slice zb0 zb1 zb2, s.z, 256), (.slice tb0 tb1 tb2, s.t, 256)] [(r3, V3, 256), (r2, V2, 512), (r1, V1, 512)]) := HF3.out.drew
  refine wp_region_K 10 (fun (w' : World) => w'.cell? ⟨w.heap.size, 0, none⟩ = some (.slice xa0 xa1 xa2) ∧ w'.cell? ⟨w.heap.size, 1, none⟩ = some (.slice ya0 ya1 ya2) ∧ w'.cell? ⟨w.heap.size, 2, none⟩ = some (.slice za0 za1 za2) ∧ w'.cell? ⟨w.heap.size, 3, none⟩ = some (.slice ta0 ta1 ta2) ∧ w'.cell? ⟨w.heap.size + 1, 0, none⟩ = some (.slice xb0 xb1 xb2) ∧ w'.cell? ⟨w.heap.size + 1, 1, none⟩ = some (.slice yb0 yb1 yb2) ∧ w'.cell? ⟨w.heap.size + 1, 2, none⟩ = some (.slice zb0 zb1 zb2) ∧ w'.cell? ⟨w.heap.size + 1, 3, none⟩ = some (.slice tb0 tb1 tb2)) (by kernel_rfl) ?_
  have hHeld : ((fun (w' : World) => w'.cell? ⟨w.heap.size, 0, none⟩ = some (.slice xa0 xa1 xa2) ∧ w'.cell? ⟨w.heap.size, 1, none⟩ = some (.slice ya0 ya1 ya2) ∧ w'.cell? ⟨w.heap.size, 2, none⟩ = some (.slice za0 za1 za2) ∧ w'.cell? ⟨w.heap.size, 3, none⟩ = some (.slice ta0 ta1 ta2) ∧ w'.cell? ⟨w.heap.size + 1, 0, none⟩ = some (.slice xb0 xb1 xb2) ∧ w'.cell? ⟨w.heap.size + 1, 1, none⟩ = some (.slice yb0 yb1 yb2) ∧ w'.cell? ⟨w.heap.size + 1, 2, none⟩ = some (.slice zb0 zb1 zb2) ∧ w'.cell? ⟨w.heap.size + 1, 3, none⟩ = some (.slice tb0 tb1 tb2))) (World.drew _) := ⟨HF3d.out.cell 0 0 (okb rfl) (okb rfl), HF3d.out.cell 0 1 (okb rfl) (okb rfl), HF3d.out.cell 0 2 (okb rfl) (okb rfl), HF3d.out.cell 0 3 (okb rfl) (okb rfl), HF3d.out.cell 1 0 (okb rfl) (okb rfl), HF3d.out.cell 1 1 (okb rfl) (okb rfl), HF3d.out.cell 1 2 (okb rfl) (okb rfl), HF3d.out.cell 1 3 (okb rfl) (okb rfl)⟩
  refine wpAnyK_take0 0 (v := ?v13) rfl (by kernel_rfl) (fun _ _ _ h => h) (Or.inl ⟨by rfl, ?hy13⟩) (fun _ => hHeld) ?_
  case hy13 => (intro w hSw; go_simp; try with_reducible rfl)
  try simp only [Act.put, List.setIfInBounds_toArray, List.set_cons_zero, List.set_cons_succ]
  refine wpAnyK_take 1 [4, 10] (v := ?v14) rfl (by kernel_rfl) (fun _ _ _ h => h) (Or.inl ⟨by rfl, ?hy14⟩) hHeld ?_
  case hy14 => (intro w hSw; (try dsimp only at hSw); go_simp; try with_reducible rfl)
  try simp only [Act.put, List.setIfInBounds_toArray, List.set_cons_zero, List.set_cons_succ]
  refine wpAnyK_take0 2 (v := ?v15) rfl (by kernel_rfl) (fun _ _ _ h => h) (Or.inl ⟨by rfl, ?hy15⟩) (fun _ => hHeld) ?_
  case hy15 => (intro w hSw; go_simp; try with_reducible rfl)
  try simp only [Act.put, List.setIfInBounds_toArray, List.set_cons_zero, List.set_cons_succ]
  refine wpAnyK_take 3 [4, 10] (v := ?v16) rfl (by kernel_rfl) (fun _ _ _ h => h) (Or.inl ⟨by rfl, ?hy16⟩) hHeld ?_
  case hy16 => (intro w hSw; (try dsimp only at hSw); go_simp; try with_reducible rfl)
  try simp only [Act.put, List.setIfInBounds_toArray, List.set_cons_zero, List.set_cons_succ]
  refine wpAnyK_take0 5 (v := ?v17) rfl (by kernel_rfl) (fun _ _ _ h => h) (Or.inl ⟨by rfl, ?hy17⟩) (fun _ => hHeld) ?_
  case hy17 => (intro w hSw; go_simp; try with_reducible rfl)
  try simp only [Act.put, List.setIfInBounds_toArray, List.set_cons_zero, List.set_cons_succ]
  refine wpAnyK_take 6 [9, 10] (v := ?v18) rfl (by kernel_rfl) (fun _ _ _ h => h) (Or.inl ⟨by rfl, ?hy18⟩) hHeld ?_
  case hy18 => (intro w hSw; (try dsimp only at hSw); go_simp; try with_reducible rfl)
  try simp only [Act.put, List.setIfInBounds_toArray, List.set_cons_zero, List.set_cons_succ]
  refine wpAnyK_take0 7 (v := ?v19) rfl (by kernel_rfl) (fun _ _ _ h => h) (Or.inl ⟨by rfl, ?hy19⟩) (fun _ => hHeld) ?_
  case hy19 => (intro w hSw; go_simp; try with_reducible rfl)
  try simp only [Act.put, List.setIfInBounds_toArray, List.set_cons_zero, List.set_cons_succ]
  refine wpAnyK_take 8 [9, 10] (v := ?v20) rfl (by kernel_rfl) (fun _ _ _ h => h) (Or.inl ⟨by rfl, ?hy20⟩) hHeld ?_
  case hy20 => (intro w hSw; (try dsimp only at hSw); go_simp; try with_reducible rfl)
  try simp only [Act.put, List.setIfInBounds_toArray, List.set_cons_zero, List.set_cons_succ]
  refine wpAnyK_step 4 rfl (by kernel_rfl) (fun K hK => ?_)
  go_simp
  refine (nmul_v _ _ r.y s.y 256 256 _ (HF3d.out.arg 1 (okb rfl)) (HF3d.out.arg 5 (okb rfl)) (by decide)).mono ?_
  rintro e w4 ⟨r4, rfl, h⟩
  obtain ⟨V4, HV4⟩ : ∃ V, Hid (V = r.y * s.y) := ⟨_, rfl⟩
  rw [← HV4.out] at h
  have HF4 : Hid (Fm w w4 [(68, [.slice xa0 xa1 xa2, .slice ya0 ya1 ya2, .slice za0 za1 za2, .slice ta0 ta1 ta2]), (68, [.slice xb0 xb1 xb2, .slice yb0 yb1 yb2, .slice zb0 zb1 zb2, .slice tb0 tb1 tb2]), (68, [.slice none 0 0, .slice none 0 0, .slice none 0 0, .slice none 0 0])] [(.slice xa0 xa1 xa2, r.x, 256), (.slice ya0 ya1 ya2, r.y, 256), (.slice za0 za1 za2, r.z, 256), (.slice ta0 ta1 ta2, r.t, 256), (.slice xb0 xb1 xb2, s.x, 256), (.slice yb0 yb1 yb2, s.y, 256), (.slice zb0 zb1 zb2, s.z, 256), (.slice tb0 tb1 tb2, s.t, 256)] [(r4, V4, 512), (r3, V3, 256), (r2, V2, 512), (r1, V1, 512)]) := HF3d.out.step h
  clear h
  try dsimp only
  refine hK.out _ _ ?hk21 ?_
  case hk21 => exact fun _ => ⟨HF4.out.cell 0 0 (okb rfl) (okb rfl), HF4.out.cell 0 1 (okb rfl) (okb rfl), HF4.out.cell 0 2 (okb rfl) (okb rfl), HF4.out.cell 0 3 (okb rfl) (okb rfl), HF4.out.cell 1 0 (okb rfl) (okb rfl), HF4.out.cell 1 1 (okb rfl) (okb rfl), HF4.out.cell 1 2 (okb rfl) (okb rfl), HF4.out.cell 1 3 (okb rfl) (okb rfl)⟩
  have hHeld : ((fun (w' : World) => w'.cell? ⟨w.heap.size, 0, none⟩ = some (.slice xa0 xa1 xa2) ∧ w'.cell? ⟨w.heap.size, 1, none⟩ = some (.slice ya0 ya1 ya2) ∧ w'.cell? ⟨w.heap.size, 2, none⟩ = some (.slice za0 za1 za2) ∧ w'.cell? ⟨w.heap.size, 3, none⟩ = some (.slice ta0 ta1 ta2) ∧ w'.cell? ⟨w.heap.size + 1, 0, none⟩ = some (.slice xb0 xb1 xb2) ∧ w'.cell? ⟨w.heap.size + 1, 1, none⟩ = some (.slice yb0 yb1 yb2) ∧ w'.cell? ⟨w.heap.size + 1, 2, none⟩ = some (.slice zb0 zb1 zb2) ∧ w'.cell? ⟨w.heap.size + 1, 3, none⟩ = some (.slice tb0 tb1 tb2))) _ := ⟨HF4.out.cell 0 0 (okb rfl) (okb rfl), HF4.out.cell 0 1 (okb rfl) (okb rfl), HF4.out.cell 0 2 (okb rfl) (okb rfl), HF4.out.cell 0 3 (okb rfl) (okb rfl), HF4.out.cell 1 0 (okb rfl) (okb rfl), HF4.out.cell 1 1 (okb rfl) (okb rfl), HF4.out.cell 1 2 (okb rfl) (okb rfl), HF4.out.cell 1 3 (okb rfl) (okb rfl)⟩
  clear hK K
  try simp only [Act.put, List.setIfInBounds_toArray, List.set_cons_zero, List.set_cons_succ]
  refine wpAnyK_step 9 rfl (by kernel_rfl) (fun K hK => ?_)
  go_simp
  refine (nmul_v _ _ r.x s.x 256 256 _ (HF4.out.arg 0 (okb rfl)) (HF4.out.arg 4 (okb rfl)) (by decide)).mono ?_
  rintro e w5 ⟨r5, rfl, h⟩
  obtain ⟨V5, HV5⟩ : ∃ V, Hid (V = r.x * s.x) := ⟨_, rfl⟩
  rw [← HV5.out] at h
  have HF5 : Hid (Fm w w5 [(68, [.slice xa0 xa1 xa2, .slice ya0 ya1 ya2, .slice za0 za1 za2, .slice ta0 ta1 ta2]), (68, [.slice xb0 xb1 xb2, .slice yb0 yb1 yb2, .slice zb0 zb1 zb2, .slice tb0 tb1 tb2]), (68, [.slice none 0 0, .slice none 0 0, .slice none 0 0, .slice none 0 0])] [(.slice xa0 xa1 xa2, r.x, 256), (.slice ya0 ya1 ya2, r.y, 256), (.slice za0 za1 za2, r.z, 256), (.slice ta0 ta1 ta2, r.t, 256), (.slice xb0 xb1 xb2, s.x, 256), (.slice yb0 yb1 yb2, s.y, 256), (.slice zb0 zb1 zb2, s.z, 256), (.slice tb0 tb1 tb2, s.t, 256)] [(r5, V5, 512), (r4, V4, 512), (r3, V3, 256), (r2, V2, 512), (r1, V1, 512)]) := HF4.out.step h
  clear h
  try dsimp only
  refine hK.out _ _ ?hk22 ?_
  case hk22 => exact fun _ => ⟨HF5.out.cell 0 0 (okb rfl) (okb rfl), HF5.out.cell 0 1 (okb rfl) (okb rfl), HF5.out.cell 0 2 (okb rfl) (okb rfl), HF5.out.cell 0 3 (okb rfl) (okb rfl), HF5.out.cell 1 0 (okb rfl) (okb rfl), HF5.out.cell 1 1 (okb rfl) (okb rfl), HF5.out.cell 1 2 (okb rfl) (okb rfl), HF5.out.cell 1 3 (okb rfl) (okb rfl)⟩
  have hHeld : ((fun (w' : World) => w'.cell? ⟨w.heap.size, 0, none⟩ = some (.slice xa0 xa1 xa2) ∧ w'.cell? ⟨w.heap.size, 1, none⟩ = some (.slice ya0 ya1 ya2) ∧ w'.cell? ⟨w.heap.size, 2, none⟩ = some (.slice za0 za1 za2) ∧ w'.cell? ⟨w.heap.size, 3, none⟩ = some (.slice ta0 ta1 ta2) ∧ w'.cell? ⟨w.heap.size + 1, 0, none⟩ = some (.slice xb0 xb1 xb2) ∧ w'.cell? ⟨w.heap.size + 1, 1, none⟩ = some (.slice yb0 yb1 yb2) ∧ w'.cell? ⟨w.heap.size + 1, 2, none⟩ = some (.slice zb0 zb1 zb2) ∧ w'.cell? ⟨w.heap.size + 1, 3, none⟩ = some (.slice tb0 tb1 tb2))) _ := ⟨HF5.out.cell 0 0 (okb rfl) (okb rfl), HF5.out.cell 0 1 (okb rfl) (okb rfl), HF5.out.cell 0 2 (okb rfl) (okb rfl), HF5.out.cell 0 3 (okb rfl) (okb rfl), HF5.out.cell 1 0 (okb rfl) (okb rfl), HF5.out.cell 1 1 (okb rfl) (okb rfl), HF5.out.cell 1 2 (okb rfl) (okb rfl), HF5.out.cell 1 3 (okb rfl) (okb rfl)⟩
  clear hK K
  try simp only [Act.put, List.setIfInBounds_toArray, List.set_cons_zero, List.set_cons_succ]
  refine wpAnyK_step 10 rfl (by kernel_rfl) (fun K hK => ?_)
  go_simp
  refine (eadd_v _ _ V4 V5 512 512 _ (HT.out.below HF5.out.bel (Nat.le_refl _)) (HF5.out.got 1 (okb rfl)) (HF5.out.got 0 (okb rfl)) (by decide) (by decide)).mono ?_
  rintro e w6 ⟨r6, rfl, h⟩
  obtain ⟨V6, HV6⟩ : ∃ V, Hid (V = fA eP V4 V5) := ⟨_, rfl⟩
  rw [← HV6.out] at h
  have HF6 : Hid (Fm w w6 [(68, [.slice xa0 xa1 xa2, .slice ya0 ya1 ya2, .slice za0 za1 za2, .slice ta0 ta1 ta2]), (68, [.slice xb0 xb1 xb2, .slice yb0 yb1 yb2, .slice zb0 zb1 zb2, .slice tb0 tb1 tb2]), (68, [.slice none 0 0, .slice none 0 0, .slice none 0 0, .slice none 0 0])] [(.slice xa0 xa1 xa2, r.x, 256), (.slice ya0 ya1 ya2, r.y, 256), (.slice za0 za1 za2, r.z, 256), (.slice ta0 ta1 ta2, r.t, 256), (.slice xb0 xb1 xb2, s.x, 256), (.slice yb0 yb1 yb2, s.y, 256), (.slice zb0 zb1 zb2, s.z, 256), (.slice tb0 tb1 tb2, s.t, 256)] [(r6, V6, 256), (r5, V5, 512), (r4, V4, 512), (r3, V3, 256), (r2, V2, 512), (r1, V1, 512)]) := HF5.out.step h
  clear h
  try dsimp only
  refine hK.out _ _ ?hk23 ?_
  case hk23 => exact fun _ => ⟨HF6.out.cell 0 0 (okb rfl) (okb rfl), HF6.out.cell 0 1 (okb rfl) (okb rfl), HF6.out.cell 0 2 (okb rfl) (okb rfl), HF6.out.cell 0 3 (okb rfl) (okb rfl), HF6.out.cell 1 0 (okb rfl) (okb rfl), HF6.out.cell 1 1 (okb rfl) (okb rfl), HF6.out.cell 1 2 (okb rfl) (okb rfl), HF6.out.cell 1 3 (okb rfl) (okb rfl)⟩
  have hHeld : ((fun (w' : World) => w'.cell? ⟨w.heap.size, 0, none⟩ = some (.slice xa0 xa1 xa2) ∧ w'.cell? ⟨w.heap.size, 1, none⟩ = some (.slice ya0 ya1 ya2) ∧ w'.cell? ⟨w.heap.size, 2, none⟩ = some (.slice za0 za1 za2) ∧ w'.cell? ⟨w.heap.size, 3, none⟩ = some (.slice ta0 ta1 ta2) ∧ w'.cell? ⟨w.heap.size + 1, 0, none⟩ = some (.slice xb0 xb1 xb2) ∧ w'.cell? ⟨w.heap.size + 1, 1, none⟩ = some (.slice yb0 yb1 yb2) ∧ w'.cell? ⟨w.heap.size + 1, 2, none⟩ = some (.slice zb0 zb1 zb2) ∧ w'.cell? ⟨w.heap.size + 1, 3, none⟩ = some (.slice tb0 tb1 tb2))) _ := ⟨HF6.out.cell 0 0 (okb rfl) (okb rfl), HF6.out.cell 0 1 (okb rfl) (okb rfl), HF6.out.cell 0 2 (okb rfl) (okb rfl), HF6.out.cell 0 3 (okb rfl) (okb rfl), HF6.out.cell 1 0 (okb rfl) (okb rfl), HF6.out.cell 1 1 (okb rfl) (okb rfl), HF6.out.cell 1 2 (okb rfl) (okb rfl), HF6.out.cell 1 3 (okb rfl) (okb rfl)⟩
  clear hK K
  try simp only [Act.put, List.setIfInBounds_toArray, List.set_cons_zero, List.set_cons_succ]
  refine wpAnyK_take0 11 (v := ?v24) rfl (by kernel_rfl) (fun _ _ _ h => h) (Or.inl ⟨by rfl, ?hy24⟩) (fun _ => hHeld) ?_
  case hy24 => (intro w hSw; go_simp; try with_reducible rfl)
  try simp only [Act.put, List.setIfInBounds_toArray, List.set_cons_zero, List.set_cons_succ]
  refine wpAnyK_done (by kernel_rfl) ?_ _
  have c0_0 : w6.cell? ⟨w.heap.size, 0, none⟩ = some (.slice xa0 xa1 xa2) := HF6.out.cell 0 0 (okb rfl) (okb rfl)
  have c0_1 : w6.cell? ⟨w.heap.size, 1, none⟩ = some (.slice ya0 ya1 ya2) := HF6.out.cell 0 1 (okb rfl) (okb rfl)
  have c0_2 : w6.cell? ⟨w.heap.size, 2, none⟩ = some (.slice za0 za1 za2) := HF6.out.cell 0 2 (okb rfl) (okb rfl)
  have c0_3 : w6.cell? ⟨w.heap.size, 3, none⟩ = some (.slice ta0 ta1 ta2) := HF6.out.cell 0 3 (okb rfl) (okb rfl)
  have c1_0 : w6.cell? ⟨w.heap.size + 1, 0, none⟩ = some (.slice xb0 xb1 xb2) := HF6.out.cell 1 0 (okb rfl) (okb rfl)
  have c1_1 : w6.cell? ⟨w.heap.size + 1, 1, none⟩ = some (.slice yb0 yb1 yb2) := HF6.out.cell 1 1 (okb rfl) (okb rfl)
  have c1_2 : w6.cell? ⟨w.heap.size + 1, 2, none⟩ = some (.slice zb0 zb1 zb2) := HF6.out.cell 1 2 (okb rfl) (okb rfl)
  have c1_3 : w6.cell? ⟨w.heap.size + 1, 3, none⟩ = some (.slice tb0 tb1 tb2) := HF6.out.cell 1 3 (okb rfl) (okb rfl)
  go_wp2_with fail
  refine (emul_v _ _ r.z s.z 256 256 _ (HT.out.below HF6.out.bel (Nat.le_refl _)) (HF6.out.arg 2 (okb rfl)) (HF6.out.arg 6 (okb rfl)) (by decide) (by decide)).mono ?_
  rintro e w7 ⟨r7, rfl, h⟩
  obtain ⟨V7, HV7⟩ : ∃ V, Hid (V = fM eP r.z s.z) := ⟨_, rfl⟩
  rw [← HV7.out] at h
  have HF7 : Hid (Fm w w7 [(68, [.slice xa0 xa1 xa2, .slice ya0 ya1 ya2, .slice za0 za1 za2, .slice ta0 ta1 ta2]), (68, [.slice xb0 xb1 xb2, .slice yb0 yb1 yb2, .slice zb0 zb1 zb2, .slice tb0 tb1 tb2]), (68, [.slice none 0 0, .slice none 0 0, .slice none 0 0, .slice none 0 0])] [(.slice xa0 xa1 xa2, r.x, 256), (.slice ya0 ya1 ya2, r.y, 256), (.slice za0 za1 za2, r.z, 256), (.slice ta0 ta1 ta2, r.t, 256), (.slice xb0 xb1 xb2, s.x, 256), (.slice yb0 yb1 yb2, s.y, 256), (.slice zb0 zb1 zb2, s.z, 256), (.slice tb0 tb1 tb2, s.t, 256)] [(r7, V7, 256), (r6, V6, 256), (r5, V5, 512), (r4, V4, 512), (r3, V3, 256), (r2, V2, 512), (r1, V1, 512)]) := HF6.out.step h
  clear h
  clear c0_0 c0_1 c0_2 c0_3 c1_0 c1_1 c1_2 c1_3
  go_wp2_with fail
  have HF7d : Hid (Fm w w7.drew [(68, [.slice xa0 xa1 xa2, .slice ya0 ya1 ya2, .slice za0 za1 za2, .slice ta0 ta1 ta2]), (68, [.slice xb0 xb1 xb2, .slice yb0 yb1 yb2, .slice zb0 zb1 zb2, .slice tb0 tb1 tb2]), (68, [.slice none 0 0, .slice none 0 0, .slice none 0 0, .slice none 0 0])] [(.slice xa0 xa1 xa2, r.x, 256), (.slice ya0 ya1 ya2, r.y, 256), (.slice za0 za1 za2, r.z, 256), (.slice ta0 ta1 ta2, r.t, 256), (.slice xb0 xb1 xb2, s.x, 256), (.slice yb0 yb1 yb2, s.y, 256), (.slice zb0 zb1 zb2, s.z, 256), (.slice tb0 tb1 tb2, s.t, 256)] [(r7, V7, 256), (r6, V6, 256), (r5, V5, 512), (r4, V4, 512), (r3, V3, 256), (r2, V2, 512), (r1, V1, 512)]) := HF7.out.drew
  refine wp_region_K 7 (fun (w' : World) => w'.cell? ⟨w.heap.size, 0, none⟩ = some (.slice xa0 xa1 xa2) ∧ w'.cell? ⟨w.heap.size, 1, none⟩ = some (.slice ya0 ya1 ya2) ∧ w'.cell? ⟨w.heap.size, 2, none⟩ = some (.slice za0 za1 za2) ∧ w'.cell? ⟨w.heap.size, 3, none⟩ = some (.slice ta0 ta1 ta2) ∧ w'.cell? ⟨w.heap.size + 1, 0, none⟩ = some (.slice xb0 xb1 xb2) ∧ w'.cell? ⟨w.heap.size + 1, 1, none⟩ = some (.slice yb0 yb1 yb2) ∧ w'.cell? ⟨w.heap.size + 1, 2, none⟩ = some (.slice zb0 zb1 zb2) ∧ w'.cell? ⟨w.heap.size + 1, 3, none⟩ = some (.slice tb0 tb1 tb2) ∧ T8 w' 3 lD) (by kernel_rfl) ?_
  have hHeld : ((fun (w' : World) => w'.cell? ⟨w.heap.size, 0, none⟩ = some (.slice xa0 xa1 xa2) ∧ w'.cell? ⟨w.heap.size, 1, none⟩ = some (.slice ya0 ya1 ya2) ∧ w'.cell? ⟨w.heap.size, 2, none⟩ = some (.slice za0 za1 za2) ∧ w'.cell? ⟨w.heap.size, 3, none⟩ = some (.slice ta0 ta1 ta2) ∧ w'.cell? ⟨w.heap.size + 1, 0, none⟩ = some (.slice xb0 xb1 xb2) ∧ w'.cell? ⟨w.heap.size + 1, 1, none⟩ = some (.slice yb0 yb1 yb2) ∧ w'.cell? ⟨w.heap.size + 1, 2, none⟩ = some (.slice zb0 zb1 zb2) ∧ w'.cell? ⟨w.heap.size + 1, 3, none⟩ = some (.slice tb0 tb1 tb2) ∧ T8 w' 3 lD)) (World.drew _) := ⟨HF7d.out.cell 0 0 (okb rfl) (okb rfl), HF7d.out.cell 0 1 (okb rfl) (okb rfl), HF7d.out.cell 0 2 (okb rfl) (okb rfl), HF7d.out.cell 0 3 (okb rfl) (okb rfl), HF7d.out.cell 1 0 (okb rfl) (okb rfl), HF7d.out.cell 1 1 (okb rfl) (okb rfl), HF7d.out.cell 1 2 (okb rfl) (okb rfl), HF7d.out.cell 1 3 (okb rfl) (okb rfl), (HT.out.below HF7d.out.bel (Nat.le_refl _)).d⟩
  refine wpAnyK_take 0 [1, 7] (v := ?vt25) rfl (by kernel_rfl) (fun _ _ _ h => h) (Or.inl ⟨by rfl, ?ht25⟩) hHeld ?_
  case ht25 => (intro w hSw; (try dsimp only at hSw); obtain ⟨q0, q1, q2, q3, q4, q5, q6, q7⟩ := tb8D hSw.2.2.2.2.2.2.2.2; go_simp; try with_reducible rfl)
  try simp only [Act.put, List.setIfInBounds_toArray, List.set_cons_zero, List.set_cons_succ]
  refine wpAnyK_take0 2 (v := ?v27) rfl (by kernel_rfl) (fun _ _ _ h => h) (Or.inl ⟨by rfl, ?hy27⟩) (fun _ => hHeld) ?_
  case hy27 => (intro w hSw; go_simp; try with_reducible rfl)
  try simp only [Act.put, List.setIfInBounds_toArray, List.set_cons_zero, List.set_cons_succ]
  refine wpAnyK_take 3 [6, 7] (v := ?v28) rfl (by kernel_rfl) (fun _ _ _ h => h) (Or.inl ⟨by rfl, ?hy28⟩) hHeld ?_
  case hy28 => (intro w hSw; (try dsimp only at hSw); go_simp; try with_reducible rfl)
  try simp only [Act.put, List.setIfInBounds_toArray, List.set_cons_zero, List.set_cons_succ]
  refine wpAnyK_take0 4 (v := ?v29) rfl (by kernel_rfl) (fun _ _ _ h => h) (Or.inl ⟨by rfl, ?hy29⟩) (fun _ => hHeld) ?_
  case hy29 => (intro w hSw; go_simp; try with_reducible rfl)
  try simp only [Act.put, List.setIfInBounds_toArray, List.set_cons_zero, List.set_cons_succ]
  refine wpAnyK_take 5 [6, 7] (v := ?v30) rfl (by kernel_rfl) (fun _ _ _ h => h) (Or.inl ⟨by rfl, ?hy30⟩) hHeld ?_
  case hy30 => (intro w hSw; (try dsimp only at hSw); go_simp; try with_reducible rfl)
  try simp only [Act.put, List.setIfInBounds_toArray, List.set_cons_zero, List.set_cons_succ]
  refine wpAnyK_step 1 rfl (by kernel_rfl) (fun K hK => ?_)
  go_simp
  refine (numD _).mono ?_
  rintro e w8 ⟨r8, rfl, h⟩
  have HF8 : Hid (Fm w w8 [(68, [.slice xa0 xa1 xa2, .slice ya0 ya1 ya2, .slice za0 za1 za2, .slice ta0 ta1 ta2]), (68, [.slice xb0 xb1 xb2, .slice yb0 yb1 yb2, .slice zb0 zb1 zb2, .slice tb0 tb1 tb2]), (68, [.slice none 0 0, .slice none 0 0, .slice none 0 0, .slice none 0 0])] [(.slice xa0 xa1 xa2, r.x, 256), (.slice ya0 ya1 ya2, r.y, 256), (.slice za0 za1 za2, r.z, 256), (.slice ta0 ta1 ta2, r.t, 256), (.slice xb0 xb1 xb2, s.x, 256), (.slice yb0 yb1 yb2, s.y, 256), (.slice zb0 zb1 zb2, s.z, 256), (.slice tb0 tb1 tb2, s.t, 256)] [(r8, eD, 256), (r7, V7, 256), (r6, V6, 256), (r5, V5, 512), (r4, V4, 512), (r3, V3, 256), (r2, V2, 512), (r1, V1, 512)]) := HF7d.out.step h
  clear h
  try dsimp only
  refine hK.out _ _ ?hk31 ?_
  case hk31 => exact fun _ => ⟨HF8.out.cell 0 0 (okb rfl) (okb rfl), HF8.out.cell 0 1 (okb rfl) (okb rfl), HF8.out.cell 0 2 (okb rfl) (okb rfl), HF8.out.cell 0 3 (okb rfl) (okb rfl), HF8.out.cell 1 0 (okb rfl) (okb rfl), HF8.out.cell 1 1 (okb rfl) (okb rfl), HF8.out.cell 1 2 (okb rfl) (okb rfl), HF8.out.cell 1 3 (okb rfl) (okb rfl), (HT.out.below HF8.out.bel (Nat.le_refl _)).d⟩
  have hHeld : ((fun (w' : World) => w'.cell? ⟨w.heap.size, 0, none⟩ = some (.slice xa0 xa1 xa2) ∧ w'.cell? ⟨w.heap.size, 1, none⟩ = some (.slice ya0 ya1 ya2) ∧ w'.cell? ⟨w.heap.size, 2, none⟩ = some (.slice za0 za1 za2) ∧ w'.cell? ⟨w.heap.size, 3, none⟩ = some (.slice ta0 ta1 ta2) ∧ w'.cell? ⟨w.heap.size + 1, 0, none⟩ = some (.slice xb0 xb1 xb2) ∧ w'.cell? ⟨w.heap.size + 1, 1, none⟩ = some (.slice yb0 yb1 yb2) ∧ w'.cell? ⟨w.heap.size + 1, 2, none⟩ = some (.slice zb0 zb1 zb2) ∧ w'.cell? ⟨w.heap.size + 1, 3, none⟩ = some (.slice tb0 tb1 tb2) ∧ T8 w' 3 lD)) _ := ⟨HF8.out.cell 0 0 (okb rfl) (okb rfl), HF8.out.cell 0 1 (okb rfl) (okb rfl), HF8.out.cell 0 2 (okb rfl) (okb rfl), HF8.out.cell 0 3 (okb rfl) (okb rfl), HF8.out.cell 1 0 (okb rfl) (okb rfl), HF8.out.cell 1 1 (okb rfl) (okb rfl), HF8.out.cell 1 2 (okb rfl) (okb rfl), HF8.out.cell 1 3 (okb rfl) (okb rfl), (HT.out.below HF8.out.bel (Nat.le_refl _)).d⟩
  clear hK K
  try simp only [Act.put, List.setIfInBounds_toArray, List.set_cons_zero, List.set_cons_succ]
  refine wpAnyK_step 6 rfl (by kernel_rfl) (fun K hK => ?_)
  go_simp
  refine (emul_v _ _ r.t s.t 256 256 _ (HT.out.below HF8.out.bel (Nat.le_refl _)) (HF8.out.arg 3 (okb rfl)) (HF8.out.arg 7 (okb rfl)) (by decide) (by decide)).mono ?_
  rintro e w9 ⟨r9, rfl, h⟩
  obtain ⟨V9, HV9⟩ : ∃ V, Hid (V = fM eP r.t s.t) := ⟨_, rfl⟩
  rw [← HV9.out] at h
  have HF9 : Hid (Fm w w9 [(68, [.slice xa0 xa1 xa2, .slice ya0 ya1 ya2, .slice za0 za1 za2, .slice ta0 ta1 ta2]), (68, [.slice xb0 xb1 xb2, .slice yb0 yb1 yb2, .slice zb0 zb1 zb2, .slice tb0 tb1 tb2]), (68, [.slice none 0 0, .slice none 0 0, .slice none 0 0, .slice none 0 0])] [(.slice xa0 xa1 xa2, r.x, 256), (.slice ya0 ya1 ya2, r.y, 256), (.slice za0 za1 za2, r.z, 256), (.slice ta0 ta1 ta2, r.t, 256), (.slice xb0 xb1 xb2, s.x, 256), (.slice yb0 yb1 yb2, s.y, 256), (.slice zb0 zb1 zb2, s.z, 256), (.slice tb0 tb1 tb2, s.t, 256)] [(r9, V9, 256), (r8, eD, 256), (r7, V7, 256), (r6, V6, 256), (r5, V5, 512), (r4, V4, 512), (r3, V3, 256), (r2, V2, 512), (r1, V1, 512)]) := HF8.out.step h
  clear h
  try dsimp only
  refine hK.out _ _ ?hk32 ?_
  case hk32 => exact fun _ => ⟨HF9.out.cell 0 0 (okb rfl) (okb rfl), HF9.out.cell 0 1 (okb rfl) (okb rfl), HF9.out.cell 0 2 (okb rfl) (okb rfl), HF9.out.cell 0 3 (okb rfl) (okb rfl), HF9.out.cell 1 0 (okb rfl) (okb rfl), HF9.out.cell 1 1 (okb rfl) (okb rfl), HF9.out.cell 1 2 (okb rfl) (okb rfl), HF9.out.cell 1 3 (okb rfl) (okb rfl), (HT.out.below HF9.out.bel (Nat.le_refl _)).d⟩
  have hHeld : ((fun (w' : World) => w'.cell? ⟨w.heap.size, 0, none⟩ = some (.slice xa0 xa1 xa2) ∧ w'.cell? ⟨w.heap.size, 1, none⟩ = some (.slice ya0 ya1 ya2) ∧ w'.cell? ⟨w.heap.size, 2, none⟩ = some (.slice za0 za1 za2) ∧ w'.cell? ⟨w.heap.size, 3, none⟩ = some (.slice ta0 ta1 ta2) ∧ w'.cell? ⟨w.heap.size + 1, 0, none⟩ = some (.slice xb0 xb1 xb2) ∧ w'.cell? ⟨w.heap.size + 1, 1, none⟩ = some (.slice yb0 yb1 yb2) ∧ w'.cell? ⟨w.heap.size + 1, 2, none⟩ = some (.slice zb0 zb1 zb2) ∧ w'.cell? ⟨w.heap.size + 1, 3, none⟩ = some (.slice tb0 tb1 tb2) ∧ T8 w' 3 lD)) _ := ⟨HF9.out.cell 0 0 (okb rfl) (okb rfl), HF9.out.cell 0 1 (okb rfl) (okb rfl), HF9.out.cell 0 2 (okb rfl) (okb rfl), HF9.out.cell 0 3 (okb rfl) (okb rfl), HF9.out.cell 1 0 (okb rfl) (okb rfl), HF9.out.cell 1 1 (okb rfl) (okb rfl), HF9.out.cell 1 2 (okb rfl) (okb rfl), HF9.out.cell 1 3 (okb rfl) (okb rfl), (HT.out.below HF9.out.bel (Nat.le_refl _)).d⟩
  clear hK K
  try simp only [Act.put, List.setIfInBounds_toArray, List.set_cons_zero, List.set_cons_succ]
  refine wpAnyK_step 7 rfl (by kernel_rfl) (fun K hK => ?_)
  go_simp
  refine (emul_v _ _ eD V9 256 256 _ (HT.out.below HF9.out.bel (Nat.le_refl _)) (HF9.out.got 1 (okb rfl)) (HF9.out.got 0 (okb rfl)) (by decide) (by decide)).mono ?_
  rintro e w10 ⟨r10, rfl, h⟩
  obtain ⟨V10, HV10⟩ : ∃ V, Hid (V = fM eP eD V9) := ⟨_, rfl⟩
  rw [← HV10.out] at h
  have HF10 : Hid (Fm w w10 [(68, [.slice xa0 xa1 xa2, .slice ya0 ya1 ya2, .slice za0 za1 za2, .slice ta0 ta1 ta2]), (68, [.slice xb0 xb1 xb2, .slice yb0 yb1 yb2, .slice zb0 zb1 zb2, .slice tb0 tb1 tb2]), (68, [.slice none 0 0, .slice none 0 0, .slice none 0 0, .slice none 0 0])] [(.slice xa0 xa1 xa2, r.x, 256), (.slice ya0 ya1 ya2, r.y, 256), (.slice za0 za1 za2, r.z, 256), (.slice ta0 ta1 ta2, r.t, 256), (.slice xb0 xb1 xb2, s.x, 256), (.slice yb0 yb1 yb2, s.y, 256), (.slice zb0 zb1 zb2, s.z, 256), (.slice tb0 tb1 tb2, s.t, 256)] [(r10, V10, 256), (r9, V9, 256), (r8, eD, 256), (r7, V7, 256), (r6, V6, 256), (r5, V5, 512), (r4, V4, 512), (r3, V3, 256), (r2, V2, 512), (r1, V1, 512)]) := HF9.out.step h
  clear h
  try dsimp only
  refine hK.out _ _ ?hk33 ?_
  case hk33 => exact fun _ => ⟨HF10.out.cell 0 0 (okb rfl) (okb rfl), HF10.out.cell 0 1 (okb rfl) (okb rfl), HF10.out.cell 0 2 (okb rfl) (okb rfl), HF10.out.cell 0 3 (okb rfl) (okb rfl), HF10.out.cell 1 0 (okb rfl) (okb rfl), HF10.out.cell 1 1 (okb rfl) (okb rfl), HF10.out.cell 1 2 (okb rfl) (okb rfl), HF10.out.cell 1 3 (okb rfl) (okb rfl), (HT.out.below HF10.out.bel (Nat.le_refl _)).d⟩
  have hHeld : ((fun (w' : World) => w'.cell? ⟨w.heap.size, 0, none⟩ = some (.slice xa0 xa1 xa2) ∧ w'.cell? ⟨w.heap.size, 1, none⟩ = some (.slice ya0 ya1 ya2) ∧ w'.cell? ⟨w.heap.size, 2, none⟩ = some (.slice za0 za1 za2) ∧ w'.cell? ⟨w.heap.size, 3, none⟩ = some (.slice ta0 ta1 ta2) ∧ w'.cell? ⟨w.heap.size + 1, 0, none⟩ = some (.slice xb0 xb1 xb2) ∧ w'.cell? ⟨w.heap.size + 1, 1, none⟩ = some (.slice yb0 yb1 yb2) ∧ w'.cell? ⟨w.heap.size + 1, 2, none⟩ = some (.slice zb0 zb1 zb2) ∧ w'.cell? ⟨w.heap.size + 1, 3, none⟩ = some (.slice tb0 tb1 tb2) ∧ T8 w' 3 lD)) _ := ⟨HF10.out.cell 0 0 (okb rfl) (okb rfl), HF10.out.cell 0 1 (okb rfl) (okb rfl), HF10.out.cell 0 2 (okb rfl) (okb rfl), HF10.out.cell 0 3 (okb rfl) (okb rfl), HF10.out.cell 1 0 (okb rfl) (okb rfl), HF10.out.cell 1 1 (okb rfl) (okb rfl), HF10.out.cell 1 2 (okb rfl) (okb rfl), HF10.out.cell 1 3 (okb rfl) (okb rfl), (HT.out.below HF10.out.bel (Nat.le_refl _)).d⟩
  clear hK K
  try simp only [Act.put, List.setIfInBounds_toArray, List.set_cons_zero, List.set_cons_succ]
  refine wpAnyK_take0 8 (v := ?v34) rfl (by kernel_rfl) (fun _ _ _ h => h) (Or.inl ⟨by rfl, ?hy34⟩) (fun _ => hHeld) ?_
  case hy34 => (intro w hSw; go_simp; try with_reducible rfl)
  try simp only [Act.put, List.setIfInBounds_toArray, List.set_cons_zero, List.set_cons_succ]
  refine wpAnyK_done (by kernel_rfl) ?_ _
  go_wp2_with fail
  refine (eadd_v _ _ V7 V10 256 256 _ (HT.out.below HF10.out.bel (Nat.le_refl _)) (HF10.out.got 3 (okb rfl)) (HF10.out.got 0 (okb rfl)) (by decide) (by decide)).mono ?_
  rintro e w11 ⟨r11, rfl, h⟩
  obtain ⟨V11, HV11⟩ : ∃ V, Hid (V = fA eP V7 V10) := ⟨_, rfl⟩
  rw [← HV11.out] at h
  have HF11 : Hid (Fm w w11 [(68, [.slice xa0 xa1 xa2, .slice ya0 ya1 ya2, .slice za0 za1 za2, .slice ta0 ta1 ta2]), (68, [.slice xb0 xb1 xb2, .slice yb0 yb1 yb2, .slice zb0 zb1 zb2, .slice tb0 tb1 tb2]), (68, [.slice none 0 0, .slice none 0 0, .slice none 0 0, .slice none 0 0])] [(.slice xa0 xa1 xa2, r.x, 256), (.slice ya0 ya1 ya2, r.y, 256), (.slice za0 za1 za2, r.z, 256), (.slice ta0 ta1 ta2, r.t, 256), (.slice xb0 xb1 xb2, s.x, 256), (.slice yb0 yb1 yb2, s.y, 256), (.slice zb0 zb1 zb2, s.z, 256), (.slice tb0 tb1 tb2, s.t, 256)] [(r11, V11, 256), (r10, V10, 256), (r9, V9, 256), (r8, eD, 256), (r7, V7, 256), (r6, V6, 256), (r5, V5, 512), (r4, V4, 512), (r3, V3, 256), (r2, V2, 512), (r1, V1, 512)]) := HF10.out.step h
  clear h
  go_wp2_with fail
  refine (esub_v _ _ V7 V10 256 256 _ (HT.out.below HF11.out.bel (Nat.le_refl _)) (HF11.out.got 4 (okb rfl)) (HF11.out.got 1 (okb rfl)) (by decide) (by decide)).mono ?_
  rintro e w12 ⟨r12, rfl, h⟩
  obtain ⟨V12, HV12⟩ : ∃ V, Hid (V = fS eP V7 V10) := ⟨_, rfl⟩
  rw [← HV12.out] at h
  have HF12 : Hid (Fm w w12 [(68, [.slice xa0 xa1 xa2, .slice ya0 ya1 ya2, .slice za0 za1 za2, .slice ta0 ta1 ta2]), (68, [.slice xb0 xb1 xb2, .slice yb0 yb1 yb2, .slice zb0 zb1 zb2, .slice tb0 tb1 tb2]), (68, [.slice none 0 0, .slice none 0 0, .slice none 0 0, .slice none 0 0])] [(.slice xa0 xa1 xa2, r.x, 256), (.slice ya0 ya1 ya2, r.y, 256), (.slice za0 za1 za2, r.z, 256), (.slice ta0 ta1 ta2, r.t, 256), (.slice xb0 xb1 xb2, s.x, 256), (.slice yb0 yb1 yb2, s.y, 256), (.slice zb0 zb1 zb2, s.z, 256), (.slice tb0 tb1 tb2, s.t, 256)] [(r12, V12, 256), (r11, V11, 256), (r10, V10, 256), (r9, V9, 256), (r8, eD, 256), (r7, V7, 256), (r6, V6, 256), (r5, V5, 512), (r4, V4, 512), (r3, V3, 256), (r2, V2, 512), (r1, V1, 512)]) := HF11.out.step h
  clear h
  go_wp2_with fail
  refine (emul_v _ _ V3 V12 256 256 _ (HT.out.below HF12.out.bel (Nat.le_refl _)) (HF12.out.got 9 (okb rfl)) (HF12.out.got 0 (okb rfl)) (by decide) (by decide)).mono ?_
  rintro e w13 ⟨r13, rfl, h⟩
  obtain ⟨V13, HV13⟩ : ∃ V, Hid (V = fM eP V3 V12) := ⟨_, rfl⟩
  rw [← HV13.out] at h
  have HF13 : Hid (Fm w w13 [(68, [.slice xa0 xa1 xa2, .slice ya0 ya1 ya2, .slice za0 za1 za2, .slice ta0 ta1 ta2]), (68, [.slice xb0 xb1 xb2, .slice yb0 yb1 yb2, .slice zb0 zb1 zb2, .slice tb0 tb1 tb2]), (68, [.slice none 0 0, .slice none 0 0, .slice none 0 0, .slice none 0 0])] [(.slice xa0 xa1 xa2, r.x, 256), (.slice ya0 ya1 ya2, r.y, 256), (.slice za0 za1 za2, r.z, 256), (.slice ta0 ta1 ta2, r.t, 256), (.slice xb0 xb1 xb2, s.x, 256), (.slice yb0 yb1 yb2, s.y, 256), (.slice zb0 zb1 zb2, s.z, 256), (.slice tb0 tb1 tb2, s.t, 256)] [(r13, V13, 256), (r12, V12, 256), (r11, V11, 256), (r10, V10, 256), (r9, V9, 256), (r8, eD, 256), (r7, V7, 256), (r6, V6, 256), (r5, V5, 512), (r4, V4, 512), (r3, V3, 256), (r2, V2, 512), (r1, V1, 512)]) := HF12.out.step h
  clear h
  go_wp2_with fail
  refine (emul_v _ _ V6 V11 256 256 _ (HT.out.below HF13.out.bel (Nat.le_refl _)) (HF13.out.got 7 (okb rfl)) (HF13.out.got 2 (okb rfl)) (by decide) (by decide)).mono ?_
  rintro e w14 ⟨r14, rfl, h⟩
  obtain ⟨V14, HV14⟩ : ∃ V, Hid (V = fM eP V6 V11) := ⟨_, rfl⟩
  rw [← HV14.out] at h
  have HF14 : Hid (Fm w w14 [(68, [.slice xa0 xa1 xa2, .slice ya0 ya1 ya2, .slice za0 za1 za2, .slice ta0 ta1 ta2]), (68, [.slice xb0 xb1 xb2, .slice yb0 yb1 yb2, .slice zb0 zb1 zb2, .slice tb0 tb1 tb2]), (68, [.slice none 0 0, .slice none 0 0, .slice none 0 0, .slice none 0 0])] [(.slice xa0 xa1 xa2, r.x, 256), (.slice ya0 ya1 ya2, r.y, 256), (.slice za0 za1 za2, r.z, 256), (.slice ta0 ta1 ta2, r.t, 256), (.slice xb0 xb1 xb2, s.x, 256), (.slice yb0 yb1 yb2, s.y, 256), (.slice zb0 zb1 zb2, s.z, 256), (.slice tb0 tb1 tb2, s.t, 256)] [(r14, V14, 256), (r13, V13, 256), (r12, V12, 256), (r11, V11, 256), (r10, V10, 256), (r9, V9, 256), (r8, eD, 256), (r7, V7, 256), (r6, V6, 256), (r5, V5, 512), (r4, V4, 512), (r3, V3, 256), (r2, V2, 512), (r1, V1, 512)]) := HF13.out.step h
  clear h
  go_wp2_with fail
  refine (emul_v _ _ V11 V12 256 256 _ (HT.out.below HF14.out.bel (Nat.le_refl _)) (HF14.out.got 3 (okb rfl)) (HF14.out.got 2 (okb rfl)) (by decide) (by decide)).mono ?_
  rintro e w15 ⟨r15, rfl, h⟩
  obtain ⟨V15, HV15⟩ : ∃ V, Hid (V = fM eP V11 V12) := ⟨_, rfl⟩
  rw [← HV15.out] at h
  have HF15 : Hid (Fm w w15 [(68, [.slice xa0 xa1 xa2, .slice ya0 ya1 ya2, .slice za0 za1 za2, .slice ta0 ta1 ta2]), (68, [.slice xb0 xb1 xb2, .slice yb0 yb1 yb2, .slice zb0 zb1 zb2, .slice tb0 tb1 tb2]), (68, [.slice none 0 0, .slice none 0 0, .slice none 0 0, .slice none 0 0])] [(.slice xa0 xa1 xa2, r.x, 256), (.slice ya0 ya1 ya2, r.y, 256), (.slice za0 za1 za2, r.z, 256), (.slice ta0 ta1 ta2, r.t, 256), (.slice xb0 xb1 xb2, s.x, 256), (.slice yb0 yb1 yb2, s.y, 256), (.slice zb0 zb1 zb2, s.z, 256), (.slice tb0 tb1 tb2, s.t, 256)] [(r15, V15, 256), (r14, V14, 256), (r13, V13, 256), (r12, V12, 256), (r11, V11, 256), (r10, V10, 256), (r9, V9, 256), (r8, eD, 256), (r7, V7, 256), (r6, V6, 256), (r5, V5, 512), (r4, V4, 512), (r3, V3, 256), (r2, V2, 512), (r1, V1, 512)]) := HF14.out.step h
  clear h
  go_wp2_with fail
  refine (emul_v _ _ V3 V6 256 256 _ (HT.out.below HF15.out.bel (Nat.le_refl _)) (HF15.out.got 12 (okb rfl)) (HF15.out.got 9 (okb rfl)) (by decide) (by decide)).mono ?_
  rintro e w16 ⟨r16, rfl, h⟩
  obtain ⟨V16, HV16⟩ : ∃ V, Hid (V = fM eP V3 V6) := ⟨_, rfl⟩
  rw [← HV16.out] at h
  have HF16 : Hid (Fm w w16 [(68, [.slice xa0 xa1 xa2, .slice ya0 ya1 ya2, .slice za0 za1 za2, .slice ta0 ta1 ta2]), (68, [.slice xb0 xb1 xb2, .slice yb0 yb1 yb2, .slice zb0 zb1 zb2, .slice tb0 tb1 tb2]), (68, [.slice none 0 0, .slice none 0 0, .slice none 0 0, .slice none 0 0])] [(.slice xa0 xa1 xa2, r.x, 256), (.slice ya0 ya1 ya2, r.y, 256), (.slice za0 za1 za2, r.z, 256), (.slice ta0 ta1 ta2, r.t, 256), (.slice xb0 xb1 xb2, s.x, 256), (.slice yb0 yb1 yb2, s.y, 256), (.slice zb0 zb1 zb2, s.z, 256), (.slice tb0 tb1 tb2, s.t, 256)] [(r16, V16, 256), (r15, V15, 256), (r14, V14, 256), (r13, V13, 256), (r12, V12, 256), (r11, V11, 256), (r10, V10, 256), (r9, V9, 256), (r8, eD, 256), (r7, V7, 256), (r6, V6, 256), (r5, V5, 512), (r4, V4, 512), (r3, V3, 256), (r2, V2, 512), (r1, V1, 512)]) := HF15.out.step h
  clear h
  obtain ⟨q00, q01, q02, rfl⟩ := (HF16.out.got 3 (okb rfl)).sl
  obtain ⟨q10, q11, q12, rfl⟩ := (HF16.out.got 2 (okb rfl)).sl
  obtain ⟨q20, q21, q22, rfl⟩ := (HF16.out.got 1 (okb rfl)).sl
  obtain ⟨q30, q31, q32, rfl⟩ := (HF16.out.got 0 (okb rfl)).sl
  have c2_0 : w16.cell? ⟨w.heap.size + 2, 0, none⟩ = some (.slice none 0 0) := HF16.out.cell 2 0 (okb rfl) (okb rfl)
  have f2_0 : w16.frozen? ⟨w.heap.size + 2, 0, none⟩ = false := HF16.out.frozen 2 0 (okb rfl)
  have c2_1 : w16.cell? ⟨w.heap.size + 2, 1, none⟩ = some (.slice none 0 0) := HF16.out.cell 2 1 (okb rfl) (okb rfl)
  have f2_1 : w16.frozen? ⟨w.heap.size + 2, 1, none⟩ = false := HF16.out.frozen 2 1 (okb rfl)
  have c2_2 : w16.cell? ⟨w.heap.size + 2, 2, none⟩ = some (.slice none 0 0) := HF16.out.cell 2 2 (okb rfl) (okb rfl)
  have f2_2 : w16.frozen? ⟨w.heap.size + 2, 2, none⟩ = false := HF16.out.frozen 2 2 (okb rfl)
  have c2_3 : w16.cell? ⟨w.heap.size + 2, 3, none⟩ = some (.slice none 0 0) := HF16.out.cell 2 3 (okb rfl) (okb rfl)
  have f2_3 : w16.frozen? ⟨w.heap.size + 2, 3, none⟩ = false := HF16.out.frozen 2 3 (okb rfl)
  go_wp2
  (try simp only [Exit.inBlock, Exit.then])
  have hb := (((((But.refl w16 (w.heap.size + 2)).set 0 (.slice q00 q01 q02)).set 1 (.slice q10 q11 q12)).set 2 (.slice q20 q21 q22)).set 3 (.slice q30 q31 q32))
  have g0 := HF16.out.out 2 (by simp) hb 3 (by simp)
  have g1 := HF16.out.out 2 (by simp) hb 2 (by simp)
  have g2 := HF16.out.out 2 (by simp) hb 1 (by simp)
  have g3 := HF16.out.out 2 (by simp) hb 0 (by simp)
  have g4 := HF16.out.outB 2 (by simp) hb
  refine bodyPost_ret (v := .agg #[.slice q00 q01 q02, .slice q10 q11 q12, .slice q20 q21 q22, .slice q30 q31 q32]) ?_ rfl ⟨_, rfl, ⟨_, _, _, _, rfl, ?_, ?_, ?_, ?_⟩, g4⟩
  · rw [results_cell rfl]; go_simp
  · clear hb; obtain rfl := HV16.out; obtain rfl := HV15.out; obtain rfl := HV14.out; obtain rfl := HV13.out; obtain rfl := HV12.out; obtain rfl := HV11.out; obtain rfl := HV10.out; obtain rfl := HV9.out; obtain rfl := HV7.out; obtain rfl := HV6.out; obtain rfl := HV5.out; obtain rfl := HV4.out; obtain rfl := HV3.out; obtain rfl := HV2.out; obtain rfl := HV1.out; exact g0
  · clear hb; obtain rfl := HV16.out; obtain rfl := HV15.out; obtain rfl := HV14.out; obtain rfl := HV13.out; obtain rfl := HV12.out; obtain rfl := HV11.out; obtain rfl := HV10.out; obtain rfl := HV9.out; obtain rfl := HV7.out; obtain rfl := HV6.out; obtain rfl := HV5.out; obtain rfl := HV4.out; obtain rfl := HV3.out; obtain rfl := HV2.out; obtain rfl := HV1.out; exact g1
  · clear hb; obtain rfl := HV16.out; obtain rfl := HV15.out; obtain rfl := HV14.out; obtain rfl := HV13.out; obtain rfl := HV12.out; obtain rfl := HV11.out; obtain rfl := HV10.out; obtain rfl := HV9.out; obtain rfl := HV7.out; obtain rfl := HV6.out; obtain rfl := HV5.out; obtain rfl := HV4.out; obtain rfl := HV3.out; obtain rfl := HV2.out; obtain rfl := HV1.out; exact g2
  · clear hb; obtain rfl := HV16.out; obtain rfl := HV15.out; obtain rfl := HV14.out; obtain rfl := HV13.out; obtain rfl := HV12.out; obtain rfl := HV11.out; obtain rfl := HV10.out; obtain rfl := HV9.out; obtain rfl := HV7.out; obtain rfl := HV6.out; obtain rfl := HV5.out; obtain rfl := HV4.out; obtain rfl := HV3.out; obtain rfl := HV2.out; obtain rfl := HV1.out; exact g3
end Go.Proofs.YtjpjepfmphlneaaGreatDoor
