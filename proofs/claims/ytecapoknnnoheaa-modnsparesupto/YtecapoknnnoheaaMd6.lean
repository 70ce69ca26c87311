import Derived.Test.YtecapoknnnoheaaMd5
namespace Go.Proofs.Ytecapoknnnoheaa
open Go.RowKit

set_option maxHeartbeats 4000000 in
theorem halve_even (base b M L X D Y : Nat) (w : World) (h : Sch w base b M L X D Y) (hbase : base ≤ w.heap.size) (h1 : L % 2 = 0) (h2 : X < M) :
    Calls Try.prog 47 #[.pointer (some ⟨b, 0, none⟩)] w fun e w' => e = .returned (.tuple #[]) ∧ Sch w' base b M (L / 2) (halfV M X) D Y ∧ But w w' b := by
  obtain ⟨m, l, x, d, y, hs, hm, hl, hx, hd, hy⟩ := h
  have C := bit0_v l L _ w hl.nu
  rw [decide_eq_false (by omega)] at C
  have HS : Hid (St w b m l x d y) := hs
  have HR : Hid (Rw w base b m M ∧ Rw w base b l L ∧ Rw w base b x X ∧ Rw w base b d D ∧ Rw w base b y Y) := ⟨hm, hl, hx, hd, hy⟩
  have g1 := hs.c1
  have Hba : Hid (base ≤ w.heap.size) := hbase
  clear hs hm hl hx hd hy h1 hbase
  go_enter Try.func47, Try.ntmps47
  go_wp2_with fail
  refine C.mono ?_
  rintro e w0 ⟨rfl, rfl⟩
  clear C
  go_wp2_with fail
  clear g1
  refine wp_region_K 18 (fun (w' : World) => w'.cell? ⟨b, 0, none⟩ = some m ∧ w'.cell? ⟨b, 1, none⟩ = some l ∧ w'.cell? ⟨b, 2, none⟩ = some x) (by kernel_rfl) ?_
  have hHeld : ((fun (w' : World) => w'.cell? ⟨b, 0, none⟩ = some m ∧ w'.cell? ⟨b, 1, none⟩ = some l ∧ w'.cell? ⟨b, 2, none⟩ = some x)) (World.drew _) := ⟨HS.out.c0, HS.out.c1, HS.out.c2⟩
  refine wpAnyK_take0 0 (v := ?v1) rfl (by kernel_rfl) (fun _ _ _ h => h) (Or.inl ⟨by rfl, ?hy1⟩) (fun _ => hHeld) ?_
  case hy1 => (intro w hSw; go_simp; try with_reducible rfl)
  try simp only [Act.put, List.setIfInBounds_toArray, List.set_cons_zero, List.set_cons_succ]
  refine wpAnyK_take0 1 (v := ?v2) rfl (by kernel_rfl) (fun _ _ _ h => h) (Or.inl ⟨by rfl, ?hy2⟩) (fun _ => hHeld) ?_
  case hy2 => (intro w hSw; go_simp; try with_reducible rfl)
  try simp only [Act.put, List.setIfInBounds_toArray, List.set_cons_zero, List.set_cons_succ]
  refine wpAnyK_take0 2 (v := ?v3) rfl (by kernel_rfl) (fun _ _ _ h => h) (Or.inl ⟨by rfl, ?hy3⟩) (fun _ => hHeld) ?_
  case hy3 => (intro w hSw; go_simp; try with_reducible rfl)
  try simp only [Act.put, List.setIfInBounds_toArray, List.set_cons_zero, List.set_cons_succ]
  refine wpAnyK_take0 3 (v := ?v4) rfl (by kernel_rfl) (fun _ _ _ h => h) (Or.inl ⟨by rfl, ?hy4⟩) (fun _ => hHeld) ?_
  case hy4 => (intro w hSw; go_simp; try with_reducible rfl)
  try simp only [Act.put, List.setIfInBounds_toArray, List.set_cons_zero, List.set_cons_succ]
  refine wpAnyK_take0 4 (v := ?v5) rfl (by kernel_rfl) (fun _ _ _ h => h) (Or.inl ⟨by rfl, ?hy5⟩) (fun _ => hHeld) ?_
  case hy5 => (intro w hSw; go_simp; try with_reducible rfl)
  try simp only [Act.put, List.setIfInBounds_toArray, List.set_cons_zero, List.set_cons_succ]
  refine wpAnyK_take 5 [6, 18] (v := ?v6) rfl (by kernel_rfl) (fun _ _ _ h => h) (Or.inl ⟨by rfl, ?hy6⟩) hHeld ?_
  case hy6 => (intro w hSw; (try dsimp only at hSw); go_simp; try with_reducible rfl)
  try simp only [Act.put, List.setIfInBounds_toArray, List.set_cons_zero, List.set_cons_succ]
  refine wpAnyK_take0 7 (v := ?v7) rfl (by kernel_rfl) (fun _ _ _ h => h) (Or.inl ⟨by rfl, ?hy7⟩) (fun _ => hHeld) ?_
  case hy7 => (intro w hSw; go_simp; try with_reducible rfl)
  try simp only [Act.put, List.setIfInBounds_toArray, List.set_cons_zero, List.set_cons_succ]
  refine wpAnyK_take0 8 (v := ?v8) rfl (by kernel_rfl) (fun _ _ _ h => h) (Or.inl ⟨by rfl, ?hy8⟩) (fun _ => hHeld) ?_
  case hy8 => (intro w hSw; go_simp; try with_reducible rfl)
  try simp only [Act.put, List.setIfInBounds_toArray, List.set_cons_zero, List.set_cons_succ]
  refine wpAnyK_take0 9 (v := ?v9) rfl (by kernel_rfl) (fun _ _ _ h => h) (Or.inl ⟨by rfl, ?hy9⟩) (fun _ => hHeld) ?_
  case hy9 => (intro w hSw; go_simp; try with_reducible rfl)
  try simp only [Act.put, List.setIfInBounds_toArray, List.set_cons_zero, List.set_cons_succ]
  refine wpAnyK_take 10 [15, 18] (v := ?v10) rfl (by kernel_rfl) (fun _ _ _ h => h) (Or.inl ⟨by rfl, ?hy10⟩) hHeld ?_
  case hy10 => (intro w hSw; (try dsimp only at hSw); go_simp; try with_reducible rfl)
  try simp only [Act.put, List.setIfInBounds_toArray, List.set_cons_zero, List.set_cons_succ]
  refine wpAnyK_take0 11 (v := ?v11) rfl (by kernel_rfl) (fun _ _ _ h => h) (Or.inl ⟨by rfl, ?hy11⟩) (fun _ => hHeld) ?_
  case hy11 => (intro w hSw; go_simp; try with_reducible rfl)
  try simp only [Act.put, List.setIfInBounds_toArray, List.set_cons_zero, List.set_cons_succ]
  refine wpAnyK_take0 12 (v := ?v12) rfl (by kernel_rfl) (fun _ _ _ h => h) (Or.inl ⟨by rfl, ?hy12⟩) (fun _ => hHeld) ?_
  case hy12 => (intro w hSw; go_simp; try with_reducible rfl)
  try simp only [Act.put, List.setIfInBounds_toArray, List.set_cons_zero, List.set_cons_succ]
  refine wpAnyK_take0 13 (v := ?v13) rfl (by kernel_rfl) (fun _ _ _ h => h) (Or.inl ⟨by rfl, ?hy13⟩) (fun _ => hHeld) ?_
  case hy13 => (intro w hSw; go_simp; try with_reducible rfl)
  try simp only [Act.put, List.setIfInBounds_toArray, List.set_cons_zero, List.set_cons_succ]
  refine wpAnyK_take 14 [15, 18] (v := ?v14) rfl (by kernel_rfl) (fun _ _ _ h => h) (Or.inl ⟨by rfl, ?hy14⟩) hHeld ?_
  case hy14 => (intro w hSw; (try dsimp only at hSw); go_simp; try with_reducible rfl)
  try simp only [Act.put, List.setIfInBounds_toArray, List.set_cons_zero, List.set_cons_succ]
  refine wpAnyK_step 6 rfl (by kernel_rfl) (fun K hK => ?_)
  go_simp
  refine (shr1_v l L _ _ (HR.out.2.1.nu.drewN 1) (by decide) (dgl_le _ _ _ (Nat.div_le_self _ _) HR.out.2.1.2.1)).mono ?_
  rintro e w1 ⟨l', rfl, hn⟩
  have H1 : Hid (Re w0 w1 l' (L / 2)) := ⟨hn.1, hn.2.1, (below_drewN (Below.refl _ _) 1).trans (hn.2.2.mono (Nat.le_refl _))⟩
  have HS1 : Hid (St w1 b m l x d y) := HS.out.but H1.out.bel
  clear hn
  dsimp only
  refine hK.out _ _ ?hk15 ?_
  case hk15 => exact fun _ => ⟨HS1.out.c0, HS1.out.c1, HS1.out.c2⟩
  have hHeld : ((fun (w' : World) => w'.cell? ⟨b, 0, none⟩ = some m ∧ w'.cell? ⟨b, 1, none⟩ = some l ∧ w'.cell? ⟨b, 2, none⟩ = some x)) _ := ⟨HS1.out.c0, HS1.out.c1, HS1.out.c2⟩
  clear hK K
  try simp only [Act.put, List.setIfInBounds_toArray, List.set_cons_zero, List.set_cons_succ]
  refine wpAnyK_step 15 rfl (by kernel_rfl) (fun K hK => ?_)
  go_simp
  refine (half_v x m X M _ (HR.out.2.2.1.nu.below H1.out.bel (Nat.le_refl _)) (HR.out.1.nu.below H1.out.bel (Nat.le_refl _)) h2).mono ?_
  rintro e w2 ⟨x', rfl, hn⟩
  have H2 : Hid (Re w0 w2 l' (L / 2)) := H1.out.keep hn.bel
  have H3 : Hid (Re w0 w2 x' (halfV M X)) := Re.later H1.out.bel hn
  have HS2 : Hid (St w2 b m l x d y) := HS1.out.but hn.bel
  clear hn
  dsimp only
  refine hK.out _ _ ?hk16 ?_
  case hk16 => exact fun _ => ⟨HS2.out.c0, HS2.out.c1, HS2.out.c2⟩
  have hHeld : ((fun (w' : World) => w'.cell? ⟨b, 0, none⟩ = some m ∧ w'.cell? ⟨b, 1, none⟩ = some l ∧ w'.cell? ⟨b, 2, none⟩ = some x)) _ := ⟨HS2.out.c0, HS2.out.c1, HS2.out.c2⟩
  clear hK K
  try simp only [Act.put, List.setIfInBounds_toArray, List.set_cons_zero, List.set_cons_succ]
  refine wpAnyK_take0 16 (v := ?v17) rfl (by kernel_rfl) (fun _ _ _ h => h) (Or.inl ⟨by rfl, ?hy17⟩) (fun _ => hHeld) ?_
  case hy17 => (intro w hSw; go_simp; try with_reducible rfl)
  try simp only [Act.put, List.setIfInBounds_toArray, List.set_cons_zero, List.set_cons_succ]
  refine wpAnyK_take0 17 (v := ?v18) rfl (by kernel_rfl) (fun _ _ _ h => h) (Or.inl ⟨by rfl, ?hy18⟩) (fun _ => hHeld) ?_
  case hy18 => (intro w hSw; go_simp; try with_reducible rfl)
  try simp only [Act.put, List.setIfInBounds_toArray, List.set_cons_zero, List.set_cons_succ]
  obtain ⟨l0, l1, l2, rfl⟩ := H2.out.nu.shape
  obtain ⟨x0, x1, x2, rfl⟩ := H3.out.nu.shape
  have g1 := HS2.out.c1
  have g2 := HS2.out.c2
  have f1 := Cl.frozen HS2.out 1
  have f2 := Cl.frozen HS2.out 2
  refine wpAnyK_step 18 rfl (by kernel_rfl) (fun K hK => ?_)
  go_simp
  refine hK.out _ _ ?hk20 ?_
  case hk20 => exact (fun h => nomatch (h.symm.trans (show _ = true by kernel_rfl)))
  clear hK K
  try simp only [Act.put, List.setIfInBounds_toArray, List.set_cons_zero, List.set_cons_succ]
  refine wpAnyK_take0 19 (v := ?v21) rfl (by kernel_rfl) (fun _ _ _ h => h) (Or.inl ⟨by rfl, ?hy21⟩) (fun h => nomatch (h.symm.trans (show _ = true by kernel_rfl))) ?_
  case hy21 => (intro w hSw; go_simp; try with_reducible rfl)
  try simp only [Act.put, List.setIfInBounds_toArray, List.set_cons_zero, List.set_cons_succ]
  refine wpAnyK_take0 20 (v := ?v22) rfl (by kernel_rfl) (fun _ _ _ h => h) (Or.inl ⟨by rfl, ?hy22⟩) (fun h => nomatch (h.symm.trans (show _ = true by kernel_rfl))) ?_
  case hy22 => (intro w hSw; go_simp; try with_reducible rfl)
  try simp only [Act.put, List.setIfInBounds_toArray, List.set_cons_zero, List.set_cons_succ]
  refine wpAnyK_step 21 rfl (by kernel_rfl) (fun K hK => ?_)
  go_simp
  refine hK.out _ _ ?hk23 ?_
  case hk23 => exact (fun h => nomatch (h.symm.trans (show _ = true by kernel_rfl)))
  clear hK K
  try simp only [Act.put, List.setIfInBounds_toArray, List.set_cons_zero, List.set_cons_succ]
  refine wpAnyK_done (by kernel_rfl) ?_ _
  go_wp2
  (try simp only [Exit.inBlock, Exit.then])
  refine bodyPost_ret (results_none rfl _ _ _) rfl ?_
  have hb := ((But.refl w2 b).set 1 (.slice l0 l1 l2)).set 2 (.slice x0 x1 x2)
  have hlt := Cl.lt HS.out
  have hbel := H2.out.bel
  obtain ⟨r1, r2, r3, r4, r5⟩ := HR.out
  exact ⟨rfl, ⟨m, _, _, d, y, (HS2.out.set1 _).set2 _, (r1.below hbel (Nat.le_refl _)).but hb, (Rw.of H2.out Hba.out hlt).but hb, (Rw.of H3.out Hba.out hlt).but hb, (r4.below hbel (Nat.le_refl _)).but hb, (r5.below hbel (Nat.le_refl _)).but hb⟩, (But.of_below hbel).trans hb⟩

set_option maxHeartbeats 4000000 in
theorem halve_ge (base b M L X D Y : Nat) (w : World) (h : Sch w base b M L X D Y) (hbase : base ≤ w.heap.size) (h1 : L % 2 = 1) (h2 : X < M) (h3 : Y < M) (h4 : D ≤ L) :
    Calls Try.prog 47 #[.pointer (some ⟨b, 0, none⟩)] w fun e w' => e = .returned (.tuple #[]) ∧ Sch w' base b M (L - D) (lessV M X Y) D Y ∧ But w w' b := by
  obtain ⟨m, l, x, d, y, hs, hm, hl, hx, hd, hy⟩ := h
  have C := bit0_v l L _ w hl.nu
  rw [decide_eq_true h1] at C
  have HS : Hid (St w b m l x d y) := hs
  have HR : Hid (Rw w base b m M ∧ Rw w base b l L ∧ Rw w base b x X ∧ Rw w base b d D ∧ Rw w base b y Y) := ⟨hm, hl, hx, hd, hy⟩
  have g1 := hs.c1
  have Hba : Hid (base ≤ w.heap.size) := hbase
  clear hs hm hl hx hd hy h1 hbase
  go_enter Try.func47, Try.ntmps47
  go_wp2_with fail
  refine C.mono ?_
  rintro e w0 ⟨rfl, rfl⟩
  clear C
  go_wp2_with fail
  clear g1
  obtain ⟨oo, Hoo, hoo⟩ : ∃ oo : Int, Hid (cmp3 (L : Int) (D : Int) = oo) ∧ decide (oo < 0) = false := by
    rcases Nat.lt_or_ge D L with h | h
    · exact ⟨1, cmp3_gt (by omega), rfl⟩
    · exact ⟨0, cmp3_eq (by omega), rfl⟩
  clear h4
  refine wp_region_K 8 (fun (w' : World) => w'.cell? ⟨b, 1, none⟩ = some l ∧ w'.cell? ⟨b, 3, none⟩ = some d) (by kernel_rfl) ?_
  have hHeld : ((fun (w' : World) => w'.cell? ⟨b, 1, none⟩ = some l ∧ w'.cell? ⟨b, 3, none⟩ = some d)) (World.drew _) := ⟨HS.out.c1, HS.out.c3⟩
  refine wpAnyK_take0 0 (v := ?v24) rfl (by kernel_rfl) (fun _ _ _ h => h) (Or.inl ⟨by rfl, ?hy24⟩) (fun _ => hHeld) ?_
  case hy24 => (intro w hSw; go_simp; try with_reducible rfl)
  try simp only [Act.put, List.setIfInBounds_toArray, List.set_cons_zero, List.set_cons_succ]
  refine wpAnyK_take0 1 (v := ?v25) rfl (by kernel_rfl) (fun _ _ _ h => h) (Or.inl ⟨by rfl, ?hy25⟩) (fun _ => hHeld) ?_
  case hy25 => (intro w hSw; go_simp; try with_reducible rfl)
  try simp only [Act.put, List.setIfInBounds_toArray, List.set_cons_zero, List.set_cons_succ]
  refine wpAnyK_take0 2 (v := ?v26) rfl (by kernel_rfl) (fun _ _ _ h => h) (Or.inl ⟨by rfl, ?hy26⟩) (fun _ => hHeld) ?_
  case hy26 => (intro w hSw; go_simp; try with_reducible rfl)
  try simp only [Act.put, List.setIfInBounds_toArray, List.set_cons_zero, List.set_cons_succ]
  refine wpAnyK_take 3 [8] (v := ?v27) rfl (by kernel_rfl) (fun _ _ _ h => h) (Or.inl ⟨by rfl, ?hy27⟩) hHeld ?_
  case hy27 => (intro w hSw; (try dsimp only at hSw); go_simp; try with_reducible rfl)
  try simp only [Act.put, List.setIfInBounds_toArray, List.set_cons_zero, List.set_cons_succ]
  refine wpAnyK_take0 4 (v := ?v28) rfl (by kernel_rfl) (fun _ _ _ h => h) (Or.inl ⟨by rfl, ?hy28⟩) (fun _ => hHeld) ?_
  case hy28 => (intro w hSw; go_simp; try with_reducible rfl)
  try simp only [Act.put, List.setIfInBounds_toArray, List.set_cons_zero, List.set_cons_succ]
  refine wpAnyK_take0 5 (v := ?v29) rfl (by kernel_rfl) (fun _ _ _ h => h) (Or.inl ⟨by rfl, ?hy29⟩) (fun _ => hHeld) ?_
  case hy29 => (intro w hSw; go_simp; try with_reducible rfl)
  try simp only [Act.put, List.setIfInBounds_toArray, List.set_cons_zero, List.set_cons_succ]
  refine wpAnyK_take0 6 (v := ?v30) rfl (by kernel_rfl) (fun _ _ _ h => h) (Or.inl ⟨by rfl, ?hy30⟩) (fun _ => hHeld) ?_
  case hy30 => (intro w hSw; go_simp; try with_reducible rfl)
  try simp only [Act.put, List.setIfInBounds_toArray, List.set_cons_zero, List.set_cons_succ]
  refine wpAnyK_take 7 [8] (v := ?v31) rfl (by kernel_rfl) (fun _ _ _ h => h) (Or.inl ⟨by rfl, ?hy31⟩) hHeld ?_
  case hy31 => (intro w hSw; (try dsimp only at hSw); go_simp; try with_reducible rfl)
  try simp only [Act.put, List.setIfInBounds_toArray, List.set_cons_zero, List.set_cons_succ]
  refine wpAnyK_step 8 rfl (by kernel_rfl) (fun K hK => ?_)
  go_simp
  have C := vcmp l d _ _ _ _ w0.drew (HR.out.2.1.nu.drewN 1) (HR.out.2.2.2.1.nu.drewN 1) (by decide) (by decide)
  rw [Hoo.out] at C
  refine C.mono ?_
  rintro e w1 ⟨rfl, q, hq⟩
  have HB1 : Hid (Below w0.heap.size w0 w1) := by rw [hq]; exact below_drewN (below_drewN (Below.refl _ _) 1) q
  have HS1 : Hid (St w1 b m l x d y) := HS.out.but HB1.out
  clear hq C
  dsimp only
  refine hK.out _ _ ?hk32 ?_
  case hk32 => exact fun _ => ⟨HS1.out.c1, HS1.out.c3⟩
  have hHeld : ((fun (w' : World) => w'.cell? ⟨b, 1, none⟩ = some l ∧ w'.cell? ⟨b, 3, none⟩ = some d)) _ := ⟨HS1.out.c1, HS1.out.c3⟩
  clear hK K
  try simp only [Act.put, List.setIfInBounds_toArray, List.set_cons_zero, List.set_cons_succ]
  refine wpAnyK_take0 9 (v := ?v33) rfl (by kernel_rfl) (fun _ _ _ h => h) (Or.inl ⟨by rfl, ?hy33⟩) (fun _ => hHeld) ?_
  case hy33 => (intro w hSw; go_simp; try with_reducible rfl)
  try simp only [Act.put, List.setIfInBounds_toArray, List.set_cons_zero, List.set_cons_succ]
  refine wpAnyK_done (by kernel_rfl) ?_ _
  clear hHeld
  go_wp2_with fail
  have HS2 : Hid (St w1 b m l x d y) := HS1.out
  have HB2 : Hid (But w0 w1 b) := But.of_below HB1.out
  refine wp_region_K 15 (fun (w' : World) => w'.cell? ⟨b, 1, none⟩ = some l ∧ w'.cell? ⟨b, 3, none⟩ = some d) (by kernel_rfl) ?_
  have hHeld : ((fun (w' : World) => w'.cell? ⟨b, 1, none⟩ = some l ∧ w'.cell? ⟨b, 3, none⟩ = some d)) (World.drew _) := ⟨HS2.out.c1, HS2.out.c3⟩
  refine wpAnyK_take0 0 (v := ?v34) rfl (by kernel_rfl) (fun _ _ _ h => h) (Or.inl ⟨by rfl, ?hy34⟩) (fun _ => hHeld) ?_
  case hy34 => (intro w hSw; go_simp; try with_reducible rfl)
  try simp only [Act.put, List.setIfInBounds_toArray, List.set_cons_zero, List.set_cons_succ]
  refine wpAnyK_take0 1 (v := ?v35) rfl (by kernel_rfl) (fun _ _ _ h => h) (Or.inl ⟨by rfl, ?hy35⟩) (fun _ => hHeld) ?_
  case hy35 => (intro w hSw; go_simp; try with_reducible rfl)
  try simp only [Act.put, List.setIfInBounds_toArray, List.set_cons_zero, List.set_cons_succ]
  refine wpAnyK_take0 2 (v := ?v36) rfl (by kernel_rfl) (fun _ _ _ h => h) (Or.inl ⟨by rfl, ?hy36⟩) (fun _ => hHeld) ?_
  case hy36 => (intro w hSw; go_simp; try with_reducible rfl)
  try simp only [Act.put, List.setIfInBounds_toArray, List.set_cons_zero, List.set_cons_succ]
  refine wpAnyK_take0 3 (v := ?v37) rfl (by kernel_rfl) (fun _ _ _ h => h) (Or.inl ⟨by rfl, ?hy37⟩) (fun _ => hHeld) ?_
  case hy37 => (intro w hSw; go_simp; try with_reducible rfl)
  try simp only [Act.put, List.setIfInBounds_toArray, List.set_cons_zero, List.set_cons_succ]
  refine wpAnyK_take 4 [9, 10, 11, 15] (v := ?v38) rfl (by kernel_rfl) (fun _ _ _ h => h) (Or.inl ⟨by rfl, ?hy38⟩) hHeld ?_
  case hy38 => (intro w hSw; (try dsimp only at hSw); go_simp; try with_reducible rfl)
  try simp only [Act.put, List.setIfInBounds_toArray, List.set_cons_zero, List.set_cons_succ]
  refine wpAnyK_take0 5 (v := ?v39) rfl (by kernel_rfl) (fun _ _ _ h => h) (Or.inl ⟨by rfl, ?hy39⟩) (fun _ => hHeld) ?_
  case hy39 => (intro w hSw; go_simp; try with_reducible rfl)
  try simp only [Act.put, List.setIfInBounds_toArray, List.set_cons_zero, List.set_cons_succ]
  refine wpAnyK_take0 6 (v := ?v40) rfl (by kernel_rfl) (fun _ _ _ h => h) (Or.inl ⟨by rfl, ?hy40⟩) (fun _ => hHeld) ?_
  case hy40 => (intro w hSw; go_simp; try with_reducible rfl)
  try simp only [Act.put, List.setIfInBounds_toArray, List.set_cons_zero, List.set_cons_succ]
  refine wpAnyK_take0 7 (v := ?v41) rfl (by kernel_rfl) (fun _ _ _ h => h) (Or.inl ⟨by rfl, ?hy41⟩) (fun _ => hHeld) ?_
  case hy41 => (intro w hSw; go_simp; try with_reducible rfl)
  try simp only [Act.put, List.setIfInBounds_toArray, List.set_cons_zero, List.set_cons_succ]
  refine wpAnyK_take 8 [9, 10, 11, 15] (v := ?v42) rfl (by kernel_rfl) (fun _ _ _ h => h) (Or.inl ⟨by rfl, ?hy42⟩) hHeld ?_
  case hy42 => (intro w hSw; (try dsimp only at hSw); go_simp; try with_reducible rfl)
  try simp only [Act.put, List.setIfInBounds_toArray, List.set_cons_zero, List.set_cons_succ]
  refine wpAnyK_step 9 rfl (by kernel_rfl) (fun K hK => ?_)
  go_simp
  have C := vsub l d _ _ _ _ w1.drew (HR.out.2.1.but HB2.out).nu (HR.out.2.2.2.1.but HB2.out).nu (by decide) (by decide)
  refine C.mono ?_
  rintro e w3 ⟨r3, rfl, hn⟩
  have H3 : Hid (Re w1 w3 r3 (L - D)) := ⟨hn.1, hn.2.1, (below_drewN (Below.refl _ _) 1).trans (hn.2.2.mono (Nat.le_refl _))⟩
  have HS3 : Hid (St w3 b m l x d y) := HS2.out.but H3.out.bel
  clear hn C
  dsimp only
  refine hK.out _ _ ?hk43 ?_
  case hk43 => exact fun _ => ⟨HS3.out.c1, HS3.out.c3⟩
  have hHeld : ((fun (w' : World) => w'.cell? ⟨b, 1, none⟩ = some l ∧ w'.cell? ⟨b, 3, none⟩ = some d)) _ := ⟨HS3.out.c1, HS3.out.c3⟩
  clear hK K
  try simp only [Act.put, List.setIfInBounds_toArray, List.set_cons_zero, List.set_cons_succ]
  refine wpAnyK_take0 10 (v := ?v44) rfl (by kernel_rfl) (fun _ _ _ h => h) (Or.inl ⟨by rfl, ?hy44⟩) (fun _ => hHeld) ?_
  case hy44 => (intro w hSw; go_simp; try with_reducible rfl)
  try simp only [Act.put, List.setIfInBounds_toArray, List.set_cons_zero, List.set_cons_succ]
  refine wpAnyK_take0 11 (v := ?v45) rfl (by kernel_rfl) (fun _ _ _ h => h) (Or.inl ⟨by rfl, ?hy45⟩) (fun _ => hHeld) ?_
  case hy45 => (intro w hSw; go_simp; try with_reducible rfl)
  try simp only [Act.put, List.setIfInBounds_toArray, List.set_cons_zero, List.set_cons_succ]
  refine wpAnyK_take0 12 (v := ?v46) rfl (by kernel_rfl) (fun _ _ _ h => h) (Or.inl ⟨by rfl, ?hy46⟩) (fun _ => hHeld) ?_
  case hy46 => (intro w hSw; go_simp; try with_reducible rfl)
  try simp only [Act.put, List.setIfInBounds_toArray, List.set_cons_zero, List.set_cons_succ]
  refine wpAnyK_take0 13 (v := ?v47) rfl (by kernel_rfl) (fun _ _ _ h => h) (Or.inl ⟨by rfl, ?hy47⟩) (fun _ => hHeld) ?_
  case hy47 => (intro w hSw; go_simp; try with_reducible rfl)
  try simp only [Act.put, List.setIfInBounds_toArray, List.set_cons_zero, List.set_cons_succ]
  refine wpAnyK_take0 14 (v := ?v48) rfl (by kernel_rfl) (fun _ _ _ h => h) (Or.inl ⟨by rfl, ?hy48⟩) (fun _ => hHeld) ?_
  case hy48 => (intro w hSw; go_simp; try with_reducible rfl)
  try simp only [Act.put, List.setIfInBounds_toArray, List.set_cons_zero, List.set_cons_succ]
  obtain ⟨l0, l1, l2, rfl⟩ := H3.out.nu.shape
  have g1 := HS3.out.c1
  have f1 := Cl.frozen HS3.out 1
  refine wpAnyK_step 15 rfl (by kernel_rfl) (fun K hK => ?_)
  go_simp
  refine hK.out _ _ ?hk50 ?_
  case hk50 => exact (fun h => nomatch (h.symm.trans (show _ = true by kernel_rfl)))
  clear hK K
  try simp only [Act.put, List.setIfInBounds_toArray, List.set_cons_zero, List.set_cons_succ]
  refine wpAnyK_done (by kernel_rfl) ?_ _
  have HS4 : Hid (St (w3.setCell ⟨b, 1, none⟩ (.slice l0 l1 l2)) b m (.slice l0 l1 l2) x d y) := HS3.out.set1 _
  have HB4 : Hid (But w0 (w3.setCell ⟨b, 1, none⟩ (.slice l0 l1 l2)) b) := HB2.out.trans ((But.of_below H3.out.bel).trans ((But.refl _ _).set _ _))
  have HR4 : Hid (Rw (w3.setCell ⟨b, 1, none⟩ (.slice l0 l1 l2)) base b (.slice l0 l1 l2) (L - D)) := (Rw.of H3.out (Nat.le_trans Hba.out HB2.out.size) (Cl.lt HS2.out)).but ((But.refl _ _).set _ _)
  clear H3 HS3 g1 f1 hHeld
  go_wp2_with fail
  generalize w3.setCell ⟨b, 1, none⟩ (.slice l0 l1 l2) = w4 at *
  refine wp_region_K 16 (fun (w' : World) => w'.cell? ⟨b, 0, none⟩ = some m ∧ w'.cell? ⟨b, 2, none⟩ = some x ∧ w'.cell? ⟨b, 4, none⟩ = some y) (by kernel_rfl) ?_
  have hHeld : ((fun (w' : World) => w'.cell? ⟨b, 0, none⟩ = some m ∧ w'.cell? ⟨b, 2, none⟩ = some x ∧ w'.cell? ⟨b, 4, none⟩ = some y)) (World.drew _) := ⟨HS4.out.c0, HS4.out.c2, HS4.out.c4⟩
  refine wpAnyK_take0 0 (v := ?v51) rfl (by kernel_rfl) (fun _ _ _ h => h) (Or.inl ⟨by rfl, ?hy51⟩) (fun _ => hHeld) ?_
  case hy51 => (intro w hSw; go_simp; try with_reducible rfl)
  try simp only [Act.put, List.setIfInBounds_toArray, List.set_cons_zero, List.set_cons_succ]
  refine wpAnyK_take0 1 (v := ?v52) rfl (by kernel_rfl) (fun _ _ _ h => h) (Or.inl ⟨by rfl, ?hy52⟩) (fun _ => hHeld) ?_
  case hy52 => (intro w hSw; go_simp; try with_reducible rfl)
  try simp only [Act.put, List.setIfInBounds_toArray, List.set_cons_zero, List.set_cons_succ]
  refine wpAnyK_take0 2 (v := ?v53) rfl (by kernel_rfl) (fun _ _ _ h => h) (Or.inl ⟨by rfl, ?hy53⟩) (fun _ => hHeld) ?_
  case hy53 => (intro w hSw; go_simp; try with_reducible rfl)
  try simp only [Act.put, List.setIfInBounds_toArray, List.set_cons_zero, List.set_cons_succ]
  refine wpAnyK_take0 3 (v := ?v54) rfl (by kernel_rfl) (fun _ _ _ h => h) (Or.inl ⟨by rfl, ?hy54⟩) (fun _ => hHeld) ?_
  case hy54 => (intro w hSw; go_simp; try with_reducible rfl)
  try simp only [Act.put, List.setIfInBounds_toArray, List.set_cons_zero, List.set_cons_succ]
  refine wpAnyK_take 4 [13, 16] (v := ?v55) rfl (by kernel_rfl) (fun _ _ _ h => h) (Or.inl ⟨by rfl, ?hy55⟩) hHeld ?_
  case hy55 => (intro w hSw; (try dsimp only at hSw); go_simp; try with_reducible rfl)
  try simp only [Act.put, List.setIfInBounds_toArray, List.set_cons_zero, List.set_cons_succ]
  refine wpAnyK_take0 5 (v := ?v56) rfl (by kernel_rfl) (fun _ _ _ h => h) (Or.inl ⟨by rfl, ?hy56⟩) (fun _ => hHeld) ?_
  case hy56 => (intro w hSw; go_simp; try with_reducible rfl)
  try simp only [Act.put, List.setIfInBounds_toArray, List.set_cons_zero, List.set_cons_succ]
  refine wpAnyK_take0 6 (v := ?v57) rfl (by kernel_rfl) (fun _ _ _ h => h) (Or.inl ⟨by rfl, ?hy57⟩) (fun _ => hHeld) ?_
  case hy57 => (intro w hSw; go_simp; try with_reducible rfl)
  try simp only [Act.put, List.setIfInBounds_toArray, List.set_cons_zero, List.set_cons_succ]
  refine wpAnyK_take0 7 (v := ?v58) rfl (by kernel_rfl) (fun _ _ _ h => h) (Or.inl ⟨by rfl, ?hy58⟩) (fun _ => hHeld) ?_
  case hy58 => (intro w hSw; go_simp; try with_reducible rfl)
  try simp only [Act.put, List.setIfInBounds_toArray, List.set_cons_zero, List.set_cons_succ]
  refine wpAnyK_take 8 [13, 16] (v := ?v59) rfl (by kernel_rfl) (fun _ _ _ h => h) (Or.inl ⟨by rfl, ?hy59⟩) hHeld ?_
  case hy59 => (intro w hSw; (try dsimp only at hSw); go_simp; try with_reducible rfl)
  try simp only [Act.put, List.setIfInBounds_toArray, List.set_cons_zero, List.set_cons_succ]
  refine wpAnyK_take0 9 (v := ?v60) rfl (by kernel_rfl) (fun _ _ _ h => h) (Or.inl ⟨by rfl, ?hy60⟩) (fun _ => hHeld) ?_
  case hy60 => (intro w hSw; go_simp; try with_reducible rfl)
  try simp only [Act.put, List.setIfInBounds_toArray, List.set_cons_zero, List.set_cons_succ]
  refine wpAnyK_take0 10 (v := ?v61) rfl (by kernel_rfl) (fun _ _ _ h => h) (Or.inl ⟨by rfl, ?hy61⟩) (fun _ => hHeld) ?_
  case hy61 => (intro w hSw; go_simp; try with_reducible rfl)
  try simp only [Act.put, List.setIfInBounds_toArray, List.set_cons_zero, List.set_cons_succ]
  refine wpAnyK_take0 11 (v := ?v62) rfl (by kernel_rfl) (fun _ _ _ h => h) (Or.inl ⟨by rfl, ?hy62⟩) (fun _ => hHeld) ?_
  case hy62 => (intro w hSw; go_simp; try with_reducible rfl)
  try simp only [Act.put, List.setIfInBounds_toArray, List.set_cons_zero, List.set_cons_succ]
  refine wpAnyK_take 12 [13, 16] (v := ?v63) rfl (by kernel_rfl) (fun _ _ _ h => h) (Or.inl ⟨by rfl, ?hy63⟩) hHeld ?_
  case hy63 => (intro w hSw; (try dsimp only at hSw); go_simp; try with_reducible rfl)
  try simp only [Act.put, List.setIfInBounds_toArray, List.set_cons_zero, List.set_cons_succ]
  refine wpAnyK_step 13 rfl (by kernel_rfl) (fun K hK => ?_)
  go_simp
  have C := less_v x y m X Y M w4.drew (HR.out.2.2.1.but HB4.out).nu (HR.out.2.2.2.2.but HB4.out).nu (HR.out.1.but HB4.out).nu h2 h3
  refine C.mono ?_
  rintro e w5 ⟨r5, rfl, hn⟩
  have H5 : Hid (Re w4 w5 r5 (lessV M X Y)) := ⟨hn.1, hn.2.1, (below_drewN (Below.refl _ _) 1).trans (hn.2.2.mono (Nat.le_refl _))⟩
  have HS5 : Hid (St w5 b m (.slice l0 l1 l2) x d y) := HS4.out.but H5.out.bel
  clear hn C
  dsimp only
  refine hK.out _ _ ?hk64 ?_
  case hk64 => exact fun _ => ⟨HS5.out.c0, HS5.out.c2, HS5.out.c4⟩
  have hHeld : ((fun (w' : World) => w'.cell? ⟨b, 0, none⟩ = some m ∧ w'.cell? ⟨b, 2, none⟩ = some x ∧ w'.cell? ⟨b, 4, none⟩ = some y)) _ := ⟨HS5.out.c0, HS5.out.c2, HS5.out.c4⟩
  clear hK K
  try simp only [Act.put, List.setIfInBounds_toArray, List.set_cons_zero, List.set_cons_succ]
  refine wpAnyK_take0 14 (v := ?v65) rfl (by kernel_rfl) (fun _ _ _ h => h) (Or.inl ⟨by rfl, ?hy65⟩) (fun _ => hHeld) ?_
  case hy65 => (intro w hSw; go_simp; try with_reducible rfl)
  try simp only [Act.put, List.setIfInBounds_toArray, List.set_cons_zero, List.set_cons_succ]
  refine wpAnyK_take0 15 (v := ?v66) rfl (by kernel_rfl) (fun _ _ _ h => h) (Or.inl ⟨by rfl, ?hy66⟩) (fun _ => hHeld) ?_
  case hy66 => (intro w hSw; go_simp; try with_reducible rfl)
  try simp only [Act.put, List.setIfInBounds_toArray, List.set_cons_zero, List.set_cons_succ]
  obtain ⟨x0, x1, x2, rfl⟩ := H5.out.nu.shape
  have g2 := HS5.out.c2
  have f2 := Cl.frozen HS5.out 2
  refine wpAnyK_step 16 rfl (by kernel_rfl) (fun K hK => ?_)
  go_simp
  refine hK.out _ _ ?hk68 ?_
  case hk68 => exact (fun h => nomatch (h.symm.trans (show _ = true by kernel_rfl)))
  clear hK K
  try simp only [Act.put, List.setIfInBounds_toArray, List.set_cons_zero, List.set_cons_succ]
  refine wpAnyK_done (by kernel_rfl) ?_ _
  go_wp2
  go_end0
  have hb : But w0 (w5.setCell ⟨b, 2, none⟩ (.slice x0 x1 x2)) b := HB4.out.trans ((But.of_below H5.out.bel).trans ((But.refl _ _).set _ _))
  have hb5 : But w5 (w5.setCell ⟨b, 2, none⟩ (.slice x0 x1 x2)) b := (But.refl _ _).set _ _
  exact ⟨rfl, ⟨m, _, _, d, y, HS5.out.set2 _, HR.out.1.but hb, (HR4.out.below H5.out.bel (Nat.le_refl _)).but hb5, (Rw.of H5.out (Nat.le_trans Hba.out HB4.out.size) (Cl.lt HS4.out)).but hb5, HR.out.2.2.2.1.but hb, HR.out.2.2.2.2.but hb⟩, hb⟩

end Go.Proofs.Ytecapoknnnoheaa
