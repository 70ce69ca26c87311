import Derived.Test.YtecapoknnnoheaaMd5
namespace Go.Proofs.Ytecapoknnnoheaa
open Go.RowKit

set_option maxHeartbeats 4000000 in
theorem halve_lt (base b M L X D Y : Nat) (w : World) (h : Sch w base b M L X D Y) (hbase : base ≤ w.heap.size) (h1 : L % 2 = 1) (h2 : X < M) (h3 : Y < M) (h4 : L < D) :
    Calls Try.prog 47 #[.pointer (some ⟨b, 0, none⟩)] w fun e w' => e = .returned (.tuple #[]) ∧ Sch w' base b M (D - L) (lessV M Y X) L X ∧ But w w' b := by
  obtain ⟨m, l, x, d, y, hs, hm, hl, hx, hd, hy⟩ := h
  have C := bit0_v l L _ w hl.nu
  rw [decide_eq_true h1] at C
  have HS : Hid (St w b m l x d y) := hs
  have HR : Hid (Rw w base b m M ∧ Rw w base b l L ∧ Rw w base b x X ∧ Rw w base b d D ∧ Rw w base b y Y) := ⟨hm, hl, hx, hd, hy⟩
  have g1 := hs.c1
  have Hba : Hid (base ≤ w.heap.size) := hbase
  clear hs hm hl hx hd hy h1 hbase
  go_enter Try.func47, Try.ntmps47
  go_wp2_with fail
  refine C.mono ?_
  rintro e w0 ⟨rfl, rfl⟩
  clear C
  go_wp2_with fail
  clear g1
  have hcm : cmp3 (L : Int) (D : Int) = -1 := cmp3_lt (by omega)
  have hlt0 : decide ((-1 : Int) < 0) = true := rfl
  obtain ⟨oo, Hoo, hoo⟩ : ∃ oo : Int, Hid (cmp3 (L : Int) (D : Int) = oo) ∧ decide (oo < 0) = true := ⟨-1, hcm, rfl⟩
  clear hcm hlt0 h4
  refine wp_region_K 8 (fun (w' : World) => w'.cell? ⟨b, 1, none⟩ = some l ∧ w'.cell? ⟨b, 3, none⟩ = some d) (by kernel_rfl) ?_
  have hHeld : ((fun (w' : World) => w'.cell? ⟨b, 1, none⟩ = some l ∧ w'.cell? ⟨b, 3, none⟩ = some d)) (World.drew _) := ⟨HS.out.c1, HS.out.c3⟩
  refine wpAnyK_take0 0 (v := ?v69) rfl (by kernel_rfl) (fun _ _ _ h => h) (Or.inl ⟨by rfl, ?hy69⟩) (fun _ => hHeld) ?_
  case hy69 => (intro w hSw; go_simp; try with_reducible rfl)
  try simp only [Act.put, List.setIfInBounds_toArray, List.set_cons_zero, List.set_cons_succ]
  refine wpAnyK_take0 1 (v := ?v70) rfl (by kernel_rfl) (fun _ _ _ h => h) (Or.inl ⟨by rfl, ?hy70⟩) (fun _ => hHeld) ?_
  case hy70 => (intro w hSw; go_simp; try with_reducible rfl)
  try simp only [Act.put, List.setIfInBounds_toArray, List.set_cons_zero, List.set_cons_succ]
  refine wpAnyK_take0 2 (v := ?v71) rfl (by kernel_rfl) (fun _ _ _ h => h) (Or.inl ⟨by rfl, ?hy71⟩) (fun _ => hHeld) ?_
  case hy71 => (intro w hSw; go_simp; try with_reducible rfl)
  try simp only [Act.put, List.setIfInBounds_toArray, List.set_cons_zero, List.set_cons_succ]
  refine wpAnyK_take 3 [8] (v := ?v72) rfl (by kernel_rfl) (fun _ _ _ h => h) (Or.inl ⟨by rfl, ?hy72⟩) hHeld ?_
  case hy72 => (intro w hSw; (try dsimp only at hSw); go_simp; try with_reducible rfl)
  try simp only [Act.put, List.setIfInBounds_toArray, List.set_cons_zero, List.set_cons_succ]
  refine wpAnyK_take0 4 (v := ?v73) rfl (by kernel_rfl) (fun _ _ _ h => h) (Or.inl ⟨by rfl, ?hy73⟩) (fun _ => hHeld) ?_
  case hy73 => (intro w hSw; go_simp; try with_reducible rfl)
  try simp only [Act.put, List.setIfInBounds_toArray, List.set_cons_zero, List.set_cons_succ]
  refine wpAnyK_take0 5 (v := ?v74) rfl (by kernel_rfl) (fun _ _ _ h => h) (Or.inl ⟨by rfl, ?hy74⟩) (fun _ => hHeld) ?_
  case hy74 => (intro w hSw; go_simp; try with_reducible rfl)
  try simp only [Act.put, List.setIfInBounds_toArray, List.set_cons_zero, List.set_cons_succ]
  refine wpAnyK_take0 6 (v := ?v75) rfl (by kernel_rfl) (fun _ _ _ h => h) (Or.inl ⟨by rfl, ?hy75⟩) (fun _ => hHeld) ?_
  case hy75 => (intro w hSw; go_simp; try with_reducible rfl)
  try simp only [Act.put, List.setIfInBounds_toArray, List.set_cons_zero, List.set_cons_succ]
  refine wpAnyK_take 7 [8] (v := ?v76) rfl (by kernel_rfl) (fun _ _ _ h => h) (Or.inl ⟨by rfl, ?hy76⟩) hHeld ?_
  case hy76 => (intro w hSw; (try dsimp only at hSw); go_simp; try with_reducible rfl)
  try simp only [Act.put, List.setIfInBounds_toArray, List.set_cons_zero, List.set_cons_succ]
  refine wpAnyK_step 8 rfl (by kernel_rfl) (fun K hK => ?_)
  go_simp
  have C := vcmp l d _ _ _ _ w0.drew (HR.out.2.1.nu.drewN 1) (HR.out.2.2.2.1.nu.drewN 1) (by decide) (by decide)
  rw [Hoo.out] at C
  refine C.mono ?_
  rintro e w1 ⟨rfl, q, hq⟩
  have HB1 : Hid (Below w0.heap.size w0 w1) := by rw [hq]; exact below_drewN (below_drewN (Below.refl _ _) 1) q
  have HS1 : Hid (St w1 b m l x d y) := HS.out.but HB1.out
  clear hq C
  dsimp only
  refine hK.out _ _ ?hk77 ?_
  case hk77 => exact fun _ => ⟨HS1.out.c1, HS1.out.c3⟩
  have hHeld : ((fun (w' : World) => w'.cell? ⟨b, 1, none⟩ = some l ∧ w'.cell? ⟨b, 3, none⟩ = some d)) _ := ⟨HS1.out.c1, HS1.out.c3⟩
  clear hK K
  try simp only [Act.put, List.setIfInBounds_toArray, List.set_cons_zero, List.set_cons_succ]
  refine wpAnyK_take0 9 (v := ?v78) rfl (by kernel_rfl) (fun _ _ _ h => h) (Or.inl ⟨by rfl, ?hy78⟩) (fun _ => hHeld) ?_
  case hy78 => (intro w hSw; go_simp; try with_reducible rfl)
  try simp only [Act.put, List.setIfInBounds_toArray, List.set_cons_zero, List.set_cons_succ]
  refine wpAnyK_done (by kernel_rfl) ?_ _
  clear hHeld
  go_wp2_with fail
  refine (swap_v b m l x d y w1 HS1.out HR.out.2.1.sl HR.out.2.2.1.sl HR.out.2.2.2.1.sl HR.out.2.2.2.2.sl).mono ?_
  rintro e w2 ⟨rfl, hs2, hb2, hz2⟩
  have HS2 : Hid (St w2 b m d y l x) := hs2
  have HB2 : Hid (But w0 w2 b) := (But.of_below HB1.out).trans hb2
  clear hs2 hb2 hz2
  go_wp2_with fail
  refine wp_region_K 15 (fun (w' : World) => w'.cell? ⟨b, 1, none⟩ = some d ∧ w'.cell? ⟨b, 3, none⟩ = some l) (by kernel_rfl) ?_
  have hHeld : ((fun (w' : World) => w'.cell? ⟨b, 1, none⟩ = some d ∧ w'.cell? ⟨b, 3, none⟩ = some l)) (World.drew _) := ⟨HS2.out.c1, HS2.out.c3⟩
  refine wpAnyK_take0 0 (v := ?v79) rfl (by kernel_rfl) (fun _ _ _ h => h) (Or.inl ⟨by rfl, ?hy79⟩) (fun _ => hHeld) ?_
  case hy79 => (intro w hSw; go_simp; try with_reducible rfl)
  try simp only [Act.put, List.setIfInBounds_toArray, List.set_cons_zero, List.set_cons_succ]
  refine wpAnyK_take0 1 (v := ?v80) rfl (by kernel_rfl) (fun _ _ _ h => h) (Or.inl ⟨by rfl, ?hy80⟩) (fun _ => hHeld) ?_
  case hy80 => (intro w hSw; go_simp; try with_reducible rfl)
  try simp only [Act.put, List.setIfInBounds_toArray, List.set_cons_zero, List.set_cons_succ]
  refine wpAnyK_take0 2 (v := ?v81) rfl (by kernel_rfl) (fun _ _ _ h => h) (Or.inl ⟨by rfl, ?hy81⟩) (fun _ => hHeld) ?_
  case hy81 => (intro w hSw; go_simp; try with_reducible rfl)
  try simp only [Act.put, List.setIfInBounds_toArray, List.set_cons_zero, List.set_cons_succ]
  refine wpAnyK_take0 3 (v := ?v82) rfl (by kernel_rfl) (fun _ _ _ h => h) (Or.inl ⟨by rfl, ?hy82⟩) (fun _ => hHeld) ?_
  case hy82 => (intro w hSw; go_simp; try with_reducible rfl)
  try simp only [Act.put, List.setIfInBounds_toArray, List.set_cons_zero, List.set_cons_succ]
  refine wpAnyK_take 4 [9, 10, 11, 15] (v := ?v83) rfl (by kernel_rfl) (fun _ _ _ h => h) (Or.inl ⟨by rfl, ?hy83⟩) hHeld ?_
  case hy83 => (intro w hSw; (try dsimp only at hSw); go_simp; try with_reducible rfl)
  try simp only [Act.put, List.setIfInBounds_toArray, List.set_cons_zero, List.set_cons_succ]
  refine wpAnyK_take0 5 (v := ?v84) rfl (by kernel_rfl) (fun _ _ _ h => h) (Or.inl ⟨by rfl, ?hy84⟩) (fun _ => hHeld) ?_
  case hy84 => (intro w hSw; go_simp; try with_reducible rfl)
  try simp only [Act.put, List.setIfInBounds_toArray, List.set_cons_zero, List.set_cons_succ]
  refine wpAnyK_take0 6 (v := ?v85) rfl (by kernel_rfl) (fun _ _ _ h => h) (Or.inl ⟨by rfl, ?hy85⟩) (fun _ => hHeld) ?_
  case hy85 => (intro w hSw; go_simp; try with_reducible rfl)
  try simp only [Act.put, List.setIfInBounds_toArray, List.set_cons_zero, List.set_cons_succ]
  refine wpAnyK_take0 7 (v := ?v86) rfl (by kernel_rfl) (fun _ _ _ h => h) (Or.inl ⟨by rfl, ?hy86⟩) (fun _ => hHeld) ?_
  case hy86 => (intro w hSw; go_simp; try with_reducible rfl)
  try simp only [Act.put, List.setIfInBounds_toArray, List.set_cons_zero, List.set_cons_succ]
  refine wpAnyK_take 8 [9, 10, 11, 15] (v := ?v87) rfl (by kernel_rfl) (fun _ _ _ h => h) (Or.inl ⟨by rfl, ?hy87⟩) hHeld ?_
  case hy87 => (intro w hSw; (try dsimp only at hSw); go_simp; try with_reducible rfl)
  try simp only [Act.put, List.setIfInBounds_toArray, List.set_cons_zero, List.set_cons_succ]
  refine wpAnyK_step 9 rfl (by kernel_rfl) (fun K hK => ?_)
  go_simp
  have C := vsub d l _ _ _ _ w2.drew (HR.out.2.2.2.1.but HB2.out).nu (HR.out.2.1.but HB2.out).nu (by decide) (by decide)
  refine C.mono ?_
  rintro e w3 ⟨r3, rfl, hn⟩
  have H3 : Hid (Re w2 w3 r3 (D - L)) := ⟨hn.1, hn.2.1, (below_drewN (Below.refl _ _) 1).trans (hn.2.2.mono (Nat.le_refl _))⟩
  have HS3 : Hid (St w3 b m d y l x) := HS2.out.but H3.out.bel
  clear hn C
  dsimp only
  refine hK.out _ _ ?hk88 ?_
  case hk88 => exact fun _ => ⟨HS3.out.c1, HS3.out.c3⟩
  have hHeld : ((fun (w' : World) => w'.cell? ⟨b, 1, none⟩ = some d ∧ w'.cell? ⟨b, 3, none⟩ = some l)) _ := ⟨HS3.out.c1, HS3.out.c3⟩
  clear hK K
  try simp only [Act.put, List.setIfInBounds_toArray, List.set_cons_zero, List.set_cons_succ]
  refine wpAnyK_take0 10 (v := ?v89) rfl (by kernel_rfl) (fun _ _ _ h => h) (Or.inl ⟨by rfl, ?hy89⟩) (fun _ => hHeld) ?_
  case hy89 => (intro w hSw; go_simp; try with_reducible rfl)
  try simp only [Act.put, List.setIfInBounds_toArray, List.set_cons_zero, List.set_cons_succ]
  refine wpAnyK_take0 11 (v := ?v90) rfl (by kernel_rfl) (fun _ _ _ h => h) (Or.inl ⟨by rfl, ?hy90⟩) (fun _ => hHeld) ?_
  case hy90 => (intro w hSw; go_simp; try with_reducible rfl)
  try simp only [Act.put, List.setIfInBounds_toArray, List.set_cons_zero, List.set_cons_succ]
  refine wpAnyK_take0 12 (v := ?v91) rfl (by kernel_rfl) (fun _ _ _ h => h) (Or.inl ⟨by rfl, ?hy91⟩) (fun _ => hHeld) ?_
  case hy91 => (intro w hSw; go_simp; try with_reducible rfl)
  try simp only [Act.put, List.setIfInBounds_toArray, List.set_cons_zero, List.set_cons_succ]
  refine wpAnyK_take0 13 (v := ?v92) rfl (by kernel_rfl) (fun _ _ _ h => h) (Or.inl ⟨by rfl, ?hy92⟩) (fun _ => hHeld) ?_
  case hy92 => (intro w hSw; go_simp; try with_reducible rfl)
  try simp only [Act.put, List.setIfInBounds_toArray, List.set_cons_zero, List.set_cons_succ]
  refine wpAnyK_take0 14 (v := ?v93) rfl (by kernel_rfl) (fun _ _ _ h => h) (Or.inl ⟨by rfl, ?hy93⟩) (fun _ => hHeld) ?_
  case hy93 => (intro w hSw; go_simp; try with_reducible rfl)
  try simp only [Act.put, List.setIfInBounds_toArray, List.set_cons_zero, List.set_cons_succ]
  obtain ⟨l0, l1, l2, rfl⟩ := H3.out.nu.shape
  have g1 := HS3.out.c1
  have f1 := Cl.frozen HS3.out 1
  refine wpAnyK_step 15 rfl (by kernel_rfl) (fun K hK => ?_)
  go_simp
  refine hK.out _ _ ?hk95 ?_
  case hk95 => exact (fun h => nomatch (h.symm.trans (show _ = true by kernel_rfl)))
  clear hK K
  try simp only [Act.put, List.setIfInBounds_toArray, List.set_cons_zero, List.set_cons_succ]
  refine wpAnyK_done (by kernel_rfl) ?_ _
  have HS4 : Hid (St (w3.setCell ⟨b, 1, none⟩ (.slice l0 l1 l2)) b m (.slice l0 l1 l2) y l x) := HS3.out.set1 _
  have HB4 : Hid (But w0 (w3.setCell ⟨b, 1, none⟩ (.slice l0 l1 l2)) b) := HB2.out.trans ((But.of_below H3.out.bel).trans ((But.refl _ _).set _ _))
  have HR4 : Hid (Rw (w3.setCell ⟨b, 1, none⟩ (.slice l0 l1 l2)) base b (.slice l0 l1 l2) (D - L)) := (Rw.of H3.out (Nat.le_trans Hba.out HB2.out.size) (Cl.lt HS2.out)).but ((But.refl _ _).set _ _)
  clear H3 HS3 g1 f1 hHeld
  go_wp2_with fail
  generalize w3.setCell ⟨b, 1, none⟩ (.slice l0 l1 l2) = w4 at *
  refine wp_region_K 16 (fun (w' : World) => w'.cell? ⟨b, 0, none⟩ = some m ∧ w'.cell? ⟨b, 2, none⟩ = some y ∧ w'.cell? ⟨b, 4, none⟩ = some x) (by kernel_rfl) ?_
  have hHeld : ((fun (w' : World) => w'.cell? ⟨b, 0, none⟩ = some m ∧ w'.cell? ⟨b, 2, none⟩ = some y ∧ w'.cell? ⟨b, 4, none⟩ = some x)) (World.drew _) := ⟨HS4.out.c0, HS4.out.c2, HS4.out.c4⟩
  refine wpAnyK_take0 0 (v := ?v96) rfl (by kernel_rfl) (fun _ _ _ h => h) (Or.inl ⟨by rfl, ?hy96⟩) (fun _ => hHeld) ?_
  case hy96 => (intro w hSw; go_simp; try with_reducible rfl)
  try simp only [Act.put, List.setIfInBounds_toArray, List.set_cons_zero, List.set_cons_succ]
  refine wpAnyK_take0 1 (v := ?v97) rfl (by kernel_rfl) (fun _ _ _ h => h) (Or.inl ⟨by rfl, ?hy97⟩) (fun _ => hHeld) ?_
  case hy97 => (intro w hSw; go_simp; try with_reducible rfl)
  try simp only [Act.put, List.setIfInBounds_toArray, List.set_cons_zero, List.set_cons_succ]
  refine wpAnyK_take0 2 (v := ?v98) rfl (by kernel_rfl) (fun _ _ _ h => h) (Or.inl ⟨by rfl, ?hy98⟩) (fun _ => hHeld) ?_
  case hy98 => (intro w hSw; go_simp; try with_reducible rfl)
  try simp only [Act.put, List.setIfInBounds_toArray, List.set_cons_zero, List.set_cons_succ]
  refine wpAnyK_take0 3 (v := ?v99) rfl (by kernel_rfl) (fun _ _ _ h => h) (Or.inl ⟨by rfl, ?hy99⟩) (fun _ => hHeld) ?_
  case hy99 => (intro w hSw; go_simp; try with_reducible rfl)
  try simp only [Act.put, List.setIfInBounds_toArray, List.set_cons_zero, List.set_cons_succ]
  refine wpAnyK_take 4 [13, 16] (v := ?v100) rfl (by kernel_rfl) (fun _ _ _ h => h) (Or.inl ⟨by rfl, ?hy100⟩) hHeld ?_
  case hy100 => (intro w hSw; (try dsimp only at hSw); go_simp; try with_reducible rfl)
  try simp only [Act.put, List.setIfInBounds_toArray, List.set_cons_zero, List.set_cons_succ]
  refine wpAnyK_take0 5 (v := ?v101) rfl (by kernel_rfl) (fun _ _ _ h => h) (Or.inl ⟨by rfl, ?hy101⟩) (fun _ => hHeld) ?_
  case hy101 => (intro w hSw; go_simp; try with_reducible rfl)
  try simp only [Act.put, List.setIfInBounds_toArray, List.set_cons_zero, List.set_cons_succ]
  refine wpAnyK_take0 6 (v := ?v102) rfl (by kernel_rfl) (fun _ _ _ h => h) (Or.inl ⟨by rfl, ?hy102⟩) (fun _ => hHeld) ?_
  case hy102 => (intro w hSw; go_simp; try with_reducible rfl)
  try simp only [Act.put, List.setIfInBounds_toArray, List.set_cons_zero, List.set_cons_succ]
  refine wpAnyK_take0 7 (v := ?v103) rfl (by kernel_rfl) (fun _ _ _ h => h) (Or.inl ⟨by rfl, ?hy103⟩) (fun _ => hHeld) ?_
  case hy103 => (intro w hSw; go_simp; try with_reducible rfl)
  try simp only [Act.put, List.setIfInBounds_toArray, List.set_cons_zero, List.set_cons_succ]
  refine wpAnyK_take 8 [13, 16] (v := ?v104) rfl (by kernel_rfl) (fun _ _ _ h => h) (Or.inl ⟨by rfl, ?hy104⟩) hHeld ?_
  case hy104 => (intro w hSw; (try dsimp only at hSw); go_simp; try with_reducible rfl)
  try simp only [Act.put, List.setIfInBounds_toArray, List.set_cons_zero, List.set_cons_succ]
  refine wpAnyK_take0 9 (v := ?v105) rfl (by kernel_rfl) (fun _ _ _ h => h) (Or.inl ⟨by rfl, ?hy105⟩) (fun _ => hHeld) ?_
  case hy105 => (intro w hSw; go_simp; try with_reducible rfl)
  try simp only [Act.put, List.setIfInBounds_toArray, List.set_cons_zero, List.set_cons_succ]
  refine wpAnyK_take0 10 (v := ?v106) rfl (by kernel_rfl) (fun _ _ _ h => h) (Or.inl ⟨by rfl, ?hy106⟩) (fun _ => hHeld) ?_
  case hy106 => (intro w hSw; go_simp; try with_reducible rfl)
  try simp only [Act.put, List.setIfInBounds_toArray, List.set_cons_zero, List.set_cons_succ]
  refine wpAnyK_take0 11 (v := ?v107) rfl (by kernel_rfl) (fun _ _ _ h => h) (Or.inl ⟨by rfl, ?hy107⟩) (fun _ => hHeld) ?_
  case hy107 => (intro w hSw; go_simp; try with_reducible rfl)
  try simp only [Act.put, List.setIfInBounds_toArray, List.set_cons_zero, List.set_cons_succ]
  refine wpAnyK_take 12 [13, 16] (v := ?v108) rfl (by kernel_rfl) (fun _ _ _ h => h) (Or.inl ⟨by rfl, ?hy108⟩) hHeld ?_
  case hy108 => (intro w hSw; (try dsimp only at hSw); go_simp; try with_reducible rfl)
  try simp only [Act.put, List.setIfInBounds_toArray, List.set_cons_zero, List.set_cons_succ]
  refine wpAnyK_step 13 rfl (by kernel_rfl) (fun K hK => ?_)
  go_simp
  have C := less_v y x m Y X M w4.drew (HR.out.2.2.2.2.but HB4.out).nu (HR.out.2.2.1.but HB4.out).nu (HR.out.1.but HB4.out).nu h3 h2
  refine C.mono ?_
  rintro e w5 ⟨r5, rfl, hn⟩
  have H5 : Hid (Re w4 w5 r5 (lessV M Y X)) := ⟨hn.1, hn.2.1, (below_drewN (Below.refl _ _) 1).trans (hn.2.2.mono (Nat.le_refl _))⟩
  have HS5 : Hid (St w5 b m (.slice l0 l1 l2) y l x) := HS4.out.but H5.out.bel
  clear hn C
  dsimp only
  refine hK.out _ _ ?hk109 ?_
  case hk109 => exact fun _ => ⟨HS5.out.c0, HS5.out.c2, HS5.out.c4⟩
  have hHeld : ((fun (w' : World) => w'.cell? ⟨b, 0, none⟩ = some m ∧ w'.cell? ⟨b, 2, none⟩ = some y ∧ w'.cell? ⟨b, 4, none⟩ = some x)) _ := ⟨HS5.out.c0, HS5.out.c2, HS5.out.c4⟩
  clear hK K
  try simp only [Act.put, List.setIfInBounds_toArray, List.set_cons_zero, List.set_cons_succ]
  refine wpAnyK_take0 14 (v := ?v110) rfl (by kernel_rfl) (fun _ _ _ h => h) (Or.inl ⟨by rfl, ?hy110⟩) (fun _ => hHeld) ?_
  case hy110 => (intro w hSw; go_simp; try with_reducible rfl)
  try simp only [Act.put, List.setIfInBounds_toArray, List.set_cons_zero, List.set_cons_succ]
  refine wpAnyK_take0 15 (v := ?v111) rfl (by kernel_rfl) (fun _ _ _ h => h) (Or.inl ⟨by rfl, ?hy111⟩) (fun _ => hHeld) ?_
  case hy111 => (intro w hSw; go_simp; try with_reducible rfl)
  try simp only [Act.put, List.setIfInBounds_toArray, List.set_cons_zero, List.set_cons_succ]
  obtain ⟨x0, x1, x2, rfl⟩ := H5.out.nu.shape
  have g2 := HS5.out.c2
  have f2 := Cl.frozen HS5.out 2
  refine wpAnyK_step 16 rfl (by kernel_rfl) (fun K hK => ?_)
  go_simp
  refine hK.out _ _ ?hk113 ?_
  case hk113 => exact (fun h => nomatch (h.symm.trans (show _ = true by kernel_rfl)))
  clear hK K
  try simp only [Act.put, List.setIfInBounds_toArray, List.set_cons_zero, List.set_cons_succ]
  refine wpAnyK_done (by kernel_rfl) ?_ _
  go_wp2
  go_end0
  have hb : But w0 (w5.setCell ⟨b, 2, none⟩ (.slice x0 x1 x2)) b := HB4.out.trans ((But.of_below H5.out.bel).trans ((But.refl _ _).set _ _))
  have hb5 : But w5 (w5.setCell ⟨b, 2, none⟩ (.slice x0 x1 x2)) b := (But.refl _ _).set _ _
  exact ⟨rfl, ⟨m, _, _, l, x, HS5.out.set2 _, HR.out.1.but hb, (HR4.out.below H5.out.bel (Nat.le_refl _)).but hb5, (Rw.of H5.out (Nat.le_trans Hba.out HB4.out.size) (Cl.lt HS4.out)).but hb5, HR.out.2.1.but hb, HR.out.2.2.1.but hb⟩, hb⟩

end Go.Proofs.Ytecapoknnnoheaa
