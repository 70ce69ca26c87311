import Derived.Test.YtecapoknnnoheaaMd5
namespace Go.Proofs.Ytecapoknnnoheaa
open Go.RowKit

set_option maxHeartbeats 4000000 in
theorem divide_v (base b M L X D Y : Nat) (w : World) (h : Sch w base b M L X D Y) (hbase : base ≤ w.heap.size) (h0 : L ≠ 0) (h2 : X < M) (h3 : Y < M) :
    Calls Try.prog 48 #[.pointer (some ⟨b, 0, none⟩)] w fun e w' => e = .returned (.tuple #[]) ∧ Sch w' base b M (D % L) (lessV M Y (D / L * X % M)) L X ∧ But w w' b := by
  obtain ⟨m, l, x, d, y, hs, hm, hl, hx, hd, hy⟩ := h
  have HS : Hid (St w b m l x d y) := hs
  have HR : Hid (Rw w base b m M ∧ Rw w base b l L ∧ Rw w base b x X ∧ Rw w base b d D ∧ Rw w base b y Y) := ⟨hm, hl, hx, hd, hy⟩
  have Hba : Hid (base ≤ w.heap.size) := hbase
  have Hlt : Hid (b < w.heap.size) := Cl.lt hs
  have H0 : Hid (L ≠ 0) := h0
  have HM0 : Hid (M ≠ 0) := (by omega : M ≠ 0)
  clear hs hm hl hx hd hy hbase h0
  go_enter Try.func48, Try.ntmps48
  go_wp2_with fail
  refine wp_region_K 8 (fun (w' : World) => w'.cell? ⟨b, 1, none⟩ = some l ∧ w'.cell? ⟨b, 3, none⟩ = some d) (by kernel_rfl) ?_
  have hHeld : ((fun (w' : World) => w'.cell? ⟨b, 1, none⟩ = some l ∧ w'.cell? ⟨b, 3, none⟩ = some d)) (World.drew _) := ⟨HS.out.c1, HS.out.c3⟩
  refine wpAnyK_take0 0 (v := ?v114) rfl (by kernel_rfl) (fun _ _ _ h => h) (Or.inl ⟨by rfl, ?hy114⟩) (fun _ => hHeld) ?_
  case hy114 => (intro w hSw; go_simp; try with_reducible rfl)
  try simp only [Act.put, List.setIfInBounds_toArray, List.set_cons_zero, List.set_cons_succ]
  refine wpAnyK_take0 1 (v := ?v115) rfl (by kernel_rfl) (fun _ _ _ h => h) (Or.inl ⟨by rfl, ?hy115⟩) (fun _ => hHeld) ?_
  case hy115 => (intro w hSw; go_simp; try with_reducible rfl)
  try simp only [Act.put, List.setIfInBounds_toArray, List.set_cons_zero, List.set_cons_succ]
  refine wpAnyK_take0 2 (v := ?v116) rfl (by kernel_rfl) (fun _ _ _ h => h) (Or.inl ⟨by rfl, ?hy116⟩) (fun _ => hHeld) ?_
  case hy116 => (intro w hSw; go_simp; try with_reducible rfl)
  try simp only [Act.put, List.setIfInBounds_toArray, List.set_cons_zero, List.set_cons_succ]
  refine wpAnyK_take 3 [8] (v := ?v117) rfl (by kernel_rfl) (fun _ _ _ h => h) (Or.inl ⟨by rfl, ?hy117⟩) hHeld ?_
  case hy117 => (intro w hSw; (try dsimp only at hSw); go_simp; try with_reducible rfl)
  try simp only [Act.put, List.setIfInBounds_toArray, List.set_cons_zero, List.set_cons_succ]
  refine wpAnyK_take0 4 (v := ?v118) rfl (by kernel_rfl) (fun _ _ _ h => h) (Or.inl ⟨by rfl, ?hy118⟩) (fun _ => hHeld) ?_
  case hy118 => (intro w hSw; go_simp; try with_reducible rfl)
  try simp only [Act.put, List.setIfInBounds_toArray, List.set_cons_zero, List.set_cons_succ]
  refine wpAnyK_take0 5 (v := ?v119) rfl (by kernel_rfl) (fun _ _ _ h => h) (Or.inl ⟨by rfl, ?hy119⟩) (fun _ => hHeld) ?_
  case hy119 => (intro w hSw; go_simp; try with_reducible rfl)
  try simp only [Act.put, List.setIfInBounds_toArray, List.set_cons_zero, List.set_cons_succ]
  refine wpAnyK_take0 6 (v := ?v120) rfl (by kernel_rfl) (fun _ _ _ h => h) (Or.inl ⟨by rfl, ?hy120⟩) (fun _ => hHeld) ?_
  case hy120 => (intro w hSw; go_simp; try with_reducible rfl)
  try simp only [Act.put, List.setIfInBounds_toArray, List.set_cons_zero, List.set_cons_succ]
  refine wpAnyK_take 7 [8] (v := ?v121) rfl (by kernel_rfl) (fun _ _ _ h => h) (Or.inl ⟨by rfl, ?hy121⟩) hHeld ?_
  case hy121 => (intro w hSw; (try dsimp only at hSw); go_simp; try with_reducible rfl)
  try simp only [Act.put, List.setIfInBounds_toArray, List.set_cons_zero, List.set_cons_succ]
  refine wpAnyK_step 8 rfl (by kernel_rfl) (fun K hK => ?_)
  go_simp
  have C := vdiv d l _ _ _ _ w.drew (HR.out.2.2.2.1.nu.drewN 1) (HR.out.2.1.nu.drewN 1) (by decide) (by decide) H0.out
  refine C.mono ?_
  rintro e w1 ⟨q, r, rfl, hq, hr⟩
  have HQ : Hid (Re w w1 q (D / L)) := ⟨hq.1, hq.2.1, (below_drewN (Below.refl _ _) 1).trans (hq.2.2.mono (Nat.le_refl _))⟩
  have HRr : Hid (Re w w1 r (D % L)) := ⟨hr.1, hr.2.1, (below_drewN (Below.refl _ _) 1).trans (hr.2.2.mono (Nat.le_refl _))⟩
  have HS1 : Hid (St w1 b m l x d y) := HS.out.but HQ.out.bel
  clear hq hr C
  dsimp only
  refine hK.out _ _ ?hk122 ?_
  case hk122 => exact fun _ => ⟨HS1.out.c1, HS1.out.c3⟩
  have hHeld : ((fun (w' : World) => w'.cell? ⟨b, 1, none⟩ = some l ∧ w'.cell? ⟨b, 3, none⟩ = some d)) _ := ⟨HS1.out.c1, HS1.out.c3⟩
  clear hK K
  try simp only [Act.put, List.setIfInBounds_toArray, List.set_cons_zero, List.set_cons_succ]
  refine wpAnyK_take0 9 (v := ?v123) rfl (by kernel_rfl) (fun _ _ _ h => h) (Or.inl ⟨by rfl, ?hy123⟩) (fun _ => hHeld) ?_
  case hy123 => (intro w hSw; go_simp; try with_reducible rfl)
  try simp only [Act.put, List.setIfInBounds_toArray, List.set_cons_zero, List.set_cons_succ]
  refine wpAnyK_take0 10 (v := ?v124) rfl (by kernel_rfl) (fun _ _ _ h => h) (Or.inl ⟨by rfl, ?hy124⟩) (fun _ => hHeld) ?_
  case hy124 => (intro w hSw; go_simp; try with_reducible rfl)
  try simp only [Act.put, List.setIfInBounds_toArray, List.set_cons_zero, List.set_cons_succ]
  refine wpAnyK_take0 11 (v := ?v125) rfl (by kernel_rfl) (fun _ _ _ h => h) (Or.inl ⟨by rfl, ?hy125⟩) (fun _ => hHeld) ?_
  case hy125 => (intro w hSw; go_simp; try with_reducible rfl)
  try simp only [Act.put, List.setIfInBounds_toArray, List.set_cons_zero, List.set_cons_succ]
  refine wpAnyK_take0 12 (v := ?v126) rfl (by kernel_rfl) (fun _ _ _ h => h) (Or.inl ⟨by rfl, ?hy126⟩) (fun _ => hHeld) ?_
  case hy126 => (intro w hSw; go_simp; try with_reducible rfl)
  try simp only [Act.put, List.setIfInBounds_toArray, List.set_cons_zero, List.set_cons_succ]
  refine wpAnyK_take0 13 (v := ?v127) rfl (by kernel_rfl) (fun _ _ _ h => h) (Or.inl ⟨by rfl, ?hy127⟩) (fun _ => hHeld) ?_
  case hy127 => (intro w hSw; go_simp; try with_reducible rfl)
  try simp only [Act.put, List.setIfInBounds_toArray, List.set_cons_zero, List.set_cons_succ]
  refine wpAnyK_take0 14 (v := ?v128) rfl (by kernel_rfl) (fun _ _ _ h => h) (Or.inl ⟨by rfl, ?hy128⟩) (fun _ => hHeld) ?_
  case hy128 => (intro w hSw; go_simp; try with_reducible rfl)
  try simp only [Act.put, List.setIfInBounds_toArray, List.set_cons_zero, List.set_cons_succ]
  refine wpAnyK_take0 15 (v := ?v129) rfl (by kernel_rfl) (fun _ _ _ h => h) (Or.inl ⟨by rfl, ?hy129⟩) (fun _ => hHeld) ?_
  case hy129 => (intro w hSw; go_simp; try with_reducible rfl)
  try simp only [Act.put, List.setIfInBounds_toArray, List.set_cons_zero, List.set_cons_succ]
  refine wpAnyK_done (by kernel_rfl) ?_ _
  clear hHeld
  go_wp2_with fail
  refine (swap_v b m l x d y w1 HS1.out HR.out.2.1.sl HR.out.2.2.1.sl HR.out.2.2.2.1.sl HR.out.2.2.2.2.sl).mono ?_
  rintro e w2 ⟨rfl, hs2, hb2, hz2⟩
  have HS2 : Hid (St w2 b m d y l x) := hs2
  have HB2 : Hid (But w w2 b) := (But.of_below HQ.out.bel).trans hb2
  have HQ2 : Hid (Rw w2 base b q (D / L)) := (Rw.of HQ.out Hba.out Hlt.out).but hb2
  have HR2 : Hid (Rw w2 base b r (D % L)) := (Rw.of HRr.out Hba.out Hlt.out).but hb2
  clear hs2 hb2 hz2 HQ HRr HS1 HS
  go_wp2_with fail
  refine wp_region_K 25 (fun (w' : World) => w'.cell? ⟨b, 0, none⟩ = some m ∧ w'.cell? ⟨b, 2, none⟩ = some y ∧ w'.cell? ⟨b, 4, none⟩ = some x) (by kernel_rfl) ?_
  have hHeld : ((fun (w' : World) => w'.cell? ⟨b, 0, none⟩ = some m ∧ w'.cell? ⟨b, 2, none⟩ = some y ∧ w'.cell? ⟨b, 4, none⟩ = some x)) (World.drew _) := ⟨HS2.out.c0, HS2.out.c2, HS2.out.c4⟩
  refine wpAnyK_take0 0 (v := ?v130) rfl (by kernel_rfl) (fun _ _ _ h => h) (Or.inl ⟨by rfl, ?hy130⟩) (fun _ => hHeld) ?_
  case hy130 => (intro w hSw; go_simp; try with_reducible rfl)
  try simp only [Act.put, List.setIfInBounds_toArray, List.set_cons_zero, List.set_cons_succ]
  refine wpAnyK_take0 1 (v := ?v131) rfl (by kernel_rfl) (fun _ _ _ h => h) (Or.inl ⟨by rfl, ?hy131⟩) (fun _ => hHeld) ?_
  case hy131 => (intro w hSw; go_simp; try with_reducible rfl)
  try simp only [Act.put, List.setIfInBounds_toArray, List.set_cons_zero, List.set_cons_succ]
  refine wpAnyK_take0 2 (v := ?v132) rfl (by kernel_rfl) (fun _ _ _ h => h) (Or.inl ⟨by rfl, ?hy132⟩) (fun _ => hHeld) ?_
  case hy132 => (intro w hSw; go_simp; try with_reducible rfl)
  try simp only [Act.put, List.setIfInBounds_toArray, List.set_cons_zero, List.set_cons_succ]
  refine wpAnyK_take0 3 (v := ?v133) rfl (by kernel_rfl) (fun _ _ _ h => h) (Or.inl ⟨by rfl, ?hy133⟩) (fun _ => hHeld) ?_
  case hy133 => (intro w hSw; go_simp; try with_reducible rfl)
  try simp only [Act.put, List.setIfInBounds_toArray, List.set_cons_zero, List.set_cons_succ]
  refine wpAnyK_take0 4 (v := ?v134) rfl (by kernel_rfl) (fun _ _ _ h => h) (Or.inl ⟨by rfl, ?hy134⟩) (fun _ => hHeld) ?_
  case hy134 => (intro w hSw; go_simp; try with_reducible rfl)
  try simp only [Act.put, List.setIfInBounds_toArray, List.set_cons_zero, List.set_cons_succ]
  refine wpAnyK_take0 5 (v := ?v135) rfl (by kernel_rfl) (fun _ _ _ h => h) (Or.inl ⟨by rfl, ?hy135⟩) (fun _ => hHeld) ?_
  case hy135 => (intro w hSw; go_simp; try with_reducible rfl)
  try simp only [Act.put, List.setIfInBounds_toArray, List.set_cons_zero, List.set_cons_succ]
  refine wpAnyK_take 6 [22, 25] (v := ?v136) rfl (by kernel_rfl) (fun _ _ _ h => h) (Or.inl ⟨by rfl, ?hy136⟩) hHeld ?_
  case hy136 => (intro w hSw; (try dsimp only at hSw); go_simp; try with_reducible rfl)
  try simp only [Act.put, List.setIfInBounds_toArray, List.set_cons_zero, List.set_cons_succ]
  refine wpAnyK_take0 7 (v := ?v137) rfl (by kernel_rfl) (fun _ _ _ h => h) (Or.inl ⟨by rfl, ?hy137⟩) (fun _ => hHeld) ?_
  case hy137 => (intro w hSw; go_simp; try with_reducible rfl)
  try simp only [Act.put, List.setIfInBounds_toArray, List.set_cons_zero, List.set_cons_succ]
  refine wpAnyK_take0 8 (v := ?v138) rfl (by kernel_rfl) (fun _ _ _ h => h) (Or.inl ⟨by rfl, ?hy138⟩) (fun _ => hHeld) ?_
  case hy138 => (intro w hSw; go_simp; try with_reducible rfl)
  try simp only [Act.put, List.setIfInBounds_toArray, List.set_cons_zero, List.set_cons_succ]
  refine wpAnyK_take0 9 (v := ?v139) rfl (by kernel_rfl) (fun _ _ _ h => h) (Or.inl ⟨by rfl, ?hy139⟩) (fun _ => hHeld) ?_
  case hy139 => (intro w hSw; go_simp; try with_reducible rfl)
  try simp only [Act.put, List.setIfInBounds_toArray, List.set_cons_zero, List.set_cons_succ]
  refine wpAnyK_take0 10 (v := ?v140) rfl (by kernel_rfl) (fun _ _ _ h => h) (Or.inl ⟨by rfl, ?hy140⟩) (fun _ => hHeld) ?_
  case hy140 => (intro w hSw; go_simp; try with_reducible rfl)
  try simp only [Act.put, List.setIfInBounds_toArray, List.set_cons_zero, List.set_cons_succ]
  refine wpAnyK_take 11 [12, 17, 22, 25] (v := ?v141) rfl (by kernel_rfl) (fun _ _ _ h => h) (Or.inl ⟨by rfl, ?hy141⟩) hHeld ?_
  case hy141 => (intro w hSw; (try dsimp only at hSw); go_simp; try with_reducible rfl)
  try simp only [Act.put, List.setIfInBounds_toArray, List.set_cons_zero, List.set_cons_succ]
  refine wpAnyK_take0 13 (v := ?v142) rfl (by kernel_rfl) (fun _ _ _ h => h) (Or.inl ⟨by rfl, ?hy142⟩) (fun _ => hHeld) ?_
  case hy142 => (intro w hSw; go_simp; try with_reducible rfl)
  try simp only [Act.put, List.setIfInBounds_toArray, List.set_cons_zero, List.set_cons_succ]
  refine wpAnyK_take0 14 (v := ?v143) rfl (by kernel_rfl) (fun _ _ _ h => h) (Or.inl ⟨by rfl, ?hy143⟩) (fun _ => hHeld) ?_
  case hy143 => (intro w hSw; go_simp; try with_reducible rfl)
  try simp only [Act.put, List.setIfInBounds_toArray, List.set_cons_zero, List.set_cons_succ]
  refine wpAnyK_take0 15 (v := ?v144) rfl (by kernel_rfl) (fun _ _ _ h => h) (Or.inl ⟨by rfl, ?hy144⟩) (fun _ => hHeld) ?_
  case hy144 => (intro w hSw; go_simp; try with_reducible rfl)
  try simp only [Act.put, List.setIfInBounds_toArray, List.set_cons_zero, List.set_cons_succ]
  refine wpAnyK_take 16 [17, 22, 25] (v := ?v145) rfl (by kernel_rfl) (fun _ _ _ h => h) (Or.inl ⟨by rfl, ?hy145⟩) hHeld ?_
  case hy145 => (intro w hSw; (try dsimp only at hSw); go_simp; try with_reducible rfl)
  try simp only [Act.put, List.setIfInBounds_toArray, List.set_cons_zero, List.set_cons_succ]
  refine wpAnyK_take0 18 (v := ?v146) rfl (by kernel_rfl) (fun _ _ _ h => h) (Or.inl ⟨by rfl, ?hy146⟩) (fun _ => hHeld) ?_
  case hy146 => (intro w hSw; go_simp; try with_reducible rfl)
  try simp only [Act.put, List.setIfInBounds_toArray, List.set_cons_zero, List.set_cons_succ]
  refine wpAnyK_take0 19 (v := ?v147) rfl (by kernel_rfl) (fun _ _ _ h => h) (Or.inl ⟨by rfl, ?hy147⟩) (fun _ => hHeld) ?_
  case hy147 => (intro w hSw; go_simp; try with_reducible rfl)
  try simp only [Act.put, List.setIfInBounds_toArray, List.set_cons_zero, List.set_cons_succ]
  refine wpAnyK_take0 20 (v := ?v148) rfl (by kernel_rfl) (fun _ _ _ h => h) (Or.inl ⟨by rfl, ?hy148⟩) (fun _ => hHeld) ?_
  case hy148 => (intro w hSw; go_simp; try with_reducible rfl)
  try simp only [Act.put, List.setIfInBounds_toArray, List.set_cons_zero, List.set_cons_succ]
  refine wpAnyK_take 21 [22, 25] (v := ?v149) rfl (by kernel_rfl) (fun _ _ _ h => h) (Or.inl ⟨by rfl, ?hy149⟩) hHeld ?_
  case hy149 => (intro w hSw; (try dsimp only at hSw); go_simp; try with_reducible rfl)
  try simp only [Act.put, List.setIfInBounds_toArray, List.set_cons_zero, List.set_cons_succ]
  refine wpAnyK_step 12 rfl (by kernel_rfl) (fun K hK => ?_)
  go_simp
  have C := vmul q x _ _ _ _ w2.drew (HQ2.out.nu.drewN 1) ((HR.out.2.2.1.but HB2.out).nu.drewN 1) (by decide) (by decide)
  refine C.mono ?_
  rintro e w3 ⟨p, rfl, hn⟩
  have HB3 : Hid (Below w2.heap.size w2 w3) := (below_drewN (Below.refl _ _) 1).trans (hn.2.2.mono (Nat.le_refl _))
  have HP3 : Hid (Vl w3 p (D / L * X) 6000000) := hn.vl.le (by decide)
  have HS3 : Hid (St w3 b m d y l x) := HS2.out.but HB3.out
  clear hn C
  dsimp only
  refine hK.out _ _ ?hk150 ?_
  case hk150 => exact fun _ => ⟨HS3.out.c0, HS3.out.c2, HS3.out.c4⟩
  have hHeld : ((fun (w' : World) => w'.cell? ⟨b, 0, none⟩ = some m ∧ w'.cell? ⟨b, 2, none⟩ = some y ∧ w'.cell? ⟨b, 4, none⟩ = some x)) _ := ⟨HS3.out.c0, HS3.out.c2, HS3.out.c4⟩
  clear hK K
  try simp only [Act.put, List.setIfInBounds_toArray, List.set_cons_zero, List.set_cons_succ]
  refine wpAnyK_step 17 rfl (by kernel_rfl) (fun K hK => ?_)
  go_simp
  have C := rest_v p m _ M w3 (HP3.out.le (by decide)) ((HR.out.1.but HB2.out).below HB3.out (Nat.le_refl _)).nu HM0.out
  refine C.mono ?_
  rintro e w4 ⟨s, rfl, hn⟩
  have HB4 : Hid (Below w2.heap.size w2 w4) := HB3.out.trans (hn.bel.mono HB3.out.size)
  have HN4 : Hid (Nu w4 s (D / L * X % M)) := hn.nu
  have HS4 : Hid (St w4 b m d y l x) := HS2.out.but HB4.out
  clear hn C HP3 HS3 HB3
  dsimp only
  refine hK.out _ _ ?hk151 ?_
  case hk151 => exact fun _ => ⟨HS4.out.c0, HS4.out.c2, HS4.out.c4⟩
  have hHeld : ((fun (w' : World) => w'.cell? ⟨b, 0, none⟩ = some m ∧ w'.cell? ⟨b, 2, none⟩ = some y ∧ w'.cell? ⟨b, 4, none⟩ = some x)) _ := ⟨HS4.out.c0, HS4.out.c2, HS4.out.c4⟩
  clear hK K
  try simp only [Act.put, List.setIfInBounds_toArray, List.set_cons_zero, List.set_cons_succ]
  refine wpAnyK_step 22 rfl (by kernel_rfl) (fun K hK => ?_)
  go_simp
  have C := less_v y s m Y _ M w4 ((HR.out.2.2.2.2.but HB2.out).below HB4.out (Nat.le_refl _)).nu HN4.out ((HR.out.1.but HB2.out).below HB4.out (Nat.le_refl _)).nu h3 (Nat.mod_lt _ (Nat.pos_of_ne_zero HM0.out))
  refine C.mono ?_
  rintro e w5 ⟨t, rfl, hn⟩
  have HB5 : Hid (Below w2.heap.size w2 w5) := HB4.out.trans (hn.bel.mono HB4.out.size)
  have H5 : Hid (Re w2 w5 t (lessV M Y (D / L * X % M))) := Re.later HB4.out hn
  have HS5 : Hid (St w5 b m d y l x) := HS2.out.but HB5.out
  clear hn C HN4 HS4 HB4
  dsimp only
  refine hK.out _ _ ?hk152 ?_
  case hk152 => exact fun _ => ⟨HS5.out.c0, HS5.out.c2, HS5.out.c4⟩
  have hHeld : ((fun (w' : World) => w'.cell? ⟨b, 0, none⟩ = some m ∧ w'.cell? ⟨b, 2, none⟩ = some y ∧ w'.cell? ⟨b, 4, none⟩ = some x)) _ := ⟨HS5.out.c0, HS5.out.c2, HS5.out.c4⟩
  clear hK K
  try simp only [Act.put, List.setIfInBounds_toArray, List.set_cons_zero, List.set_cons_succ]
  refine wpAnyK_take0 23 (v := ?v153) rfl (by kernel_rfl) (fun _ _ _ h => h) (Or.inl ⟨by rfl, ?hy153⟩) (fun _ => hHeld) ?_
  case hy153 => (intro w hSw; go_simp; try with_reducible rfl)
  try simp only [Act.put, List.setIfInBounds_toArray, List.set_cons_zero, List.set_cons_succ]
  refine wpAnyK_take0 24 (v := ?v154) rfl (by kernel_rfl) (fun _ _ _ h => h) (Or.inl ⟨by rfl, ?hy154⟩) (fun _ => hHeld) ?_
  case hy154 => (intro w hSw; go_simp; try with_reducible rfl)
  try simp only [Act.put, List.setIfInBounds_toArray, List.set_cons_zero, List.set_cons_succ]
  obtain ⟨r0, r1, r2, rfl⟩ := HR2.out.sl
  obtain ⟨t0, t1, t2, rfl⟩ := H5.out.nu.shape
  have g1 := HS5.out.c1
  have g2 := HS5.out.c2
  have f1 := Cl.frozen HS5.out 1
  have f2 := Cl.frozen HS5.out 2
  refine wpAnyK_step 25 rfl (by kernel_rfl) (fun K hK => ?_)
  go_simp
  refine hK.out _ _ ?hk156 ?_
  case hk156 => exact (fun h => nomatch (h.symm.trans (show _ = true by kernel_rfl)))
  clear hK K
  try simp only [Act.put, List.setIfInBounds_toArray, List.set_cons_zero, List.set_cons_succ]
  refine wpAnyK_take0 26 (v := ?v157) rfl (by kernel_rfl) (fun _ _ _ h => h) (Or.inl ⟨by rfl, ?hy157⟩) (fun h => nomatch (h.symm.trans (show _ = true by kernel_rfl))) ?_
  case hy157 => (intro w hSw; go_simp; try with_reducible rfl)
  try simp only [Act.put, List.setIfInBounds_toArray, List.set_cons_zero, List.set_cons_succ]
  refine wpAnyK_take0 27 (v := ?v158) rfl (by kernel_rfl) (fun _ _ _ h => h) (Or.inl ⟨by rfl, ?hy158⟩) (fun h => nomatch (h.symm.trans (show _ = true by kernel_rfl))) ?_
  case hy158 => (intro w hSw; go_simp; try with_reducible rfl)
  try simp only [Act.put, List.setIfInBounds_toArray, List.set_cons_zero, List.set_cons_succ]
  refine wpAnyK_step 28 rfl (by kernel_rfl) (fun K hK => ?_)
  go_simp
  refine hK.out _ _ ?hk159 ?_
  case hk159 => exact (fun h => nomatch (h.symm.trans (show _ = true by kernel_rfl)))
  clear hK K
  try simp only [Act.put, List.setIfInBounds_toArray, List.set_cons_zero, List.set_cons_succ]
  refine wpAnyK_done (by kernel_rfl) ?_ _
  go_wp2
  go_end0
  have hb5 : But w5 ((w5.setCell ⟨b, 1, none⟩ (.slice r0 r1 r2)).setCell ⟨b, 2, none⟩ (.slice t0 t1 t2)) b := ((But.refl _ _).set _ _).set _ _
  have hb : But w ((w5.setCell ⟨b, 1, none⟩ (.slice r0 r1 r2)).setCell ⟨b, 2, none⟩ (.slice t0 t1 t2)) b := HB2.out.trans ((But.of_below HB5.out).trans hb5)
  exact ⟨rfl, ⟨m, _, _, l, x, (HS5.out.set1 _).set2 _, HR.out.1.but hb, (HR2.out.below HB5.out (Nat.le_refl _)).but hb5, (Rw.of H5.out (Nat.le_trans Hba.out HB2.out.size) (Cl.lt HS2.out)).but hb5, HR.out.2.1.but hb, HR.out.2.2.1.but hb⟩, hb⟩

end Go.Proofs.Ytecapoknnnoheaa
