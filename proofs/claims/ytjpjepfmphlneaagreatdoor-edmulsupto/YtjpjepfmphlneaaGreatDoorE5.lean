import Derived.Test.YtjpjepfmphlneaaGreatDoorGD
namespace Go.Proofs.YtjpjepfmphlneaaGreatDoor
open Go.RowKit

set_option maxRecDepth 100000

theorem btr {a b c : World} (h : Below a.heap.size a b) (g : Below b.heap.size b c) : Below a.heap.size a c := h.trans (g.mono h.size)
theorem decode_g (ao : Option Addr) (c : Nat) (l : List UInt8) (w : World) (T : Te w) (hr : Rd w ao l) :
    Calls Tryz.prog 14 #[.slice ao l.length c] w fun e w' => ((∃ P v, onE eP eD P ∧ encL P = l ∧ e = .returned (.tuple #[v, .int .i64 0]) ∧ Pe w' w.heap.size v P) ∨ ((∀ P, onE eP eD P → encL P ≠ l) ∧ e = .returned (.tuple #[.agg #[.slice none 0 0, .slice none 0 0, .bool false], .int .i64 93]))) ∧ Below w.heap.size w w' := decode_v ao c l w T hr
theorem Pe.pn' {w : World} {b : Nat} {x y : Value} {P : Nat × Nat} (h : Pe w b (.agg #[x, y, .bool false]) P) : Pn w x y P := by
  obtain ⟨u, v, e, hp⟩ := h.pn
  obtain ⟨rfl, rfl⟩ : x = u ∧ y = v := by simpa using e
  exact hp
theorem Pn.zero {w : World} {b : Nat} {y : Value} (h : Mk w b y 1 32) : Pn w (.slice none 0 0) y (0, 1) :=
  ⟨⟨none, 0, by rw [dg_zero]; rfl, by rw [dg_zero]; decide, by rw [dg_zero]; exact Rn.nil _ _, by rw [dg_zero]; exact fun y hy => by cases hy⟩, h.nm, Nat.pow_pos (by decide), by show 1 < 2 ^ 256; decide +kernel⟩
theorem nm_none (w : World) : Nm w (.slice none 0 0) [] := ⟨none, 0, rfl, Nat.le_refl _, Rn.nil _ _, fun y hy => by cases hy⟩
theorem lone_none (w : World) : Calls Tryz.prog 15 #[.agg #[.slice none 0 0, .slice none 0 0, .bool false], .agg #[.slice none 0 0, .slice none 0 0, .bool false]] w fun e w' => e = .returned (.bool true) ∧ Below w.heap.size w w' := by
  have C := lone_v _ _ _ _ [] [] [] [] false false w (nm_none w) (nm_none w) (nm_none w) (nm_none w) (by decide) (by decide)
  exact C
theorem mul_l {w : World} {k x y : Value} {K : Nat} {P : Nat × Nat} (T : Te w) (hk : Nu w k K) (h : Pn w x y P) (oP : onE eP eD P) (hK : 1024 < bl K) : Calls Tryz.prog 20 #[k, .agg #[x, y, .bool false]] w fun e w' => e = .returned (.tuple #[.agg #[.slice none 0 0, .slice none 0 0, .bool false], .int .i64 10]) ∧ Below w.heap.size w w' := mul_large k x y K P.1 P.2 w T hk h.nx h.ny false ((onV_iff _ _ _).2 ⟨rfl, oP⟩) hK
theorem mul_g {w : World} {k x y : Value} {K : Nat} {P : Nat × Nat} (T : Te w) (hk : Nu w k K) (h : Pn w x y P) (oP : onE eP eD P) : Calls Tryz.prog 20 #[k, .agg #[x, y, .bool false]] w fun e w' => ∃ u0 u1 u2 v0 v1 v2, ∃ z : Int, e = .returned (.tuple #[.agg #[.slice u0 u1 u2, .slice v0 v1 v2, .bool false], .int .i64 z]) ∧ z = (if 1024 < bl K then 10 else 0) ∧ Below w.heap.size w w' := by
  by_cases hK : 1024 < bl K
  · refine (mul_l T hk h oP hK).mono ?_
    rintro e w' ⟨rfl, hB⟩
    exact ⟨_, _, _, _, _, _, 10, rfl, (if_pos hK).symm, hB⟩
  · refine (mul_p T hk h oP (by omega)).mono ?_
    rintro e w' ⟨t, rfl, hm, hB⟩
    obtain ⟨tx, ty, rfl, hpn⟩ := hm.pn
    obtain ⟨⟨tx0, tx1, tx2, rfl⟩, ⟨ty0, ty1, ty2, rfl⟩⟩ := hpn.sl
    exact ⟨_, _, _, _, _, _, 0, rfl, (if_neg hK).symm, hB⟩
theorem nadd_g (v u : Value) (A B : Nat) (w : World) (hv : Vl w v A 1048576) (hu : Vl w u B 1048576) : Calls Tryz.prog 23 #[v, u] w fun e w' => ∃ r, e = .returned r ∧ Nu w' r (A + B) ∧ Below w.heap.size w w' := by
  refine (vadd v u A B _ _ w hv hu (by decide) (by decide)).mono ?_
  rintro e w' ⟨r, rfl, h⟩
  exact ⟨r, rfl, h.1.vl (Nat.le_trans h.2.1 (by decide)), h.2.2⟩
theorem vnu {w : World} {v : Value} {A : Nat} (h : Vl w v A 1048576) : Nu w v A := h.le (by decide)
theorem nu_none (w : World) : Nu w (.slice none 0 0) 0 := ⟨[], nm_none w, rfl, Nat.zero_le _⟩
theorem bl_sml {A n : Nat} (h : A < 2 ^ n) : bl A ≤ n := by
  by_cases h0 : A = 0
  · subst h0; exact Nat.zero_le _
  · have h2 : 2 ^ (bl A - 1) < 2 ^ n := Nat.lt_of_le_of_lt (bl_le A h0) h
    have h3 := (Nat.pow_lt_pow_iff_right (by decide)).1 h2
    have := bl_pos A h0; omega
theorem five (A B : Nat) : (bl A ≤ 1024 ∧ bl B ≤ 1024 ∧ bl (A + B) ≤ 1024) ∨ 1024 < bl (A + B) ∧ ((bl A ≤ 1024 ∧ bl B ≤ 1024 ∧ 1024 < bl (A + B)) ∨ (bl A ≤ 1024 ∧ 1024 < bl B ∧ 1024 < bl (A + B)) ∨ (1024 < bl A ∧ bl B ≤ 1024 ∧ 1024 < bl (A + B)) ∨ (1024 < bl A ∧ 1024 < bl B ∧ 1024 < bl (A + B))) := by
  have h1 : bl A ≤ bl (A + B) := bl_sml (Nat.lt_of_le_of_lt (Nat.le_add_right A B) (bl_lt (A + B)))
  have h2 : bl B ≤ bl (A + B) := bl_sml (Nat.lt_of_le_of_lt (Nat.le_add_left B A) (bl_lt (A + B)))
  omega
set_option maxHeartbeats 40000000 in
theorem edMuls_core (aa : Option Addr) (ca : Nat) (l1 : List UInt8) (vk vl : Value) (A B : Nat) (w : World) (T : Te w) (TS : Sha.Tb w) (hra : Rd w aa l1) (hk : Vl w vk A 1048576) (hl : Vl w vl B 1048576) :
    Calls Tryz.prog 5 #[.slice aa l1.length ca, vk, vl] w fun e w' => e = .returned (.bool true) ∧ Below w.heap.size w w' := by
  obtain ⟨k0, k1, k2, rfl⟩ := (vnu hk).shape
  obtain ⟨n0, n1, n2, rfl⟩ := (vnu hl).shape
  have HT : Hid (Te w ∧ Sha.Tb w) := ⟨T, TS⟩
  clear T TS
  have HB0 : Hid (Below w.heap.size w w) := Below.refl _ _
  have Hra0 : Hid (Rd w aa l1) := hra
  have Hnk0 : Hid (Vl w (.slice k0 k1 k2) A 1048576) := hk
  have Hnl0 : Hid (Vl w (.slice n0 n1 n2) B 1048576) := hl
  clear hra hk hl
  go_enter Tryz.func5, Tryz.ntmps5
  go_wp2_with fail
  refine (awake13_v _ (HT.out.1.below HB0.out (Nat.le_refl _)) (HT.out.2.below HB0.out)).mono ?_
  rintro e w1 ⟨rfl, hB⟩
  have Hs1 : Hid (Below w.heap.size w w1) := hB
  clear hB
  go_wp2_with fail
  have HB1 : Hid (Below w.heap.size w w1) := HB0.out.trans (Hs1.out.mono HB0.out.size)
  refine (order_v _ (HT.out.1.below HB1.out (Nat.le_refl _))).mono ?_
  rintro e w2 ⟨ov, rfl, h⟩
  have Hs2 : Hid (Below w1.heap.size w1 w2) := h.bel
  obtain ⟨o0, o1, o2, rfl⟩ := h.sl
  have Hno0 : Hid (Nk w2 (.slice o0 o1 o2) eL 256) := h.nb
  clear h
  go_wp2_with fail
  have HB2 : Hid (Below w.heap.size w w2) := HB1.out.trans (Hs2.out.mono HB1.out.size)
  refine (base_v _ (HT.out.1.below HB2.out (Nat.le_refl _))).mono ?_
  rintro e w3 ⟨v, rfl, hm, hB⟩
  have Hs3 : Hid (Below w2.heap.size w2 w3) := hB
  obtain ⟨gx, gy, rfl, hpn⟩ := hm.pn
  obtain ⟨⟨gx0, gx1, gx2, rfl⟩, ⟨gy0, gy1, gy2, rfl⟩⟩ := hpn.sl
  have Hpg0 : Hid (Pn w3 (.slice gx0 gx1 gx2) (.slice gy0 gy1 gy2) eB) := hpn
  clear hpn
  clear hB hm
  go_wp2_with fail
  have HB3 : Hid (Below w.heap.size w w3) := HB2.out.trans (Hs3.out.mono HB2.out.size)
  have Hno1 : Hid (Nk w3 (.slice o0 o1 o2) eL 256) := Hno0.out.below Hs3.out (Nat.le_refl _)
  refine (mul_p (HT.out.1.below HB3.out (Nat.le_refl _)) Hno1.out.1 Hpg0.out onB (by decide +kernel)).mono ?_
  rintro e w4 ⟨v, rfl, hm, hB⟩
  have Hs4 : Hid (Below w3.heap.size w3 w4) := hB
  rw [ordB] at hm
  obtain ⟨zx, zy, rfl, hpn⟩ := hm.pn
  obtain ⟨⟨zx0, zx1, zx2, rfl⟩, ⟨zy0, zy1, zy2, rfl⟩⟩ := hpn.sl
  have Hpz0 : Hid (Pn w4 (.slice zx0 zx1 zx2) (.slice zy0 zy1 zy2) (0, 1)) := hpn
  clear hpn
  clear hB hm
  have Hs4z : Hid (Below w4.heap.size w4 (w4.alloc (.cells #[.slice zx0 zx1 zx2, .slice zy0 zy1 zy2, .bool false] 31))) := alloc_below _ _
  have Hbz0 : Hid (Bl 31 (w4.alloc (.cells #[.slice zx0 zx1 zx2, .slice zy0 zy1 zy2, .bool false] 31)) w4.heap.size [.slice zx0 zx1 zx2, .slice zy0 zy1 zy2, .bool false]) := alloc_bl w4 [.slice zx0 zx1 zx2, .slice zy0 zy1 zy2, .bool false] 31
  go_wp2_with fail
  have hBd : Below (w4.alloc (.cells #[.slice zx0 zx1 zx2, .slice zy0 zy1 zy2, .bool false] 31)).heap.size (w4.alloc (.cells #[.slice zx0 zx1 zx2, .slice zy0 zy1 zy2, .bool false] 31)) (w4.alloc (.cells #[.slice zx0 zx1 zx2, .slice zy0 zy1 zy2, .bool false] 31)).drew := below_drewN (Below.refl _ _) 1
  have Hs4zz : Hid (Below (w4.alloc (.cells #[.slice zx0 zx1 zx2, .slice zy0 zy1 zy2, .bool false] 31)).heap.size (w4.alloc (.cells #[.slice zx0 zx1 zx2, .slice zy0 zy1 zy2, .bool false] 31)) (w4.alloc (.cells #[.slice zx0 zx1 zx2, .slice zy0 zy1 zy2, .bool false] 31)).drew) := hBd
  clear hBd
  have Hbz1 : Hid (Bl 31 (w4.alloc (.cells #[.slice zx0 zx1 zx2, .slice zy0 zy1 zy2, .bool false] 31)).drew w4.heap.size [.slice zx0 zx1 zx2, .slice zy0 zy1 zy2, .bool false]) := Hbz0.out.below Hs4zz.out Hbz0.out.lt
  refine wp_region_K 5 (fun (w' : World) => w'.cell? ⟨w4.heap.size, 0, none⟩ = some (.slice zx0 zx1 zx2) ∧ w'.cell? ⟨w4.heap.size, 1, none⟩ = some (.slice zy0 zy1 zy2) ∧ w'.cell? ⟨w4.heap.size, 2, none⟩ = some (.bool false)) (by kernel_rfl) ?_
  have hHeld : ((fun (w' : World) => w'.cell? ⟨w4.heap.size, 0, none⟩ = some (.slice zx0 zx1 zx2) ∧ w'.cell? ⟨w4.heap.size, 1, none⟩ = some (.slice zy0 zy1 zy2) ∧ w'.cell? ⟨w4.heap.size, 2, none⟩ = some (.bool false))) (World.drew _) := ⟨Hbz1.out.cell 0 (by simp), Hbz1.out.cell 1 (by simp), Hbz1.out.cell 2 (by simp)⟩
  refine wpAnyK_take0 0 (v := ?v1) rfl (by kernel_rfl) (fun _ _ _ h => h) (Or.inl ⟨by rfl, ?hy1⟩) (fun _ => hHeld) ?_
  case hy1 => (intro w hSw; go_simp; try with_reducible rfl)
  try simp only [Act.put, List.setIfInBounds_toArray, List.set_cons_zero, List.set_cons_succ]
  refine wpAnyK_take0 1 (v := ?v2) rfl (by kernel_rfl) (fun _ _ _ h => h) (Or.inl ⟨by rfl, ?hy2⟩) (fun _ => hHeld) ?_
  case hy2 => (intro w hSw; go_simp; try with_reducible rfl)
  try simp only [Act.put, List.setIfInBounds_toArray, List.set_cons_zero, List.set_cons_succ]
  refine wpAnyK_take0 2 (v := ?v3) rfl (by kernel_rfl) (fun _ _ _ h => h) (Or.inl ⟨by rfl, ?hy3⟩) (fun _ => hHeld) ?_
  case hy3 => (intro w hSw; go_simp; try with_reducible rfl)
  try simp only [Act.put, List.setIfInBounds_toArray, List.set_cons_zero, List.set_cons_succ]
  refine wpAnyK_take 3 [5] (v := ?v4) rfl (by kernel_rfl) (fun _ _ _ h => h) (Or.inl ⟨by rfl, ?hy4⟩) hHeld ?_
  case hy4 => (intro w hSw; (try dsimp only at hSw); go_simp; try with_reducible rfl)
  try simp only [Act.put, List.setIfInBounds_toArray, List.set_cons_zero, List.set_cons_succ]
  refine wpAnyK_step 4 rfl (by kernel_rfl) (fun K hK => ?_)
  go_simp
  refine (lzero_v _).mono ?_
  rintro e w5 ⟨za, rfl, mz, hB⟩
  have Hs5 : Hid (Below (w4.alloc (.cells #[.slice zx0 zx1 zx2, .slice zy0 zy1 zy2, .bool false] 31)).drew.heap.size (w4.alloc (.cells #[.slice zx0 zx1 zx2, .slice zy0 zy1 zy2, .bool false] 31)).drew w5) := hB
  obtain ⟨za0, za1, za2, rfl⟩ := mz.nk.sl
  have Hpza0 : Hid (Pn w5 (.slice none 0 0) (.slice za0 za1 za2) (0, 1)) := Pn.zero mz
  clear mz hB
  have Hbz2 : Hid (Bl 31 w5 w4.heap.size [.slice zx0 zx1 zx2, .slice zy0 zy1 zy2, .bool false]) := Hbz1.out.below Hs5.out Hbz1.out.lt
  try dsimp only
  refine hK.out _ _ ?hk5 ?_
  case hk5 => exact fun _ => ⟨Hbz2.out.cell 0 (by simp), Hbz2.out.cell 1 (by simp), Hbz2.out.cell 2 (by simp)⟩
  have hHeld : ((fun (w' : World) => w'.cell? ⟨w4.heap.size, 0, none⟩ = some (.slice zx0 zx1 zx2) ∧ w'.cell? ⟨w4.heap.size, 1, none⟩ = some (.slice zy0 zy1 zy2) ∧ w'.cell? ⟨w4.heap.size, 2, none⟩ = some (.bool false))) _ := ⟨Hbz2.out.cell 0 (by simp), Hbz2.out.cell 1 (by simp), Hbz2.out.cell 2 (by simp)⟩
  clear hK K
  try simp only [Act.put, List.setIfInBounds_toArray, List.set_cons_zero, List.set_cons_succ]
  refine wpAnyK_step 5 rfl (by kernel_rfl) (fun K hK => ?_)
  go_simp
  have Hpz1 : Hid (Pn w5 (.slice zx0 zx1 zx2) (.slice zy0 zy1 zy2) (0, 1)) := Hpz0.out.below (btr Hs4z.out (btr Hs4zz.out Hs5.out)) (Nat.le_refl _)
  refine (lone_p Hpz1.out Hpza0.out).mono ?_
  rintro e w6 ⟨rfl, hB⟩
  have Hs6 : Hid (Below w5.heap.size w5 w6) := hB
  clear hB
  rw [decide_eq_true (rfl : ((0, 1) : Nat × Nat) = (0, 1))]
  have Hbz3 : Hid (Bl 31 w6 w4.heap.size [.slice zx0 zx1 zx2, .slice zy0 zy1 zy2, .bool false]) := Hbz2.out.below Hs6.out Hbz2.out.lt
  try dsimp only
  refine hK.out _ _ ?hk6 ?_
  case hk6 => exact fun _ => ⟨Hbz3.out.cell 0 (by simp), Hbz3.out.cell 1 (by simp), Hbz3.out.cell 2 (by simp)⟩
  have hHeld : ((fun (w' : World) => w'.cell? ⟨w4.heap.size, 0, none⟩ = some (.slice zx0 zx1 zx2) ∧ w'.cell? ⟨w4.heap.size, 1, none⟩ = some (.slice zy0 zy1 zy2) ∧ w'.cell? ⟨w4.heap.size, 2, none⟩ = some (.bool false))) _ := ⟨Hbz3.out.cell 0 (by simp), Hbz3.out.cell 1 (by simp), Hbz3.out.cell 2 (by simp)⟩
  clear hK K
  try simp only [Act.put, List.setIfInBounds_toArray, List.set_cons_zero, List.set_cons_succ]
  refine wpAnyK_take0 6 (v := ?v7) rfl (by kernel_rfl) (fun _ _ _ h => h) (Or.inl ⟨by rfl, ?hy7⟩) (fun _ => hHeld) ?_
  case hy7 => (intro w hSw; go_simp; try with_reducible rfl)
  try simp only [Act.put, List.setIfInBounds_toArray, List.set_cons_zero, List.set_cons_succ]
  refine wpAnyK_take0 7 (v := ?v8) rfl (by kernel_rfl) (fun _ _ _ h => h) (Or.inl ⟨by rfl, ?hy8⟩) (fun _ => hHeld) ?_
  case hy8 => (intro w hSw; go_simp; try with_reducible rfl)
  try simp only [Act.put, List.setIfInBounds_toArray, List.set_cons_zero, List.set_cons_succ]
  refine wpAnyK_done (by kernel_rfl) ?_ _
  go_wp2_with fail
  have HB4 : Hid (Below w.heap.size w w6) := HB3.out.trans ((btr Hs4.out (btr Hs4z.out (btr Hs4zz.out (btr Hs5.out Hs6.out)))).mono HB3.out.size)
  have Hra1 : Hid (Rd w6 aa l1) := Hra0.out.below (btr Hs1.out (btr Hs2.out (btr Hs3.out (btr Hs4.out (btr Hs4z.out (btr Hs4zz.out (btr Hs5.out Hs6.out))))))) (Nat.le_refl _)
  refine (decode_g aa ca l1 _ (HT.out.1.below HB4.out (Nat.le_refl _)) Hra1.out).mono ?_
  rintro e w7 ⟨hA, hB⟩
  have Hs7 : Hid (Below w6.heap.size w6 w7) := hB
  clear hB
  rcases hA with ⟨P, v, oP, _, rfl, hm⟩ | ⟨_, rfl⟩
  · have HP : Hid (onE eP eD P) := oP
    obtain ⟨px, py, rfl, hpn⟩ := hm.pn
    obtain ⟨⟨px0, px1, px2, rfl⟩, ⟨py0, py1, py2, rfl⟩⟩ := hpn.sl
    have Hpp0 : Hid (Pn w7 (.slice px0 px1 px2) (.slice py0 py1 py2) P) := hpn
    clear hpn
    clear hm oP
    have Hs7z : Hid (Below w7.heap.size w7 (w7.alloc (.cells #[.slice px0 px1 px2, .slice py0 py1 py2, .bool false] 31))) := alloc_below _ _
    have Hbp0 : Hid (Bl 31 (w7.alloc (.cells #[.slice px0 px1 px2, .slice py0 py1 py2, .bool false] 31)) w7.heap.size [.slice px0 px1 px2, .slice py0 py1 py2, .bool false]) := alloc_bl w7 [.slice px0 px1 px2, .slice py0 py1 py2, .bool false] 31
    have h5 := five A B
    rcases h5 with h5 | ⟨h6, h5⟩
    · have HH : Hid (bl A ≤ 1024 ∧ bl B ≤ 1024 ∧ bl (A + B) ≤ 1024) := h5
      clear h5
      have kp_0 : (w7.alloc (.cells #[.slice px0 px1 px2, .slice py0 py1 py2, .bool false] 31)).cell? ⟨w7.heap.size, 0, none⟩ = some (.slice px0 px1 px2) := Hbp0.out.cell 0 (by simp)
      have kp_1 : (w7.alloc (.cells #[.slice px0 px1 px2, .slice py0 py1 py2, .bool false] 31)).cell? ⟨w7.heap.size, 1, none⟩ = some (.slice py0 py1 py2) := Hbp0.out.cell 1 (by simp)
      have kp_2 : (w7.alloc (.cells #[.slice px0 px1 px2, .slice py0 py1 py2, .bool false] 31)).cell? ⟨w7.heap.size, 2, none⟩ = some (.bool false) := Hbp0.out.cell 2 (by simp)
      go_wp2_with fail
      clear kp_0 kp_1 kp_2
      generalize (w7.alloc (.cells #[.slice px0 px1 px2, .slice py0 py1 py2, .bool false] 31)) = wv8 at *
      have Hnk1 : Hid (Vl wv8 (.slice k0 k1 k2) A 1048576) := Hnk0.out.below (btr Hs1.out (btr Hs2.out (btr Hs3.out (btr Hs4.out (btr Hs4z.out (btr Hs4zz.out (btr Hs5.out (btr Hs6.out (btr Hs7.out Hs7z.out))))))))) (Nat.le_refl _)
      have HB5 : Hid (Below w.heap.size w wv8) := HB4.out.trans ((btr Hs7.out Hs7z.out).mono HB4.out.size)
      have Hpp1 : Hid (Pn wv8 (.slice px0 px1 px2) (.slice py0 py1 py2) P) := Hpp0.out.below Hs7z.out (Nat.le_refl _)
      refine (mul_p (HT.out.1.below HB5.out (Nat.le_refl _)) (vnu Hnk1.out) Hpp1.out HP.out HH.out.1).mono ?_
      rintro e w9 ⟨v, rfl, hm, hB⟩
      have Hs9 : Hid (Below wv8.heap.size wv8 w9) := hB
      obtain ⟨xx, xy, rfl, hpn⟩ := hm.pn
      obtain ⟨⟨xx0, xx1, xx2, rfl⟩, ⟨xy0, xy1, xy2, rfl⟩⟩ := hpn.sl
      have Hpx0 : Hid (Pn w9 (.slice xx0 xx1 xx2) (.slice xy0 xy1 xy2) (me eP eD A P)) := hpn
      clear hpn
      clear hB hm
      have Hs9z : Hid (Below w9.heap.size w9 (w9.alloc (.cells #[.slice xx0 xx1 xx2, .slice xy0 xy1 xy2, .bool false] 31))) := alloc_below _ _
      have Hbx0 : Hid (Bl 31 (w9.alloc (.cells #[.slice xx0 xx1 xx2, .slice xy0 xy1 xy2, .bool false] 31)) w9.heap.size [.slice xx0 xx1 xx2, .slice xy0 xy1 xy2, .bool false]) := alloc_bl w9 [.slice xx0 xx1 xx2, .slice xy0 xy1 xy2, .bool false] 31
      have Hbp1 : Hid (Bl 31 (w9.alloc (.cells #[.slice xx0 xx1 xx2, .slice xy0 xy1 xy2, .bool false] 31)) w7.heap.size [.slice px0 px1 px2, .slice py0 py1 py2, .bool false]) := Hbp0.out.below (btr Hs9.out Hs9z.out) Hbp0.out.lt
      have kp_0 : (w9.alloc (.cells #[.slice xx0 xx1 xx2, .slice xy0 xy1 xy2, .bool false] 31)).cell? ⟨w7.heap.size, 0, none⟩ = some (.slice px0 px1 px2) := Hbp1.out.cell 0 (by simp)
      have kp_1 : (w9.alloc (.cells #[.slice xx0 xx1 xx2, .slice xy0 xy1 xy2, .bool false] 31)).cell? ⟨w7.heap.size, 1, none⟩ = some (.slice py0 py1 py2) := Hbp1.out.cell 1 (by simp)
      have kp_2 : (w9.alloc (.cells #[.slice xx0 xx1 xx2, .slice xy0 xy1 xy2, .bool false] 31)).cell? ⟨w7.heap.size, 2, none⟩ = some (.bool false) := Hbp1.out.cell 2 (by simp)
      go_wp2_with fail
      clear kp_0 kp_1 kp_2
      generalize (w9.alloc (.cells #[.slice xx0 xx1 xx2, .slice xy0 xy1 xy2, .bool false] 31)) = wv10 at *
      have Hnl1 : Hid (Vl wv10 (.slice n0 n1 n2) B 1048576) := Hnl0.out.below (btr Hs1.out (btr Hs2.out (btr Hs3.out (btr Hs4.out (btr Hs4z.out (btr Hs4zz.out (btr Hs5.out (btr Hs6.out (btr Hs7.out (btr Hs7z.out (btr Hs9.out Hs9z.out))))))))))) (Nat.le_refl _)
      have HB6 : Hid (Below w.heap.size w wv10) := HB5.out.trans ((btr Hs9.out Hs9z.out).mono HB5.out.size)
      have Hpp2 : Hid (Pn wv10 (.slice px0 px1 px2) (.slice py0 py1 py2) P) := Hpp1.out.below (btr Hs9.out Hs9z.out) (Nat.le_refl _)
      refine (mul_p (HT.out.1.below HB6.out (Nat.le_refl _)) (vnu Hnl1.out) Hpp2.out HP.out HH.out.2.1).mono ?_
      rintro e w11 ⟨v, rfl, hm, hB⟩
      have Hs11 : Hid (Below wv10.heap.size wv10 w11) := hB
      obtain ⟨yx, yy, rfl, hpn⟩ := hm.pn
      obtain ⟨⟨yx0, yx1, yx2, rfl⟩, ⟨yy0, yy1, yy2, rfl⟩⟩ := hpn.sl
      have Hpy0 : Hid (Pn w11 (.slice yx0 yx1 yx2) (.slice yy0 yy1 yy2) (me eP eD B P)) := hpn
      clear hpn
      clear hB hm
      have Hs11z : Hid (Below w11.heap.size w11 (w11.alloc (.cells #[.slice yx0 yx1 yx2, .slice yy0 yy1 yy2, .bool false] 31))) := alloc_below _ _
      have Hby0 : Hid (Bl 31 (w11.alloc (.cells #[.slice yx0 yx1 yx2, .slice yy0 yy1 yy2, .bool false] 31)) w11.heap.size [.slice yx0 yx1 yx2, .slice yy0 yy1 yy2, .bool false]) := alloc_bl w11 [.slice yx0 yx1 yx2, .slice yy0 yy1 yy2, .bool false] 31
      go_wp2_with fail
      generalize (w11.alloc (.cells #[.slice yx0 yx1 yx2, .slice yy0 yy1 yy2, .bool false] 31)) = wv12 at *
      have HB7 : Hid (Below w.heap.size w wv12) := HB6.out.trans ((btr Hs11.out Hs11z.out).mono HB6.out.size)
      have TD : Hid (Te wv12.drew) := (HT.out.1.below HB7.out (Nat.le_refl _)).drew
      go_cut [14, 15] from 56 to 63 (fun s1 s2 wx => ∃ (w' : World) (g : Nat) (sx0 sy0 : Option Addr) (sx1 sx2 sy1 sy2 : Nat), w' = wx ∧ s1 = .pointer (some ⟨g, 0, none⟩) ∧ s2 = .int .i64 0 ∧ Hid (Below wv12.heap.size wv12 w' ∧ Bl 31 w' g [.slice sx0 sx1 sx2, .slice sy0 sy1 sy2, .bool false] ∧ Pn w' (.slice sx0 sx1 sx2) (.slice sy0 sy1 sy2) (me eP eD (A + B) P)))
      case first =>
        have hBd : Below wv12.heap.size wv12 wv12.drew := below_drewN (Below.refl _ _) 1
        have Hs12 : Hid (Below wv12.heap.size wv12 wv12.drew) := hBd
        clear hBd
        have Hpp3 : Hid (Pn wv12.drew (.slice px0 px1 px2) (.slice py0 py1 py2) P) := Hpp2.out.below (btr Hs11.out (btr Hs11z.out Hs12.out)) (Nat.le_refl _)
        have Hnk2 : Hid (Vl wv12.drew (.slice k0 k1 k2) A 1048576) := Hnk1.out.below (btr Hs9.out (btr Hs9z.out (btr Hs11.out (btr Hs11z.out Hs12.out)))) (Nat.le_refl _)
        have Hnl2 : Hid (Vl wv12.drew (.slice n0 n1 n2) B 1048576) := Hnl1.out.below (btr Hs11.out (btr Hs11z.out Hs12.out)) (Nat.le_refl _)
        have Hbp2 : Hid (Bl 31 wv12.drew w7.heap.size [.slice px0 px1 px2, .slice py0 py1 py2, .bool false]) := Hbp1.out.below (btr Hs11.out (btr Hs11z.out Hs12.out)) Hbp1.out.lt
        have HBd : Hid (Below wv12.drew.heap.size wv12.drew wv12.drew) := Below.refl _ _
        refine wp_region_K 4 (fun (w' : World) => w'.cell? ⟨w7.heap.size, 0, none⟩ = some (.slice px0 px1 px2) ∧ w'.cell? ⟨w7.heap.size, 1, none⟩ = some (.slice py0 py1 py2) ∧ w'.cell? ⟨w7.heap.size, 2, none⟩ = some (.bool false)) (by kernel_rfl) ?_
        have hHeld : ((fun (w' : World) => w'.cell? ⟨w7.heap.size, 0, none⟩ = some (.slice px0 px1 px2) ∧ w'.cell? ⟨w7.heap.size, 1, none⟩ = some (.slice py0 py1 py2) ∧ w'.cell? ⟨w7.heap.size, 2, none⟩ = some (.bool false))) (World.drew _) := ⟨Hbp2.out.cell 0 (by simp), Hbp2.out.cell 1 (by simp), Hbp2.out.cell 2 (by simp)⟩
        refine wpAnyK_take0 0 (v := ?v9) rfl (by kernel_rfl) (fun _ _ _ h => h) (Or.inl ⟨by rfl, ?hy9⟩) (fun _ => hHeld) ?_
        case hy9 => (intro w hSw; go_simp; try with_reducible rfl)
        try simp only [Act.put, List.setIfInBounds_toArray, List.set_cons_zero, List.set_cons_succ]
        refine wpAnyK_take0 1 (v := ?v10) rfl (by kernel_rfl) (fun _ _ _ h => h) (Or.inl ⟨by rfl, ?hy10⟩) (fun _ => hHeld) ?_
        case hy10 => (intro w hSw; go_simp; try with_reducible rfl)
        try simp only [Act.put, List.setIfInBounds_toArray, List.set_cons_zero, List.set_cons_succ]
        refine wpAnyK_take 3 [4] (v := ?v11) rfl (by kernel_rfl) (fun _ _ _ h => h) (Or.inl ⟨by rfl, ?hy11⟩) hHeld ?_
        case hy11 => (intro w hSw; (try dsimp only at hSw); go_simp; try with_reducible rfl)
        try simp only [Act.put, List.setIfInBounds_toArray, List.set_cons_zero, List.set_cons_succ]
        refine wpAnyK_two 2 8 rfl rfl (by kernel_rfl) (fun K hK => ?_) (fun K hK => ?_)
        · go_simp
          refine (nadd_g _ _ A B _ (Hnk2.out.below HBd.out (Nat.le_refl _)) (Hnl2.out.below HBd.out (Nat.le_refl _))).mono ?_
          rintro e wfa ⟨zt, rfl, mz, hBp⟩
          obtain ⟨zt0, zt1, zt2, rfl⟩ := mz.shape
          have HSa : Hid (Nu wfa (.slice zt0 zt1 zt2) (A + B)) := mz
          clear mz
          have HBa1 : Hid (Below wv12.drew.heap.size wv12.drew wfa) := HBd.out.trans (hBp.mono HBd.out.size)
          clear hBp
          try dsimp only
          refine hK.out _ _ ?hk26 ?_
          case hk26 => exact fun _ => ⟨(Hbp2.out.below HBa1.out Hbp2.out.lt).cell 0 (by simp), (Hbp2.out.below HBa1.out Hbp2.out.lt).cell 1 (by simp), (Hbp2.out.below HBa1.out Hbp2.out.lt).cell 2 (by simp)⟩
          have hHeld : ((fun (w' : World) => w'.cell? ⟨w7.heap.size, 0, none⟩ = some (.slice px0 px1 px2) ∧ w'.cell? ⟨w7.heap.size, 1, none⟩ = some (.slice py0 py1 py2) ∧ w'.cell? ⟨w7.heap.size, 2, none⟩ = some (.bool false))) _ := ⟨(Hbp2.out.below HBa1.out Hbp2.out.lt).cell 0 (by simp), (Hbp2.out.below HBa1.out Hbp2.out.lt).cell 1 (by simp), (Hbp2.out.below HBa1.out Hbp2.out.lt).cell 2 (by simp)⟩
          clear hK K
          try simp only [Act.put, List.setIfInBounds_toArray, List.set_cons_zero, List.set_cons_succ]
          refine wpAnyK_two 4 8 rfl rfl (by kernel_rfl) (fun K hK => ?_) (fun K hK => ?_)
          · go_simp
            refine (mul_p (TD.out.below HBa1.out (Nat.le_refl _)) HSa.out (Hpp3.out.below HBa1.out (Nat.le_refl _)) HP.out HH.out.2.2).mono ?_
            rintro e wga ⟨v, rfl, hm, hBp⟩
            obtain ⟨sx, sy, rfl, hpn⟩ := hm.pn
            obtain ⟨⟨sx0, sx1, sx2, rfl⟩, ⟨sy0, sy1, sy2, rfl⟩⟩ := hpn.sl
            have HMa : Hid (Pe wga wfa.heap.size (.agg #[.slice sx0 sx1 sx2, .slice sy0 sy1 sy2, .bool false]) (me eP eD (A + B) P)) := hm
            clear hm hpn
            have HBa2 : Hid (Below wv12.drew.heap.size wv12.drew wga) := HBa1.out.trans (hBp.mono HBa1.out.size)
            clear hBp
            try dsimp only
            refine hK.out _ _ ?hk12 ?_
            case hk12 => exact fun _ => ⟨(Hbp2.out.below HBa2.out Hbp2.out.lt).cell 0 (by simp), (Hbp2.out.below HBa2.out Hbp2.out.lt).cell 1 (by simp), (Hbp2.out.below HBa2.out Hbp2.out.lt).cell 2 (by simp)⟩
            have hHeld : ((fun (w' : World) => w'.cell? ⟨w7.heap.size, 0, none⟩ = some (.slice px0 px1 px2) ∧ w'.cell? ⟨w7.heap.size, 1, none⟩ = some (.slice py0 py1 py2) ∧ w'.cell? ⟨w7.heap.size, 2, none⟩ = some (.bool false))) _ := ⟨(Hbp2.out.below HBa2.out Hbp2.out.lt).cell 0 (by simp), (Hbp2.out.below HBa2.out Hbp2.out.lt).cell 1 (by simp), (Hbp2.out.below HBa2.out Hbp2.out.lt).cell 2 (by simp)⟩
            clear hK K
            try simp only [Act.put, List.setIfInBounds_toArray, List.set_cons_zero, List.set_cons_succ]
            refine wpAnyK_take0 5 (v := ?v13) rfl (by kernel_rfl) (fun _ _ _ h => h) (Or.inl ⟨by rfl, ?hy13⟩) (fun _ => hHeld) ?_
            case hy13 => (intro w hSw; go_simp; try with_reducible rfl)
            try simp only [Act.put, List.setIfInBounds_toArray, List.set_cons_zero, List.set_cons_succ]
            refine wpAnyK_take0 6 (v := ?v14) rfl (by kernel_rfl) (fun _ _ _ h => h) (Or.inl ⟨by rfl, ?hy14⟩) (fun _ => hHeld) ?_
            case hy14 => (intro w hSw; go_simp; try with_reducible rfl)
            try simp only [Act.put, List.setIfInBounds_toArray, List.set_cons_zero, List.set_cons_succ]
            refine wpAnyK_take0 7 (v := ?v15) rfl (by kernel_rfl) (fun _ _ _ h => h) (Or.inl ⟨by rfl, ?hy15⟩) (fun _ => hHeld) ?_
            case hy15 => (intro w hSw; go_simp; try with_reducible rfl)
            try simp only [Act.put, List.setIfInBounds_toArray, List.set_cons_zero, List.set_cons_succ]
            refine wpAnyK_step 8 rfl (by kernel_rfl) (fun K hK => ?_)
            go_simp
            have hza : Below wga.heap.size wga (wga.alloc (.cells #[.slice none 0 0, .slice none 0 0, .bool false] 31)) := alloc_below _ _
            have HAa : Hid (Below wv12.drew.heap.size wv12.drew (wga.alloc (.cells #[.slice none 0 0, .slice none 0 0, .bool false] 31))) := HBa2.out.trans (hza.mono HBa2.out.size)
            have HZa : Hid (Bl 31 (wga.alloc (.cells #[.slice none 0 0, .slice none 0 0, .bool false] 31)) wga.heap.size [.slice none 0 0, .slice none 0 0, .bool false]) := alloc_bl wga [.slice none 0 0, .slice none 0 0, .bool false] 31
            try dsimp only
            refine hK.out _ _ ?hk16 ?_
            case hk16 => exact fun _ => ⟨(Hbp2.out.below HAa.out Hbp2.out.lt).cell 0 (by simp), (Hbp2.out.below HAa.out Hbp2.out.lt).cell 1 (by simp), (Hbp2.out.below HAa.out Hbp2.out.lt).cell 2 (by simp)⟩
            have hHeld : ((fun (w' : World) => w'.cell? ⟨w7.heap.size, 0, none⟩ = some (.slice px0 px1 px2) ∧ w'.cell? ⟨w7.heap.size, 1, none⟩ = some (.slice py0 py1 py2) ∧ w'.cell? ⟨w7.heap.size, 2, none⟩ = some (.bool false))) _ := ⟨(Hbp2.out.below HAa.out Hbp2.out.lt).cell 0 (by simp), (Hbp2.out.below HAa.out Hbp2.out.lt).cell 1 (by simp), (Hbp2.out.below HAa.out Hbp2.out.lt).cell 2 (by simp)⟩
            clear hK K
            try simp only [Act.put, List.setIfInBounds_toArray, List.set_cons_zero, List.set_cons_succ]
            refine wpAnyK_step 9 rfl (by kernel_rfl) (fun K hK => ?_)
            rw [if_pos (by kernel_rfl)]
            refine wp_store_row 31 _ _ rfl (wga.heap.size) #[.slice sx0 sx1 sx2, .slice sy0 sy1 sy2, .bool false] rfl rfl 31 #[.slice none 0 0, .slice none 0 0, .bool false] (HZa.out) (by kernel_rfl) rfl (by simp [Value.oneCell']) ?_
            refine hK.out _ _ ?hk17 ?_
            case hk17 => exact (fun h => nomatch (h.symm.trans (show _ = true by kernel_rfl)))
            clear hK K
            try simp only [Act.put]
            refine wpAnyK_take0 10 (v := ?v18) rfl (by kernel_rfl) (fun _ _ _ h => h) (Or.inl ⟨by rfl, ?hy18⟩) (fun h => nomatch (h.symm.trans (show _ = true by kernel_rfl))) ?_
            case hy18 => (intro w hSw; go_simp; try with_reducible rfl)
            try simp only [Act.put, List.setIfInBounds_toArray, List.set_cons_zero, List.set_cons_succ]
            refine wpAnyK_done (by kernel_rfl) ?_ _
            go_wp2_with fail
            go_meet
            have hR := Fm.row wga 31 [.slice none 0 0, .slice none 0 0, .bool false] [.slice sx0 sx1 sx2, .slice sy0 sy1 sy2, .bool false] rfl
            have hbF := HBa2.out.trans (hR.bel.mono HBa2.out.size)
            exact ⟨_, wga.heap.size, sx0, sy0, sx1, sx2, sy1, sy2, rfl, rfl, rfl, (show Below wv12.heap.size wv12 wv12.drew from below_drewN (Below.refl _ _) 1).trans (hbF.mono (show Below wv12.heap.size wv12 wv12.drew from below_drewN (Below.refl _ _) 1).size), (hR.bx 0 (by simp)), (HMa.out.below hR.bel).pn'⟩
          · go_simp
            have hzb : Below wfa.heap.size wfa (wfa.alloc (.cells #[.slice none 0 0, .slice none 0 0, .bool false] 31)) := alloc_below _ _
            have HAb : Hid (Below wv12.drew.heap.size wv12.drew (wfa.alloc (.cells #[.slice none 0 0, .slice none 0 0, .bool false] 31))) := HBa1.out.trans (hzb.mono HBa1.out.size)
            have HZb : Hid (Bl 31 (wfa.alloc (.cells #[.slice none 0 0, .slice none 0 0, .bool false] 31)) wfa.heap.size [.slice none 0 0, .slice none 0 0, .bool false]) := alloc_bl wfa [.slice none 0 0, .slice none 0 0, .bool false] 31
            try dsimp only
            refine hK.out _ _ ?hk19 ?_
            case hk19 => exact fun _ => ⟨(Hbp2.out.below HAb.out Hbp2.out.lt).cell 0 (by simp), (Hbp2.out.below HAb.out Hbp2.out.lt).cell 1 (by simp), (Hbp2.out.below HAb.out Hbp2.out.lt).cell 2 (by simp)⟩
            have hHeld : ((fun (w' : World) => w'.cell? ⟨w7.heap.size, 0, none⟩ = some (.slice px0 px1 px2) ∧ w'.cell? ⟨w7.heap.size, 1, none⟩ = some (.slice py0 py1 py2) ∧ w'.cell? ⟨w7.heap.size, 2, none⟩ = some (.bool false))) _ := ⟨(Hbp2.out.below HAb.out Hbp2.out.lt).cell 0 (by simp), (Hbp2.out.below HAb.out Hbp2.out.lt).cell 1 (by simp), (Hbp2.out.below HAb.out Hbp2.out.lt).cell 2 (by simp)⟩
            clear hK K
            try simp only [Act.put, List.setIfInBounds_toArray, List.set_cons_zero, List.set_cons_succ]
            refine wpAnyK_step 4 rfl (by kernel_rfl) (fun K hK => ?_)
            go_simp
            refine (mul_p (TD.out.below HAb.out (Nat.le_refl _)) (HSa.out.below hzb (Nat.le_refl _)) (Hpp3.out.below HAb.out (Nat.le_refl _)) HP.out HH.out.2.2).mono ?_
            rintro e wgb ⟨v, rfl, hm, hBp⟩
            obtain ⟨sx, sy, rfl, hpn⟩ := hm.pn
            obtain ⟨⟨sx0, sx1, sx2, rfl⟩, ⟨sy0, sy1, sy2, rfl⟩⟩ := hpn.sl
            have HMb : Hid (Pe wgb (wfa.alloc (.cells #[.slice none 0 0, .slice none 0 0, .bool false] 31)).heap.size (.agg #[.slice sx0 sx1 sx2, .slice sy0 sy1 sy2, .bool false]) (me eP eD (A + B) P)) := hm
            clear hm hpn
            have HBb2 : Hid (Below wv12.drew.heap.size wv12.drew wgb) := HAb.out.trans (hBp.mono HAb.out.size)
            have HZb2 : Hid (Bl 31 wgb wfa.heap.size [.slice none 0 0, .slice none 0 0, .bool false]) := HZb.out.below hBp HZb.out.lt
            clear hBp
            try dsimp only
            refine hK.out _ _ ?hk20 ?_
            case hk20 => exact fun _ => ⟨(Hbp2.out.below HBb2.out Hbp2.out.lt).cell 0 (by simp), (Hbp2.out.below HBb2.out Hbp2.out.lt).cell 1 (by simp), (Hbp2.out.below HBb2.out Hbp2.out.lt).cell 2 (by simp)⟩
            have hHeld : ((fun (w' : World) => w'.cell? ⟨w7.heap.size, 0, none⟩ = some (.slice px0 px1 px2) ∧ w'.cell? ⟨w7.heap.size, 1, none⟩ = some (.slice py0 py1 py2) ∧ w'.cell? ⟨w7.heap.size, 2, none⟩ = some (.bool false))) _ := ⟨(Hbp2.out.below HBb2.out Hbp2.out.lt).cell 0 (by simp), (Hbp2.out.below HBb2.out Hbp2.out.lt).cell 1 (by simp), (Hbp2.out.below HBb2.out Hbp2.out.lt).cell 2 (by simp)⟩
            clear hK K
            try simp only [Act.put, List.setIfInBounds_toArray, List.set_cons_zero, List.set_cons_succ]
            refine wpAnyK_take0 5 (v := ?v21) rfl (by kernel_rfl) (fun _ _ _ h => h) (Or.inl ⟨by rfl, ?hy21⟩) (fun _ => hHeld) ?_
            case hy21 => (intro w hSw; go_simp; try with_reducible rfl)
            try simp only [Act.put, List.setIfInBounds_toArray, List.set_cons_zero, List.set_cons_succ]
            refine wpAnyK_take0 6 (v := ?v22) rfl (by kernel_rfl) (fun _ _ _ h => h) (Or.inl ⟨by rfl, ?hy22⟩) (fun _ => hHeld) ?_
            case hy22 => (intro w hSw; go_simp; try with_reducible rfl)
            try simp only [Act.put, List.setIfInBounds_toArray, List.set_cons_zero, List.set_cons_succ]
            refine wpAnyK_take0 7 (v := ?v23) rfl (by kernel_rfl) (fun _ _ _ h => h) (Or.inl ⟨by rfl, ?hy23⟩) (fun _ => hHeld) ?_
            case hy23 => (intro w hSw; go_simp; try with_reducible rfl)
            try simp only [Act.put, List.setIfInBounds_toArray, List.set_cons_zero, List.set_cons_succ]
            refine wpAnyK_step 9 rfl (by kernel_rfl) (fun K hK => ?_)
            rw [if_pos (by kernel_rfl)]
            refine wp_store_row 31 _ _ rfl (wfa.heap.size) #[.slice sx0 sx1 sx2, .slice sy0 sy1 sy2, .bool false] rfl rfl 31 #[.slice none 0 0, .slice none 0 0, .bool false] (HZb2.out) (by kernel_rfl) rfl (by simp [Value.oneCell']) ?_
            refine hK.out _ _ ?hk24 ?_
            case hk24 => exact (fun h => nomatch (h.symm.trans (show _ = true by kernel_rfl)))
            clear hK K
            try simp only [Act.put]
            refine wpAnyK_take0 10 (v := ?v25) rfl (by kernel_rfl) (fun _ _ _ h => h) (Or.inl ⟨by rfl, ?hy25⟩) (fun h => nomatch (h.symm.trans (show _ = true by kernel_rfl))) ?_
            case hy25 => (intro w hSw; go_simp; try with_reducible rfl)
            try simp only [Act.put, List.setIfInBounds_toArray, List.set_cons_zero, List.set_cons_succ]
            refine wpAnyK_done (by kernel_rfl) ?_ _
            go_wp2_with fail
            go_meet
            have hb := But.setRow wgb (wfa.heap.size) #[.slice sx0 sx1 sx2, .slice sy0 sy1 sy2, .bool false]
            have hbF := HBb2.out.trans (hb.below HBb2.out.size (show wv12.drew.heap.size ≤ wfa.heap.size from HBa1.out.size))
            exact ⟨_, wfa.heap.size, sx0, sy0, sx1, sx2, sy1, sy2, rfl, rfl, rfl, (show Below wv12.heap.size wv12 wv12.drew from below_drewN (Below.refl _ _) 1).trans (hbF.mono (show Below wv12.heap.size wv12 wv12.drew from below_drewN (Below.refl _ _) 1).size), (setRow_heap _ _ _ _ _ _ HZb2.out), (HMb.out.but hb HZb.out.lt).pn'⟩
        · go_simp
          have hzc : Below wv12.drew.heap.size wv12.drew (wv12.drew.alloc (.cells #[.slice none 0 0, .slice none 0 0, .bool false] 31)) := alloc_below _ _
          have HAc : Hid (Below wv12.drew.heap.size wv12.drew (wv12.drew.alloc (.cells #[.slice none 0 0, .slice none 0 0, .bool false] 31))) := HBd.out.trans (hzc.mono HBd.out.size)
          have HZc : Hid (Bl 31 (wv12.drew.alloc (.cells #[.slice none 0 0, .slice none 0 0, .bool false] 31)) wv12.drew.heap.size [.slice none 0 0, .slice none 0 0, .bool false]) := alloc_bl wv12.drew [.slice none 0 0, .slice none 0 0, .bool false] 31
          try dsimp only
          refine hK.out _ _ ?hk27 ?_
          case hk27 => exact fun _ => ⟨(Hbp2.out.below HAc.out Hbp2.out.lt).cell 0 (by simp), (Hbp2.out.below HAc.out Hbp2.out.lt).cell 1 (by simp), (Hbp2.out.below HAc.out Hbp2.out.lt).cell 2 (by simp)⟩
          have hHeld : ((fun (w' : World) => w'.cell? ⟨w7.heap.size, 0, none⟩ = some (.slice px0 px1 px2) ∧ w'.cell? ⟨w7.heap.size, 1, none⟩ = some (.slice py0 py1 py2) ∧ w'.cell? ⟨w7.heap.size, 2, none⟩ = some (.bool false))) _ := ⟨(Hbp2.out.below HAc.out Hbp2.out.lt).cell 0 (by simp), (Hbp2.out.below HAc.out Hbp2.out.lt).cell 1 (by simp), (Hbp2.out.below HAc.out Hbp2.out.lt).cell 2 (by simp)⟩
          clear hK K
          try simp only [Act.put, List.setIfInBounds_toArray, List.set_cons_zero, List.set_cons_succ]
          refine wpAnyK_step 2 rfl (by kernel_rfl) (fun K hK => ?_)
          go_simp
          refine (nadd_g _ _ A B _ (Hnk2.out.below HAc.out (Nat.le_refl _)) (Hnl2.out.below HAc.out (Nat.le_refl _))).mono ?_
          rintro e wfc ⟨zt, rfl, mz, hBp⟩
          obtain ⟨zt0, zt1, zt2, rfl⟩ := mz.shape
          have HSc : Hid (Nu wfc (.slice zt0 zt1 zt2) (A + B)) := mz
          clear mz
          have HBc1 : Hid (Below wv12.drew.heap.size wv12.drew wfc) := HAc.out.trans (hBp.mono HAc.out.size)
          have HZc1 : Hid (Bl 31 wfc wv12.drew.heap.size [.slice none 0 0, .slice none 0 0, .bool false]) := HZc.out.below hBp HZc.out.lt
          clear hBp
          try dsimp only
          refine hK.out _ _ ?hk28 ?_
          case hk28 => exact fun _ => ⟨(Hbp2.out.below HBc1.out Hbp2.out.lt).cell 0 (by simp), (Hbp2.out.below HBc1.out Hbp2.out.lt).cell 1 (by simp), (Hbp2.out.below HBc1.out Hbp2.out.lt).cell 2 (by simp)⟩
          have hHeld : ((fun (w' : World) => w'.cell? ⟨w7.heap.size, 0, none⟩ = some (.slice px0 px1 px2) ∧ w'.cell? ⟨w7.heap.size, 1, none⟩ = some (.slice py0 py1 py2) ∧ w'.cell? ⟨w7.heap.size, 2, none⟩ = some (.bool false))) _ := ⟨(Hbp2.out.below HBc1.out Hbp2.out.lt).cell 0 (by simp), (Hbp2.out.below HBc1.out Hbp2.out.lt).cell 1 (by simp), (Hbp2.out.below HBc1.out Hbp2.out.lt).cell 2 (by simp)⟩
          clear hK K
          try simp only [Act.put, List.setIfInBounds_toArray, List.set_cons_zero, List.set_cons_succ]
          refine wpAnyK_step 4 rfl (by kernel_rfl) (fun K hK => ?_)
          go_simp
          refine (mul_p (TD.out.below HBc1.out (Nat.le_refl _)) HSc.out (Hpp3.out.below HBc1.out (Nat.le_refl _)) HP.out HH.out.2.2).mono ?_
          rintro e wgc ⟨v, rfl, hm, hBp⟩
          obtain ⟨sx, sy, rfl, hpn⟩ := hm.pn
          obtain ⟨⟨sx0, sx1, sx2, rfl⟩, ⟨sy0, sy1, sy2, rfl⟩⟩ := hpn.sl
          have HMc : Hid (Pe wgc wfc.heap.size (.agg #[.slice sx0 sx1 sx2, .slice sy0 sy1 sy2, .bool false]) (me eP eD (A + B) P)) := hm
          clear hm hpn
          have HBc2 : Hid (Below wv12.drew.heap.size wv12.drew wgc) := HBc1.out.trans (hBp.mono HBc1.out.size)
          have HZc2 : Hid (Bl 31 wgc wv12.drew.heap.size [.slice none 0 0, .slice none 0 0, .bool false]) := HZc1.out.below hBp HZc1.out.lt
          clear hBp
          try dsimp only
          refine hK.out _ _ ?hk29 ?_
          case hk29 => exact fun _ => ⟨(Hbp2.out.below HBc2.out Hbp2.out.lt).cell 0 (by simp), (Hbp2.out.below HBc2.out Hbp2.out.lt).cell 1 (by simp), (Hbp2.out.below HBc2.out Hbp2.out.lt).cell 2 (by simp)⟩
          have hHeld : ((fun (w' : World) => w'.cell? ⟨w7.heap.size, 0, none⟩ = some (.slice px0 px1 px2) ∧ w'.cell? ⟨w7.heap.size, 1, none⟩ = some (.slice py0 py1 py2) ∧ w'.cell? ⟨w7.heap.size, 2, none⟩ = some (.bool false))) _ := ⟨(Hbp2.out.below HBc2.out Hbp2.out.lt).cell 0 (by simp), (Hbp2.out.below HBc2.out Hbp2.out.lt).cell 1 (by simp), (Hbp2.out.below HBc2.out Hbp2.out.lt).cell 2 (by simp)⟩
          clear hK K
          try simp only [Act.put, List.setIfInBounds_toArray, List.set_cons_zero, List.set_cons_succ]
          refine wpAnyK_take0 5 (v := ?v30) rfl (by kernel_rfl) (fun _ _ _ h => h) (Or.inl ⟨by rfl, ?hy30⟩) (fun _ => hHeld) ?_
          case hy30 => (intro w hSw; go_simp; try with_reducible rfl)
          try simp only [Act.put, List.setIfInBounds_toArray, List.set_cons_zero, List.set_cons_succ]
          refine wpAnyK_take0 6 (v := ?v31) rfl (by kernel_rfl) (fun _ _ _ h => h) (Or.inl ⟨by rfl, ?hy31⟩) (fun _ => hHeld) ?_
          case hy31 => (intro w hSw; go_simp; try with_reducible rfl)
          try simp only [Act.put, List.setIfInBounds_toArray, List.set_cons_zero, List.set_cons_succ]
          refine wpAnyK_take0 7 (v := ?v32) rfl (by kernel_rfl) (fun _ _ _ h => h) (Or.inl ⟨by rfl, ?hy32⟩) (fun _ => hHeld) ?_
          case hy32 => (intro w hSw; go_simp; try with_reducible rfl)
          try simp only [Act.put, List.setIfInBounds_toArray, List.set_cons_zero, List.set_cons_succ]
          refine wpAnyK_step 9 rfl (by kernel_rfl) (fun K hK => ?_)
          rw [if_pos (by kernel_rfl)]
          refine wp_store_row 31 _ _ rfl (wv12.drew.heap.size) #[.slice sx0 sx1 sx2, .slice sy0 sy1 sy2, .bool false] rfl rfl 31 #[.slice none 0 0, .slice none 0 0, .bool false] (HZc2.out) (by kernel_rfl) rfl (by simp [Value.oneCell']) ?_
          refine hK.out _ _ ?hk33 ?_
          case hk33 => exact (fun h => nomatch (h.symm.trans (show _ = true by kernel_rfl)))
          clear hK K
          try simp only [Act.put]
          refine wpAnyK_take0 10 (v := ?v34) rfl (by kernel_rfl) (fun _ _ _ h => h) (Or.inl ⟨by rfl, ?hy34⟩) (fun h => nomatch (h.symm.trans (show _ = true by kernel_rfl))) ?_
          case hy34 => (intro w hSw; go_simp; try with_reducible rfl)
          try simp only [Act.put, List.setIfInBounds_toArray, List.set_cons_zero, List.set_cons_succ]
          refine wpAnyK_done (by kernel_rfl) ?_ _
          go_wp2_with fail
          go_meet
          have hb := But.setRow wgc (wv12.drew.heap.size) #[.slice sx0 sx1 sx2, .slice sy0 sy1 sy2, .bool false]
          have hbF := HBc2.out.trans (hb.below HBc2.out.size (show wv12.drew.heap.size ≤ wv12.drew.heap.size from Nat.le_refl _))
          exact ⟨_, wv12.drew.heap.size, sx0, sy0, sx1, sx2, sy1, sy2, rfl, rfl, rfl, (show Below wv12.heap.size wv12 wv12.drew from below_drewN (Below.refl _ _) 1).trans (hbF.mono (show Below wv12.heap.size wv12 wv12.drew from below_drewN (Below.refl _ _) 1).size), (setRow_heap _ _ _ _ _ _ HZc2.out), (HMc.out.but hb HZc1.out.lt).pn'⟩
      case rest =>
        obtain ⟨wb13, g13, sx0, sy0, sx1, sx2, sy1, sy2, rfl, rfl, rfl, HC⟩ := hcut
        have Hs13 : Hid (Below wv12.heap.size wv12 wb13) := HC.out.1
        have Hbs0 : Hid (Bl 31 wb13 g13 [.slice sx0 sx1 sx2, .slice sy0 sy1 sy2, .bool false]) := HC.out.2.1
        have Hps0 : Hid (Pn wb13 (.slice sx0 sx1 sx2) (.slice sy0 sy1 sy2) (me eP eD (A + B) P)) := HC.out.2.2
        clear HC
        have hlt := lit_v wb13 1 1 rfl (by decide) (by decide)
        have hnl : Nu (wb13.alloc (.cells #[.int .u32 1] 43)) (.slice (some ⟨wb13.heap.size, 0, none⟩) 1 1) 1 := hlt.nb.1
        have hbl := hlt.bel
        have Hs13z : Hid (Below wb13.heap.size wb13 (wb13.alloc (.cells #[.int .u32 1] 43))) := hbl
        have Hn10 : Hid (Nu (wb13.alloc (.cells #[.int .u32 1] 43)) (.slice (some ⟨wb13.heap.size, 0, none⟩) 1 1) 1) := hnl
        clear hlt hnl hbl
        have Hbp2 : Hid (Bl 31 (wb13.alloc (.cells #[.int .u32 1] 43)) w7.heap.size [.slice px0 px1 px2, .slice py0 py1 py2, .bool false]) := Hbp1.out.below (btr Hs11.out (btr Hs11z.out (btr Hs13.out Hs13z.out))) Hbp1.out.lt
        have kp_0 : (wb13.alloc (.cells #[.int .u32 1] 43)).cell? ⟨w7.heap.size, 0, none⟩ = some (.slice px0 px1 px2) := Hbp2.out.cell 0 (by simp)
        have kp_1 : (wb13.alloc (.cells #[.int .u32 1] 43)).cell? ⟨w7.heap.size, 1, none⟩ = some (.slice py0 py1 py2) := Hbp2.out.cell 1 (by simp)
        have kp_2 : (wb13.alloc (.cells #[.int .u32 1] 43)).cell? ⟨w7.heap.size, 2, none⟩ = some (.bool false) := Hbp2.out.cell 2 (by simp)
        go_wp2_with fail
        clear kp_0 kp_1 kp_2
        generalize (wb13.alloc (.cells #[.int .u32 1] 43)) = wv14 at *
        have HB8 : Hid (Below w.heap.size w wv14) := HB7.out.trans ((btr Hs13.out Hs13z.out).mono HB7.out.size)
        have Hpp3 : Hid (Pn wv14 (.slice px0 px1 px2) (.slice py0 py1 py2) P) := Hpp2.out.below (btr Hs11.out (btr Hs11z.out (btr Hs13.out Hs13z.out))) (Nat.le_refl _)
        refine (mul_p (HT.out.1.below HB8.out (Nat.le_refl _)) (Hn10.out) Hpp3.out HP.out (by decide)).mono ?_
        rintro e w15 ⟨v, rfl, hm, hB⟩
        have Hs15 : Hid (Below wv14.heap.size wv14 w15) := hB
        rw [ew.mone HP.out] at hm
        obtain ⟨ux, uy, rfl, hpn⟩ := hm.pn
        obtain ⟨⟨ux0, ux1, ux2, rfl⟩, ⟨uy0, uy1, uy2, rfl⟩⟩ := hpn.sl
        have Hpu0 : Hid (Pn w15 (.slice ux0 ux1 ux2) (.slice uy0 uy1 uy2) P) := hpn
        clear hpn
        clear hB hm
        have Hs15z : Hid (Below w15.heap.size w15 (w15.alloc (.cells #[.slice ux0 ux1 ux2, .slice uy0 uy1 uy2, .bool false] 31))) := alloc_below _ _
        have Hbu0 : Hid (Bl 31 (w15.alloc (.cells #[.slice ux0 ux1 ux2, .slice uy0 uy1 uy2, .bool false] 31)) w15.heap.size [.slice ux0 ux1 ux2, .slice uy0 uy1 uy2, .bool false]) := alloc_bl w15 [.slice ux0 ux1 ux2, .slice uy0 uy1 uy2, .bool false] 31
        have Hbp3 : Hid (Bl 31 (w15.alloc (.cells #[.slice ux0 ux1 ux2, .slice uy0 uy1 uy2, .bool false] 31)) w7.heap.size [.slice px0 px1 px2, .slice py0 py1 py2, .bool false]) := Hbp2.out.below (btr Hs15.out Hs15z.out) Hbp2.out.lt
        have kp_0 : (w15.alloc (.cells #[.slice ux0 ux1 ux2, .slice uy0 uy1 uy2, .bool false] 31)).cell? ⟨w7.heap.size, 0, none⟩ = some (.slice px0 px1 px2) := Hbp3.out.cell 0 (by simp)
        have kp_1 : (w15.alloc (.cells #[.slice ux0 ux1 ux2, .slice uy0 uy1 uy2, .bool false] 31)).cell? ⟨w7.heap.size, 1, none⟩ = some (.slice py0 py1 py2) := Hbp3.out.cell 1 (by simp)
        have kp_2 : (w15.alloc (.cells #[.slice ux0 ux1 ux2, .slice uy0 uy1 uy2, .bool false] 31)).cell? ⟨w7.heap.size, 2, none⟩ = some (.bool false) := Hbp3.out.cell 2 (by simp)
        go_wp2_with fail
        clear kp_0 kp_1 kp_2
        generalize (w15.alloc (.cells #[.slice ux0 ux1 ux2, .slice uy0 uy1 uy2, .bool false] 31)) = wv16 at *
        have HB9 : Hid (Below w.heap.size w wv16) := HB8.out.trans ((btr Hs15.out Hs15z.out).mono HB8.out.size)
        have Hpp4 : Hid (Pn wv16 (.slice px0 px1 px2) (.slice py0 py1 py2) P) := Hpp3.out.below (btr Hs15.out Hs15z.out) (Nat.le_refl _)
        refine (mul_p (HT.out.1.below HB9.out (Nat.le_refl _)) (nu_none _) Hpp4.out HP.out (by decide)).mono ?_
        rintro e w17 ⟨v, rfl, hm, hB⟩
        have Hs17 : Hid (Below wv16.heap.size wv16 w17) := hB
        obtain ⟨vx, vy, rfl, hpn⟩ := hm.pn
        obtain ⟨⟨vx0, vx1, vx2, rfl⟩, ⟨vy0, vy1, vy2, rfl⟩⟩ := hpn.sl
        have Hpv0 : Hid (Pn w17 (.slice vx0 vx1 vx2) (.slice vy0 vy1 vy2) (0, 1)) := hpn
        clear hpn
        clear hB hm
        have Hs17z : Hid (Below w17.heap.size w17 (w17.alloc (.cells #[.slice vx0 vx1 vx2, .slice vy0 vy1 vy2, .bool false] 31))) := alloc_below _ _
        have Hbv0 : Hid (Bl 31 (w17.alloc (.cells #[.slice vx0 vx1 vx2, .slice vy0 vy1 vy2, .bool false] 31)) w17.heap.size [.slice vx0 vx1 vx2, .slice vy0 vy1 vy2, .bool false]) := alloc_bl w17 [.slice vx0 vx1 vx2, .slice vy0 vy1 vy2, .bool false] 31
        have Hnk2 : Hid (Vl (w17.alloc (.cells #[.slice vx0 vx1 vx2, .slice vy0 vy1 vy2, .bool false] 31)) (.slice k0 k1 k2) A 1048576) := Hnk1.out.below (btr Hs9.out (btr Hs9z.out (btr Hs11.out (btr Hs11z.out (btr Hs13.out (btr Hs13z.out (btr Hs15.out (btr Hs15z.out (btr Hs17.out Hs17z.out))))))))) (Nat.le_refl _)
        have Hnl2 : Hid (Vl (w17.alloc (.cells #[.slice vx0 vx1 vx2, .slice vy0 vy1 vy2, .bool false] 31)) (.slice n0 n1 n2) B 1048576) := Hnl1.out.below (btr Hs11.out (btr Hs11z.out (btr Hs13.out (btr Hs13z.out (btr Hs15.out (btr Hs15z.out (btr Hs17.out Hs17z.out))))))) (Nat.le_refl _)
        have HB10 : Hid (Below w.heap.size w (w17.alloc (.cells #[.slice vx0 vx1 vx2, .slice vy0 vy1 vy2, .bool false] 31))) := HB9.out.trans ((btr Hs17.out Hs17z.out).mono HB9.out.size)
        obtain ⟨qa, Hqa⟩ : ∃ z : Int, Hid (z = ((bl (A) : Nat) : Int)) := ⟨_, rfl⟩
        obtain ⟨qb, Hqb⟩ : ∃ z : Int, Hid (z = ((bl (B) : Nat) : Int)) := ⟨_, rfl⟩
        obtain ⟨qs, Hqs⟩ : ∃ z : Int, Hid (z = ((bl (A + B) : Nat) : Int)) := ⟨_, rfl⟩
        have HV : Hid (bl A ≤ 1024 ∧ bl B ≤ 1024 ∧ bl (A + B) ≤ 1024) := HH.out
        have hdqa : decide ((1024 : Int) < qa) = false := by have := Hqa.out; have := HV.out; exact decide_eq_false (by omega)
        have hdqb : decide ((1024 : Int) < qb) = false := by have := Hqb.out; have := HV.out; exact decide_eq_false (by omega)
        have hdqs : decide ((1024 : Int) < qs) = false := by have := Hqs.out; have := HV.out; exact decide_eq_false (by omega)
        go_wp2_with fail
        generalize (w17.alloc (.cells #[.slice vx0 vx1 vx2, .slice vy0 vy1 vy2, .bool false] 31)) = wv18 at *
        refine (by rw [Hqa.out]; exact vbits _ (A) _ _ (vnu Hnk2.out) (by decide) : Calls Tryz.prog 24 #[_] _ fun e w' => e = .returned (.int .i64 qa) ∧ w' = _).mono ?_
        rintro e wv18 ⟨rfl, rfl⟩
        go_wp2_with fail
        refine (by rw [Hqb.out]; exact vbits _ (B) _ _ (vnu Hnl2.out) (by decide) : Calls Tryz.prog 24 #[_] _ fun e w' => e = .returned (.int .i64 qb) ∧ w' = _).mono ?_
        rintro e wv18 ⟨rfl, rfl⟩
        go_wp2_with fail
        refine (nadd_g _ _ A B _ Hnk2.out Hnl2.out).mono ?_
        rintro e w19 ⟨ta, rfl, mz, hB⟩
        have Hs19 : Hid (Below wv18.heap.size wv18 w19) := hB
        obtain ⟨ta0, ta1, ta2, rfl⟩ := mz.shape
        have Hnta0 : Hid (Nu w19 (.slice ta0 ta1 ta2) (A + B)) := mz
        clear mz hB
        go_wp2_with fail
        refine (by rw [Hqs.out]; exact vbits _ (A + B) _ _ (Hnta0.out) (by decide) : Calls Tryz.prog 24 #[_] _ fun e w' => e = .returned (.int .i64 qs) ∧ w' = _).mono ?_
        rintro e w19 ⟨rfl, rfl⟩
        have Hbx1 : Hid (Bl 31 w19 w9.heap.size [.slice xx0 xx1 xx2, .slice xy0 xy1 xy2, .bool false]) := Hbx0.out.below (btr Hs11.out (btr Hs11z.out (btr Hs13.out (btr Hs13z.out (btr Hs15.out (btr Hs15z.out (btr Hs17.out (btr Hs17z.out Hs19.out)))))))) Hbx0.out.lt
        have kx_0 : w19.cell? ⟨w9.heap.size, 0, none⟩ = some (.slice xx0 xx1 xx2) := Hbx1.out.cell 0 (by simp)
        have kx_1 : w19.cell? ⟨w9.heap.size, 1, none⟩ = some (.slice xy0 xy1 xy2) := Hbx1.out.cell 1 (by simp)
        have kx_2 : w19.cell? ⟨w9.heap.size, 2, none⟩ = some (.bool false) := Hbx1.out.cell 2 (by simp)
        have Hby1 : Hid (Bl 31 w19 w11.heap.size [.slice yx0 yx1 yx2, .slice yy0 yy1 yy2, .bool false]) := Hby0.out.below (btr Hs13.out (btr Hs13z.out (btr Hs15.out (btr Hs15z.out (btr Hs17.out (btr Hs17z.out Hs19.out)))))) Hby0.out.lt
        have ky_0 : w19.cell? ⟨w11.heap.size, 0, none⟩ = some (.slice yx0 yx1 yx2) := Hby1.out.cell 0 (by simp)
        have ky_1 : w19.cell? ⟨w11.heap.size, 1, none⟩ = some (.slice yy0 yy1 yy2) := Hby1.out.cell 1 (by simp)
        have ky_2 : w19.cell? ⟨w11.heap.size, 2, none⟩ = some (.bool false) := Hby1.out.cell 2 (by simp)
        go_wp2_with fail
        clear kx_0 kx_1 kx_2 ky_0 ky_1 ky_2
        have HB11 : Hid (Below w.heap.size w w19) := HB10.out.trans (Hs19.out.mono HB10.out.size)
        have Hpx1 : Hid (Pn w19 (.slice xx0 xx1 xx2) (.slice xy0 xy1 xy2) (me eP eD A P)) := Hpx0.out.below (btr Hs9z.out (btr Hs11.out (btr Hs11z.out (btr Hs13.out (btr Hs13z.out (btr Hs15.out (btr Hs15z.out (btr Hs17.out (btr Hs17z.out Hs19.out))))))))) (Nat.le_refl _)
        have Hpy1 : Hid (Pn w19 (.slice yx0 yx1 yx2) (.slice yy0 yy1 yy2) (me eP eD B P)) := Hpy0.out.below (btr Hs11z.out (btr Hs13.out (btr Hs13z.out (btr Hs15.out (btr Hs15z.out (btr Hs17.out (btr Hs17z.out Hs19.out))))))) (Nat.le_refl _)
        refine (add_p (HT.out.1.below HB11.out (Nat.le_refl _)) Hpx1.out Hpy1.out (ew.mon HP.out A) (ew.mon HP.out B)).mono ?_
        rintro e w20 ⟨v, rfl, hm, hB⟩
        have Hs20 : Hid (Below w19.heap.size w19 w20) := hB
        rw [← ew.madd HP.out] at hm
        obtain ⟨tx, ty, rfl, hpn⟩ := hm.pn
        obtain ⟨⟨tx0, tx1, tx2, rfl⟩, ⟨ty0, ty1, ty2, rfl⟩⟩ := hpn.sl
        have Hpt0 : Hid (Pn w20 (.slice tx0 tx1 tx2) (.slice ty0 ty1 ty2) (me eP eD (A + B) P)) := hpn
        clear hpn
        clear hB hm
        have Hs20z : Hid (Below w20.heap.size w20 (w20.alloc (.cells #[.slice tx0 tx1 tx2, .slice ty0 ty1 ty2, .bool false] 31))) := alloc_below _ _
        have Hbt0 : Hid (Bl 31 (w20.alloc (.cells #[.slice tx0 tx1 tx2, .slice ty0 ty1 ty2, .bool false] 31)) w20.heap.size [.slice tx0 tx1 tx2, .slice ty0 ty1 ty2, .bool false]) := alloc_bl w20 [.slice tx0 tx1 tx2, .slice ty0 ty1 ty2, .bool false] 31
        go_wp2_with fail
        have hBd : Below (w20.alloc (.cells #[.slice tx0 tx1 tx2, .slice ty0 ty1 ty2, .bool false] 31)).heap.size (w20.alloc (.cells #[.slice tx0 tx1 tx2, .slice ty0 ty1 ty2, .bool false] 31)) (w20.alloc (.cells #[.slice tx0 tx1 tx2, .slice ty0 ty1 ty2, .bool false] 31)).drew := below_drewN (Below.refl _ _) 1
        have Hs20zz : Hid (Below (w20.alloc (.cells #[.slice tx0 tx1 tx2, .slice ty0 ty1 ty2, .bool false] 31)).heap.size (w20.alloc (.cells #[.slice tx0 tx1 tx2, .slice ty0 ty1 ty2, .bool false] 31)) (w20.alloc (.cells #[.slice tx0 tx1 tx2, .slice ty0 ty1 ty2, .bool false] 31)).drew) := hBd
        clear hBd
        have Hbt1 : Hid (Bl 31 (w20.alloc (.cells #[.slice tx0 tx1 tx2, .slice ty0 ty1 ty2, .bool false] 31)).drew w20.heap.size [.slice tx0 tx1 tx2, .slice ty0 ty1 ty2, .bool false]) := Hbt0.out.below Hs20zz.out Hbt0.out.lt
        have Hbs1 : Hid (Bl 31 (w20.alloc (.cells #[.slice tx0 tx1 tx2, .slice ty0 ty1 ty2, .bool false] 31)).drew g13 [.slice sx0 sx1 sx2, .slice sy0 sy1 sy2, .bool false]) := Hbs0.out.below (btr Hs13z.out (btr Hs15.out (btr Hs15z.out (btr Hs17.out (btr Hs17z.out (btr Hs19.out (btr Hs20.out (btr Hs20z.out Hs20zz.out)))))))) Hbs0.out.lt
        have Hbu1 : Hid (Bl 31 (w20.alloc (.cells #[.slice tx0 tx1 tx2, .slice ty0 ty1 ty2, .bool false] 31)).drew w15.heap.size [.slice ux0 ux1 ux2, .slice uy0 uy1 uy2, .bool false]) := Hbu0.out.below (btr Hs17.out (btr Hs17z.out (btr Hs19.out (btr Hs20.out (btr Hs20z.out Hs20zz.out))))) Hbu0.out.lt
        have Hbp4 : Hid (Bl 31 (w20.alloc (.cells #[.slice tx0 tx1 tx2, .slice ty0 ty1 ty2, .bool false] 31)).drew w7.heap.size [.slice px0 px1 px2, .slice py0 py1 py2, .bool false]) := Hbp3.out.below (btr Hs17.out (btr Hs17z.out (btr Hs19.out (btr Hs20.out (btr Hs20z.out Hs20zz.out))))) Hbp3.out.lt
        have Hbv1 : Hid (Bl 31 (w20.alloc (.cells #[.slice tx0 tx1 tx2, .slice ty0 ty1 ty2, .bool false] 31)).drew w17.heap.size [.slice vx0 vx1 vx2, .slice vy0 vy1 vy2, .bool false]) := Hbv0.out.below (btr Hs19.out (btr Hs20.out (btr Hs20z.out Hs20zz.out))) Hbv0.out.lt
        refine wp_region_K 19 (fun (w' : World) => w'.cell? ⟨w20.heap.size, 0, none⟩ = some (.slice tx0 tx1 tx2) ∧ w'.cell? ⟨w20.heap.size, 1, none⟩ = some (.slice ty0 ty1 ty2) ∧ w'.cell? ⟨w20.heap.size, 2, none⟩ = some (.bool false) ∧ w'.cell? ⟨g13, 0, none⟩ = some (.slice sx0 sx1 sx2) ∧ w'.cell? ⟨g13, 1, none⟩ = some (.slice sy0 sy1 sy2) ∧ w'.cell? ⟨g13, 2, none⟩ = some (.bool false) ∧ w'.cell? ⟨w15.heap.size, 0, none⟩ = some (.slice ux0 ux1 ux2) ∧ w'.cell? ⟨w15.heap.size, 1, none⟩ = some (.slice uy0 uy1 uy2) ∧ w'.cell? ⟨w15.heap.size, 2, none⟩ = some (.bool false) ∧ w'.cell? ⟨w7.heap.size, 0, none⟩ = some (.slice px0 px1 px2) ∧ w'.cell? ⟨w7.heap.size, 1, none⟩ = some (.slice py0 py1 py2) ∧ w'.cell? ⟨w7.heap.size, 2, none⟩ = some (.bool false) ∧ w'.cell? ⟨w17.heap.size, 0, none⟩ = some (.slice vx0 vx1 vx2) ∧ w'.cell? ⟨w17.heap.size, 1, none⟩ = some (.slice vy0 vy1 vy2) ∧ w'.cell? ⟨w17.heap.size, 2, none⟩ = some (.bool false)) (by kernel_rfl) ?_
        have hHeld : ((fun (w' : World) => w'.cell? ⟨w20.heap.size, 0, none⟩ = some (.slice tx0 tx1 tx2) ∧ w'.cell? ⟨w20.heap.size, 1, none⟩ = some (.slice ty0 ty1 ty2) ∧ w'.cell? ⟨w20.heap.size, 2, none⟩ = some (.bool false) ∧ w'.cell? ⟨g13, 0, none⟩ = some (.slice sx0 sx1 sx2) ∧ w'.cell? ⟨g13, 1, none⟩ = some (.slice sy0 sy1 sy2) ∧ w'.cell? ⟨g13, 2, none⟩ = some (.bool false) ∧ w'.cell? ⟨w15.heap.size, 0, none⟩ = some (.slice ux0 ux1 ux2) ∧ w'.cell? ⟨w15.heap.size, 1, none⟩ = some (.slice uy0 uy1 uy2) ∧ w'.cell? ⟨w15.heap.size, 2, none⟩ = some (.bool false) ∧ w'.cell? ⟨w7.heap.size, 0, none⟩ = some (.slice px0 px1 px2) ∧ w'.cell? ⟨w7.heap.size, 1, none⟩ = some (.slice py0 py1 py2) ∧ w'.cell? ⟨w7.heap.size, 2, none⟩ = some (.bool false) ∧ w'.cell? ⟨w17.heap.size, 0, none⟩ = some (.slice vx0 vx1 vx2) ∧ w'.cell? ⟨w17.heap.size, 1, none⟩ = some (.slice vy0 vy1 vy2) ∧ w'.cell? ⟨w17.heap.size, 2, none⟩ = some (.bool false))) (World.drew _) := ⟨Hbt1.out.cell 0 (by simp), Hbt1.out.cell 1 (by simp), Hbt1.out.cell 2 (by simp), Hbs1.out.cell 0 (by simp), Hbs1.out.cell 1 (by simp), Hbs1.out.cell 2 (by simp), Hbu1.out.cell 0 (by simp), Hbu1.out.cell 1 (by simp), Hbu1.out.cell 2 (by simp), Hbp4.out.cell 0 (by simp), Hbp4.out.cell 1 (by simp), Hbp4.out.cell 2 (by simp), Hbv1.out.cell 0 (by simp), Hbv1.out.cell 1 (by simp), Hbv1.out.cell 2 (by simp)⟩
        refine wpAnyK_take0 0 (v := ?v35) rfl (by kernel_rfl) (fun _ _ _ h => h) (Or.inl ⟨by rfl, ?hy35⟩) (fun _ => hHeld) ?_
        case hy35 => (intro w hSw; go_simp; try with_reducible rfl)
        try simp only [Act.put, List.setIfInBounds_toArray, List.set_cons_zero, List.set_cons_succ]
        refine wpAnyK_take0 1 (v := ?v36) rfl (by kernel_rfl) (fun _ _ _ h => h) (Or.inl ⟨by rfl, ?hy36⟩) (fun _ => hHeld) ?_
        case hy36 => (intro w hSw; go_simp; try with_reducible rfl)
        try simp only [Act.put, List.setIfInBounds_toArray, List.set_cons_zero, List.set_cons_succ]
        refine wpAnyK_take0 2 (v := ?v37) rfl (by kernel_rfl) (fun _ _ _ h => h) (Or.inl ⟨by rfl, ?hy37⟩) (fun _ => hHeld) ?_
        case hy37 => (intro w hSw; go_simp; try with_reducible rfl)
        try simp only [Act.put, List.setIfInBounds_toArray, List.set_cons_zero, List.set_cons_succ]
        refine wpAnyK_take 3 [5, 6, 7, 10, 11, 15, 16, 19] (v := ?v38) rfl (by kernel_rfl) (fun _ _ _ h => h) (Or.inl ⟨by rfl, ?hy38⟩) hHeld ?_
        case hy38 => (intro w hSw; (try dsimp only at hSw); go_simp; try with_reducible rfl)
        try simp only [Act.put, List.setIfInBounds_toArray, List.set_cons_zero, List.set_cons_succ]
        refine wpAnyK_take 4 [5, 6, 7, 10, 11, 15, 16, 19] (v := ?v39) rfl (by kernel_rfl) (fun _ _ _ h => h) (Or.inl ⟨by rfl, ?hy39⟩) hHeld ?_
        case hy39 => (intro w hSw; (try dsimp only at hSw); go_simp; try with_reducible rfl)
        try simp only [Act.put, List.setIfInBounds_toArray, List.set_cons_zero, List.set_cons_succ]
        refine wpAnyK_step 5 rfl (by kernel_rfl) (fun K hK => ?_)
        go_simp
        have Hpt1 : Hid (Pn (w20.alloc (.cells #[.slice tx0 tx1 tx2, .slice ty0 ty1 ty2, .bool false] 31)).drew (.slice tx0 tx1 tx2) (.slice ty0 ty1 ty2) (me eP eD (A + B) P)) := Hpt0.out.below (btr Hs20z.out Hs20zz.out) (Nat.le_refl _)
        have Hps1 : Hid (Pn (w20.alloc (.cells #[.slice tx0 tx1 tx2, .slice ty0 ty1 ty2, .bool false] 31)).drew (.slice sx0 sx1 sx2) (.slice sy0 sy1 sy2) (me eP eD (A + B) P)) := Hps0.out.below (btr Hs13z.out (btr Hs15.out (btr Hs15z.out (btr Hs17.out (btr Hs17z.out (btr Hs19.out (btr Hs20.out (btr Hs20z.out Hs20zz.out)))))))) (Nat.le_refl _)
        refine (lone_p Hpt1.out Hps1.out).mono ?_
        rintro e w21 ⟨rfl, hB⟩
        have Hs21 : Hid (Below (w20.alloc (.cells #[.slice tx0 tx1 tx2, .slice ty0 ty1 ty2, .bool false] 31)).drew.heap.size (w20.alloc (.cells #[.slice tx0 tx1 tx2, .slice ty0 ty1 ty2, .bool false] 31)).drew w21) := hB
        clear hB
        rw [decide_eq_true (rfl : me eP eD (A + B) P = me eP eD (A + B) P)]
        have Hbt2 : Hid (Bl 31 w21 w20.heap.size [.slice tx0 tx1 tx2, .slice ty0 ty1 ty2, .bool false]) := Hbt1.out.below Hs21.out Hbt1.out.lt
        have Hbs2 : Hid (Bl 31 w21 g13 [.slice sx0 sx1 sx2, .slice sy0 sy1 sy2, .bool false]) := Hbs1.out.below Hs21.out Hbs1.out.lt
        have Hbu2 : Hid (Bl 31 w21 w15.heap.size [.slice ux0 ux1 ux2, .slice uy0 uy1 uy2, .bool false]) := Hbu1.out.below Hs21.out Hbu1.out.lt
        have Hbp5 : Hid (Bl 31 w21 w7.heap.size [.slice px0 px1 px2, .slice py0 py1 py2, .bool false]) := Hbp4.out.below Hs21.out Hbp4.out.lt
        have Hbv2 : Hid (Bl 31 w21 w17.heap.size [.slice vx0 vx1 vx2, .slice vy0 vy1 vy2, .bool false]) := Hbv1.out.below Hs21.out Hbv1.out.lt
        try dsimp only
        refine hK.out _ _ ?hk40 ?_
        case hk40 => exact fun _ => ⟨Hbt2.out.cell 0 (by simp), Hbt2.out.cell 1 (by simp), Hbt2.out.cell 2 (by simp), Hbs2.out.cell 0 (by simp), Hbs2.out.cell 1 (by simp), Hbs2.out.cell 2 (by simp), Hbu2.out.cell 0 (by simp), Hbu2.out.cell 1 (by simp), Hbu2.out.cell 2 (by simp), Hbp5.out.cell 0 (by simp), Hbp5.out.cell 1 (by simp), Hbp5.out.cell 2 (by simp), Hbv2.out.cell 0 (by simp), Hbv2.out.cell 1 (by simp), Hbv2.out.cell 2 (by simp)⟩
        have hHeld : ((fun (w' : World) => w'.cell? ⟨w20.heap.size, 0, none⟩ = some (.slice tx0 tx1 tx2) ∧ w'.cell? ⟨w20.heap.size, 1, none⟩ = some (.slice ty0 ty1 ty2) ∧ w'.cell? ⟨w20.heap.size, 2, none⟩ = some (.bool false) ∧ w'.cell? ⟨g13, 0, none⟩ = some (.slice sx0 sx1 sx2) ∧ w'.cell? ⟨g13, 1, none⟩ = some (.slice sy0 sy1 sy2) ∧ w'.cell? ⟨g13, 2, none⟩ = some (.bool false) ∧ w'.cell? ⟨w15.heap.size, 0, none⟩ = some (.slice ux0 ux1 ux2) ∧ w'.cell? ⟨w15.heap.size, 1, none⟩ = some (.slice uy0 uy1 uy2) ∧ w'.cell? ⟨w15.heap.size, 2, none⟩ = some (.bool false) ∧ w'.cell? ⟨w7.heap.size, 0, none⟩ = some (.slice px0 px1 px2) ∧ w'.cell? ⟨w7.heap.size, 1, none⟩ = some (.slice py0 py1 py2) ∧ w'.cell? ⟨w7.heap.size, 2, none⟩ = some (.bool false) ∧ w'.cell? ⟨w17.heap.size, 0, none⟩ = some (.slice vx0 vx1 vx2) ∧ w'.cell? ⟨w17.heap.size, 1, none⟩ = some (.slice vy0 vy1 vy2) ∧ w'.cell? ⟨w17.heap.size, 2, none⟩ = some (.bool false))) _ := ⟨Hbt2.out.cell 0 (by simp), Hbt2.out.cell 1 (by simp), Hbt2.out.cell 2 (by simp), Hbs2.out.cell 0 (by simp), Hbs2.out.cell 1 (by simp), Hbs2.out.cell 2 (by simp), Hbu2.out.cell 0 (by simp), Hbu2.out.cell 1 (by simp), Hbu2.out.cell 2 (by simp), Hbp5.out.cell 0 (by simp), Hbp5.out.cell 1 (by simp), Hbp5.out.cell 2 (by simp), Hbv2.out.cell 0 (by simp), Hbv2.out.cell 1 (by simp), Hbv2.out.cell 2 (by simp)⟩
        clear hK K
        try simp only [Act.put, List.setIfInBounds_toArray, List.set_cons_zero, List.set_cons_succ]
        refine wpAnyK_take0 6 (v := ?v41) rfl (by kernel_rfl) (fun _ _ _ h => h) (Or.inl ⟨by rfl, ?hy41⟩) (fun _ => hHeld) ?_
        case hy41 => (intro w hSw; go_simp; try with_reducible rfl)
        try simp only [Act.put, List.setIfInBounds_toArray, List.set_cons_zero, List.set_cons_succ]
        refine wpAnyK_take0 7 (v := ?v42) rfl (by kernel_rfl) (fun _ _ _ h => h) (Or.inl ⟨by rfl, ?hy42⟩) (fun _ => hHeld) ?_
        case hy42 => (intro w hSw; go_simp; try with_reducible rfl)
        try simp only [Act.put, List.setIfInBounds_toArray, List.set_cons_zero, List.set_cons_succ]
        refine wpAnyK_take 8 [9, 10, 11, 15, 16, 19] (v := ?v43) rfl (by kernel_rfl) (fun _ _ _ h => h) (Or.inl ⟨by rfl, ?hy43⟩) hHeld ?_
        case hy43 => (intro w hSw; (try dsimp only at hSw); go_simp; try with_reducible rfl)
        try simp only [Act.put, List.setIfInBounds_toArray, List.set_cons_zero, List.set_cons_succ]
        refine wpAnyK_step 9 rfl (by kernel_rfl) (fun K hK => ?_)
        go_simp
        have Hps2 : Hid (Pn w21 (.slice sx0 sx1 sx2) (.slice sy0 sy1 sy2) (me eP eD (A + B) P)) := Hps1.out.below Hs21.out (Nat.le_refl _)
        refine (lon_p Hps2.out (ew.mon HP.out (A + B))).mono ?_
        rintro e w22 ⟨rfl, hB⟩
        have Hs22 : Hid (Below w21.heap.size w21 w22) := hB
        clear hB
        have Hbt3 : Hid (Bl 31 w22 w20.heap.size [.slice tx0 tx1 tx2, .slice ty0 ty1 ty2, .bool false]) := Hbt2.out.below Hs22.out Hbt2.out.lt
        have Hbs3 : Hid (Bl 31 w22 g13 [.slice sx0 sx1 sx2, .slice sy0 sy1 sy2, .bool false]) := Hbs2.out.below Hs22.out Hbs2.out.lt
        have Hbu3 : Hid (Bl 31 w22 w15.heap.size [.slice ux0 ux1 ux2, .slice uy0 uy1 uy2, .bool false]) := Hbu2.out.below Hs22.out Hbu2.out.lt
        have Hbp6 : Hid (Bl 31 w22 w7.heap.size [.slice px0 px1 px2, .slice py0 py1 py2, .bool false]) := Hbp5.out.below Hs22.out Hbp5.out.lt
        have Hbv3 : Hid (Bl 31 w22 w17.heap.size [.slice vx0 vx1 vx2, .slice vy0 vy1 vy2, .bool false]) := Hbv2.out.below Hs22.out Hbv2.out.lt
        try dsimp only
        refine hK.out _ _ ?hk44 ?_
        case hk44 => exact fun _ => ⟨Hbt3.out.cell 0 (by simp), Hbt3.out.cell 1 (by simp), Hbt3.out.cell 2 (by simp), Hbs3.out.cell 0 (by simp), Hbs3.out.cell 1 (by simp), Hbs3.out.cell 2 (by simp), Hbu3.out.cell 0 (by simp), Hbu3.out.cell 1 (by simp), Hbu3.out.cell 2 (by simp), Hbp6.out.cell 0 (by simp), Hbp6.out.cell 1 (by simp), Hbp6.out.cell 2 (by simp), Hbv3.out.cell 0 (by simp), Hbv3.out.cell 1 (by simp), Hbv3.out.cell 2 (by simp)⟩
        have hHeld : ((fun (w' : World) => w'.cell? ⟨w20.heap.size, 0, none⟩ = some (.slice tx0 tx1 tx2) ∧ w'.cell? ⟨w20.heap.size, 1, none⟩ = some (.slice ty0 ty1 ty2) ∧ w'.cell? ⟨w20.heap.size, 2, none⟩ = some (.bool false) ∧ w'.cell? ⟨g13, 0, none⟩ = some (.slice sx0 sx1 sx2) ∧ w'.cell? ⟨g13, 1, none⟩ = some (.slice sy0 sy1 sy2) ∧ w'.cell? ⟨g13, 2, none⟩ = some (.bool false) ∧ w'.cell? ⟨w15.heap.size, 0, none⟩ = some (.slice ux0 ux1 ux2) ∧ w'.cell? ⟨w15.heap.size, 1, none⟩ = some (.slice uy0 uy1 uy2) ∧ w'.cell? ⟨w15.heap.size, 2, none⟩ = some (.bool false) ∧ w'.cell? ⟨w7.heap.size, 0, none⟩ = some (.slice px0 px1 px2) ∧ w'.cell? ⟨w7.heap.size, 1, none⟩ = some (.slice py0 py1 py2) ∧ w'.cell? ⟨w7.heap.size, 2, none⟩ = some (.bool false) ∧ w'.cell? ⟨w17.heap.size, 0, none⟩ = some (.slice vx0 vx1 vx2) ∧ w'.cell? ⟨w17.heap.size, 1, none⟩ = some (.slice vy0 vy1 vy2) ∧ w'.cell? ⟨w17.heap.size, 2, none⟩ = some (.bool false))) _ := ⟨Hbt3.out.cell 0 (by simp), Hbt3.out.cell 1 (by simp), Hbt3.out.cell 2 (by simp), Hbs3.out.cell 0 (by simp), Hbs3.out.cell 1 (by simp), Hbs3.out.cell 2 (by simp), Hbu3.out.cell 0 (by simp), Hbu3.out.cell 1 (by simp), Hbu3.out.cell 2 (by simp), Hbp6.out.cell 0 (by simp), Hbp6.out.cell 1 (by simp), Hbp6.out.cell 2 (by simp), Hbv3.out.cell 0 (by simp), Hbv3.out.cell 1 (by simp), Hbv3.out.cell 2 (by simp)⟩
        clear hK K
        try simp only [Act.put, List.setIfInBounds_toArray, List.set_cons_zero, List.set_cons_succ]
        refine wpAnyK_take0 10 (v := ?v45) rfl (by kernel_rfl) (fun _ _ _ h => h) (Or.inl ⟨by rfl, ?hy45⟩) (fun _ => hHeld) ?_
        case hy45 => (intro w hSw; go_simp; try with_reducible rfl)
        try simp only [Act.put, List.setIfInBounds_toArray, List.set_cons_zero, List.set_cons_succ]
        refine wpAnyK_take0 11 (v := ?v46) rfl (by kernel_rfl) (fun _ _ _ h => h) (Or.inl ⟨by rfl, ?hy46⟩) (fun _ => hHeld) ?_
        case hy46 => (intro w hSw; go_simp; try with_reducible rfl)
        try simp only [Act.put, List.setIfInBounds_toArray, List.set_cons_zero, List.set_cons_succ]
        refine wpAnyK_take 12 [14, 15, 16, 19] (v := ?v47) rfl (by kernel_rfl) (fun _ _ _ h => h) (Or.inl ⟨by rfl, ?hy47⟩) hHeld ?_
        case hy47 => (intro w hSw; (try dsimp only at hSw); go_simp; try with_reducible rfl)
        try simp only [Act.put, List.setIfInBounds_toArray, List.set_cons_zero, List.set_cons_succ]
        refine wpAnyK_take 13 [14, 15, 16, 19] (v := ?v48) rfl (by kernel_rfl) (fun _ _ _ h => h) (Or.inl ⟨by rfl, ?hy48⟩) hHeld ?_
        case hy48 => (intro w hSw; (try dsimp only at hSw); go_simp; try with_reducible rfl)
        try simp only [Act.put, List.setIfInBounds_toArray, List.set_cons_zero, List.set_cons_succ]
        refine wpAnyK_step 14 rfl (by kernel_rfl) (fun K hK => ?_)
        go_simp
        have Hpu1 : Hid (Pn w22 (.slice ux0 ux1 ux2) (.slice uy0 uy1 uy2) P) := Hpu0.out.below (btr Hs15z.out (btr Hs17.out (btr Hs17z.out (btr Hs19.out (btr Hs20.out (btr Hs20z.out (btr Hs20zz.out (btr Hs21.out Hs22.out)))))))) (Nat.le_refl _)
        have Hpp5 : Hid (Pn w22 (.slice px0 px1 px2) (.slice py0 py1 py2) P) := Hpp4.out.below (btr Hs17.out (btr Hs17z.out (btr Hs19.out (btr Hs20.out (btr Hs20z.out (btr Hs20zz.out (btr Hs21.out Hs22.out))))))) (Nat.le_refl _)
        refine (lone_p Hpu1.out Hpp5.out).mono ?_
        rintro e w23 ⟨rfl, hB⟩
        have Hs23 : Hid (Below w22.heap.size w22 w23) := hB
        clear hB
        rw [decide_eq_true (rfl : P = P)]
        have Hbt4 : Hid (Bl 31 w23 w20.heap.size [.slice tx0 tx1 tx2, .slice ty0 ty1 ty2, .bool false]) := Hbt3.out.below Hs23.out Hbt3.out.lt
        have Hbs4 : Hid (Bl 31 w23 g13 [.slice sx0 sx1 sx2, .slice sy0 sy1 sy2, .bool false]) := Hbs3.out.below Hs23.out Hbs3.out.lt
        have Hbu4 : Hid (Bl 31 w23 w15.heap.size [.slice ux0 ux1 ux2, .slice uy0 uy1 uy2, .bool false]) := Hbu3.out.below Hs23.out Hbu3.out.lt
        have Hbp7 : Hid (Bl 31 w23 w7.heap.size [.slice px0 px1 px2, .slice py0 py1 py2, .bool false]) := Hbp6.out.below Hs23.out Hbp6.out.lt
        have Hbv4 : Hid (Bl 31 w23 w17.heap.size [.slice vx0 vx1 vx2, .slice vy0 vy1 vy2, .bool false]) := Hbv3.out.below Hs23.out Hbv3.out.lt
        try dsimp only
        refine hK.out _ _ ?hk49 ?_
        case hk49 => exact fun _ => ⟨Hbt4.out.cell 0 (by simp), Hbt4.out.cell 1 (by simp), Hbt4.out.cell 2 (by simp), Hbs4.out.cell 0 (by simp), Hbs4.out.cell 1 (by simp), Hbs4.out.cell 2 (by simp), Hbu4.out.cell 0 (by simp), Hbu4.out.cell 1 (by simp), Hbu4.out.cell 2 (by simp), Hbp7.out.cell 0 (by simp), Hbp7.out.cell 1 (by simp), Hbp7.out.cell 2 (by simp), Hbv4.out.cell 0 (by simp), Hbv4.out.cell 1 (by simp), Hbv4.out.cell 2 (by simp)⟩
        have hHeld : ((fun (w' : World) => w'.cell? ⟨w20.heap.size, 0, none⟩ = some (.slice tx0 tx1 tx2) ∧ w'.cell? ⟨w20.heap.size, 1, none⟩ = some (.slice ty0 ty1 ty2) ∧ w'.cell? ⟨w20.heap.size, 2, none⟩ = some (.bool false) ∧ w'.cell? ⟨g13, 0, none⟩ = some (.slice sx0 sx1 sx2) ∧ w'.cell? ⟨g13, 1, none⟩ = some (.slice sy0 sy1 sy2) ∧ w'.cell? ⟨g13, 2, none⟩ = some (.bool false) ∧ w'.cell? ⟨w15.heap.size, 0, none⟩ = some (.slice ux0 ux1 ux2) ∧ w'.cell? ⟨w15.heap.size, 1, none⟩ = some (.slice uy0 uy1 uy2) ∧ w'.cell? ⟨w15.heap.size, 2, none⟩ = some (.bool false) ∧ w'.cell? ⟨w7.heap.size, 0, none⟩ = some (.slice px0 px1 px2) ∧ w'.cell? ⟨w7.heap.size, 1, none⟩ = some (.slice py0 py1 py2) ∧ w'.cell? ⟨w7.heap.size, 2, none⟩ = some (.bool false) ∧ w'.cell? ⟨w17.heap.size, 0, none⟩ = some (.slice vx0 vx1 vx2) ∧ w'.cell? ⟨w17.heap.size, 1, none⟩ = some (.slice vy0 vy1 vy2) ∧ w'.cell? ⟨w17.heap.size, 2, none⟩ = some (.bool false))) _ := ⟨Hbt4.out.cell 0 (by simp), Hbt4.out.cell 1 (by simp), Hbt4.out.cell 2 (by simp), Hbs4.out.cell 0 (by simp), Hbs4.out.cell 1 (by simp), Hbs4.out.cell 2 (by simp), Hbu4.out.cell 0 (by simp), Hbu4.out.cell 1 (by simp), Hbu4.out.cell 2 (by simp), Hbp7.out.cell 0 (by simp), Hbp7.out.cell 1 (by simp), Hbp7.out.cell 2 (by simp), Hbv4.out.cell 0 (by simp), Hbv4.out.cell 1 (by simp), Hbv4.out.cell 2 (by simp)⟩
        clear hK K
        try simp only [Act.put, List.setIfInBounds_toArray, List.set_cons_zero, List.set_cons_succ]
        refine wpAnyK_take0 15 (v := ?v50) rfl (by kernel_rfl) (fun _ _ _ h => h) (Or.inl ⟨by rfl, ?hy50⟩) (fun _ => hHeld) ?_
        case hy50 => (intro w hSw; go_simp; try with_reducible rfl)
        try simp only [Act.put, List.setIfInBounds_toArray, List.set_cons_zero, List.set_cons_succ]
        refine wpAnyK_take0 16 (v := ?v51) rfl (by kernel_rfl) (fun _ _ _ h => h) (Or.inl ⟨by rfl, ?hy51⟩) (fun _ => hHeld) ?_
        case hy51 => (intro w hSw; go_simp; try with_reducible rfl)
        try simp only [Act.put, List.setIfInBounds_toArray, List.set_cons_zero, List.set_cons_succ]
        refine wpAnyK_take 17 [19] (v := ?v52) rfl (by kernel_rfl) (fun _ _ _ h => h) (Or.inl ⟨by rfl, ?hy52⟩) hHeld ?_
        case hy52 => (intro w hSw; (try dsimp only at hSw); go_simp; try with_reducible rfl)
        try simp only [Act.put, List.setIfInBounds_toArray, List.set_cons_zero, List.set_cons_succ]
        refine wpAnyK_step 18 rfl (by kernel_rfl) (fun K hK => ?_)
        go_simp
        refine (lzero_v _).mono ?_
        rintro e w24 ⟨zc, rfl, mz, hB⟩
        have Hs24 : Hid (Below w23.heap.size w23 w24) := hB
        obtain ⟨zc0, zc1, zc2, rfl⟩ := mz.nk.sl
        have Hpzc0 : Hid (Pn w24 (.slice none 0 0) (.slice zc0 zc1 zc2) (0, 1)) := Pn.zero mz
        clear mz hB
        have Hbt5 : Hid (Bl 31 w24 w20.heap.size [.slice tx0 tx1 tx2, .slice ty0 ty1 ty2, .bool false]) := Hbt4.out.below Hs24.out Hbt4.out.lt
        have Hbs5 : Hid (Bl 31 w24 g13 [.slice sx0 sx1 sx2, .slice sy0 sy1 sy2, .bool false]) := Hbs4.out.below Hs24.out Hbs4.out.lt
        have Hbu5 : Hid (Bl 31 w24 w15.heap.size [.slice ux0 ux1 ux2, .slice uy0 uy1 uy2, .bool false]) := Hbu4.out.below Hs24.out Hbu4.out.lt
        have Hbp8 : Hid (Bl 31 w24 w7.heap.size [.slice px0 px1 px2, .slice py0 py1 py2, .bool false]) := Hbp7.out.below Hs24.out Hbp7.out.lt
        have Hbv5 : Hid (Bl 31 w24 w17.heap.size [.slice vx0 vx1 vx2, .slice vy0 vy1 vy2, .bool false]) := Hbv4.out.below Hs24.out Hbv4.out.lt
        try dsimp only
        refine hK.out _ _ ?hk53 ?_
        case hk53 => exact fun _ => ⟨Hbt5.out.cell 0 (by simp), Hbt5.out.cell 1 (by simp), Hbt5.out.cell 2 (by simp), Hbs5.out.cell 0 (by simp), Hbs5.out.cell 1 (by simp), Hbs5.out.cell 2 (by simp), Hbu5.out.cell 0 (by simp), Hbu5.out.cell 1 (by simp), Hbu5.out.cell 2 (by simp), Hbp8.out.cell 0 (by simp), Hbp8.out.cell 1 (by simp), Hbp8.out.cell 2 (by simp), Hbv5.out.cell 0 (by simp), Hbv5.out.cell 1 (by simp), Hbv5.out.cell 2 (by simp)⟩
        have hHeld : ((fun (w' : World) => w'.cell? ⟨w20.heap.size, 0, none⟩ = some (.slice tx0 tx1 tx2) ∧ w'.cell? ⟨w20.heap.size, 1, none⟩ = some (.slice ty0 ty1 ty2) ∧ w'.cell? ⟨w20.heap.size, 2, none⟩ = some (.bool false) ∧ w'.cell? ⟨g13, 0, none⟩ = some (.slice sx0 sx1 sx2) ∧ w'.cell? ⟨g13, 1, none⟩ = some (.slice sy0 sy1 sy2) ∧ w'.cell? ⟨g13, 2, none⟩ = some (.bool false) ∧ w'.cell? ⟨w15.heap.size, 0, none⟩ = some (.slice ux0 ux1 ux2) ∧ w'.cell? ⟨w15.heap.size, 1, none⟩ = some (.slice uy0 uy1 uy2) ∧ w'.cell? ⟨w15.heap.size, 2, none⟩ = some (.bool false) ∧ w'.cell? ⟨w7.heap.size, 0, none⟩ = some (.slice px0 px1 px2) ∧ w'.cell? ⟨w7.heap.size, 1, none⟩ = some (.slice py0 py1 py2) ∧ w'.cell? ⟨w7.heap.size, 2, none⟩ = some (.bool false) ∧ w'.cell? ⟨w17.heap.size, 0, none⟩ = some (.slice vx0 vx1 vx2) ∧ w'.cell? ⟨w17.heap.size, 1, none⟩ = some (.slice vy0 vy1 vy2) ∧ w'.cell? ⟨w17.heap.size, 2, none⟩ = some (.bool false))) _ := ⟨Hbt5.out.cell 0 (by simp), Hbt5.out.cell 1 (by simp), Hbt5.out.cell 2 (by simp), Hbs5.out.cell 0 (by simp), Hbs5.out.cell 1 (by simp), Hbs5.out.cell 2 (by simp), Hbu5.out.cell 0 (by simp), Hbu5.out.cell 1 (by simp), Hbu5.out.cell 2 (by simp), Hbp8.out.cell 0 (by simp), Hbp8.out.cell 1 (by simp), Hbp8.out.cell 2 (by simp), Hbv5.out.cell 0 (by simp), Hbv5.out.cell 1 (by simp), Hbv5.out.cell 2 (by simp)⟩
        clear hK K
        try simp only [Act.put, List.setIfInBounds_toArray, List.set_cons_zero, List.set_cons_succ]
        refine wpAnyK_step 19 rfl (by kernel_rfl) (fun K hK => ?_)
        go_simp
        have Hpv1 : Hid (Pn w24 (.slice vx0 vx1 vx2) (.slice vy0 vy1 vy2) (0, 1)) := Hpv0.out.below (btr Hs17z.out (btr Hs19.out (btr Hs20.out (btr Hs20z.out (btr Hs20zz.out (btr Hs21.out (btr Hs22.out (btr Hs23.out Hs24.out)))))))) (Nat.le_refl _)
        refine (lone_p Hpv1.out Hpzc0.out).mono ?_
        rintro e w25 ⟨rfl, hB⟩
        have Hs25 : Hid (Below w24.heap.size w24 w25) := hB
        clear hB
        rw [decide_eq_true (rfl : ((0, 1) : Nat × Nat) = (0, 1))]
        have Hbt6 : Hid (Bl 31 w25 w20.heap.size [.slice tx0 tx1 tx2, .slice ty0 ty1 ty2, .bool false]) := Hbt5.out.below Hs25.out Hbt5.out.lt
        have Hbs6 : Hid (Bl 31 w25 g13 [.slice sx0 sx1 sx2, .slice sy0 sy1 sy2, .bool false]) := Hbs5.out.below Hs25.out Hbs5.out.lt
        have Hbu6 : Hid (Bl 31 w25 w15.heap.size [.slice ux0 ux1 ux2, .slice uy0 uy1 uy2, .bool false]) := Hbu5.out.below Hs25.out Hbu5.out.lt
        have Hbp9 : Hid (Bl 31 w25 w7.heap.size [.slice px0 px1 px2, .slice py0 py1 py2, .bool false]) := Hbp8.out.below Hs25.out Hbp8.out.lt
        have Hbv6 : Hid (Bl 31 w25 w17.heap.size [.slice vx0 vx1 vx2, .slice vy0 vy1 vy2, .bool false]) := Hbv5.out.below Hs25.out Hbv5.out.lt
        try dsimp only
        refine hK.out _ _ ?hk54 ?_
        case hk54 => exact fun _ => ⟨Hbt6.out.cell 0 (by simp), Hbt6.out.cell 1 (by simp), Hbt6.out.cell 2 (by simp), Hbs6.out.cell 0 (by simp), Hbs6.out.cell 1 (by simp), Hbs6.out.cell 2 (by simp), Hbu6.out.cell 0 (by simp), Hbu6.out.cell 1 (by simp), Hbu6.out.cell 2 (by simp), Hbp9.out.cell 0 (by simp), Hbp9.out.cell 1 (by simp), Hbp9.out.cell 2 (by simp), Hbv6.out.cell 0 (by simp), Hbv6.out.cell 1 (by simp), Hbv6.out.cell 2 (by simp)⟩
        have hHeld : ((fun (w' : World) => w'.cell? ⟨w20.heap.size, 0, none⟩ = some (.slice tx0 tx1 tx2) ∧ w'.cell? ⟨w20.heap.size, 1, none⟩ = some (.slice ty0 ty1 ty2) ∧ w'.cell? ⟨w20.heap.size, 2, none⟩ = some (.bool false) ∧ w'.cell? ⟨g13, 0, none⟩ = some (.slice sx0 sx1 sx2) ∧ w'.cell? ⟨g13, 1, none⟩ = some (.slice sy0 sy1 sy2) ∧ w'.cell? ⟨g13, 2, none⟩ = some (.bool false) ∧ w'.cell? ⟨w15.heap.size, 0, none⟩ = some (.slice ux0 ux1 ux2) ∧ w'.cell? ⟨w15.heap.size, 1, none⟩ = some (.slice uy0 uy1 uy2) ∧ w'.cell? ⟨w15.heap.size, 2, none⟩ = some (.bool false) ∧ w'.cell? ⟨w7.heap.size, 0, none⟩ = some (.slice px0 px1 px2) ∧ w'.cell? ⟨w7.heap.size, 1, none⟩ = some (.slice py0 py1 py2) ∧ w'.cell? ⟨w7.heap.size, 2, none⟩ = some (.bool false) ∧ w'.cell? ⟨w17.heap.size, 0, none⟩ = some (.slice vx0 vx1 vx2) ∧ w'.cell? ⟨w17.heap.size, 1, none⟩ = some (.slice vy0 vy1 vy2) ∧ w'.cell? ⟨w17.heap.size, 2, none⟩ = some (.bool false))) _ := ⟨Hbt6.out.cell 0 (by simp), Hbt6.out.cell 1 (by simp), Hbt6.out.cell 2 (by simp), Hbs6.out.cell 0 (by simp), Hbs6.out.cell 1 (by simp), Hbs6.out.cell 2 (by simp), Hbu6.out.cell 0 (by simp), Hbu6.out.cell 1 (by simp), Hbu6.out.cell 2 (by simp), Hbp9.out.cell 0 (by simp), Hbp9.out.cell 1 (by simp), Hbp9.out.cell 2 (by simp), Hbv6.out.cell 0 (by simp), Hbv6.out.cell 1 (by simp), Hbv6.out.cell 2 (by simp)⟩
        clear hK K
        try simp only [Act.put, List.setIfInBounds_toArray, List.set_cons_zero, List.set_cons_succ]
        refine wpAnyK_take0 20 (v := ?v55) rfl (by kernel_rfl) (fun _ _ _ h => h) (Or.inl ⟨by rfl, ?hy55⟩) (fun _ => hHeld) ?_
        case hy55 => (intro w hSw; go_simp; try with_reducible rfl)
        try simp only [Act.put, List.setIfInBounds_toArray, List.set_cons_zero, List.set_cons_succ]
        refine wpAnyK_take0 21 (v := ?v56) rfl (by kernel_rfl) (fun _ _ _ h => h) (Or.inl ⟨by rfl, ?hy56⟩) (fun _ => hHeld) ?_
        case hy56 => (intro w hSw; go_simp; try with_reducible rfl)
        try simp only [Act.put, List.setIfInBounds_toArray, List.set_cons_zero, List.set_cons_succ]
        refine wpAnyK_done (by kernel_rfl) ?_ _
        have HB12 : Hid (Below w.heap.size w w25) := HB11.out.trans ((btr Hs20.out (btr Hs20z.out (btr Hs20zz.out (btr Hs21.out (btr Hs22.out (btr Hs23.out (btr Hs24.out Hs25.out))))))).mono HB11.out.size)
        go_wp2
        go_ret
        exact ⟨rfl, HB12.out⟩
    · have HH : Hid (((bl A ≤ 1024 ∧ bl B ≤ 1024 ∧ 1024 < bl (A + B)) ∨ (bl A ≤ 1024 ∧ 1024 < bl B ∧ 1024 < bl (A + B)) ∨ (1024 < bl A ∧ bl B ≤ 1024 ∧ 1024 < bl (A + B)) ∨ (1024 < bl A ∧ 1024 < bl B ∧ 1024 < bl (A + B)))) := h5
      have H6 : Hid (1024 < bl (A + B)) := h6
      clear h5 h6
      have kp_0 : (w7.alloc (.cells #[.slice px0 px1 px2, .slice py0 py1 py2, .bool false] 31)).cell? ⟨w7.heap.size, 0, none⟩ = some (.slice px0 px1 px2) := Hbp0.out.cell 0 (by simp)
      have kp_1 : (w7.alloc (.cells #[.slice px0 px1 px2, .slice py0 py1 py2, .bool false] 31)).cell? ⟨w7.heap.size, 1, none⟩ = some (.slice py0 py1 py2) := Hbp0.out.cell 1 (by simp)
      have kp_2 : (w7.alloc (.cells #[.slice px0 px1 px2, .slice py0 py1 py2, .bool false] 31)).cell? ⟨w7.heap.size, 2, none⟩ = some (.bool false) := Hbp0.out.cell 2 (by simp)
      go_wp2_with fail
      clear kp_0 kp_1 kp_2
      generalize (w7.alloc (.cells #[.slice px0 px1 px2, .slice py0 py1 py2, .bool false] 31)) = wv8 at *
      have Hnk1 : Hid (Vl wv8 (.slice k0 k1 k2) A 1048576) := Hnk0.out.below (btr Hs1.out (btr Hs2.out (btr Hs3.out (btr Hs4.out (btr Hs4z.out (btr Hs4zz.out (btr Hs5.out (btr Hs6.out (btr Hs7.out Hs7z.out))))))))) (Nat.le_refl _)
      have HB5 : Hid (Below w.heap.size w wv8) := HB4.out.trans ((btr Hs7.out Hs7z.out).mono HB4.out.size)
      have Hpp1 : Hid (Pn wv8 (.slice px0 px1 px2) (.slice py0 py1 py2) P) := Hpp0.out.below Hs7z.out (Nat.le_refl _)
      refine (mul_g (HT.out.1.below HB5.out (Nat.le_refl _)) (vnu Hnk1.out) Hpp1.out HP.out).mono ?_
      rintro e w9 ⟨xx0, xx1, xx2, xy0, xy1, xy2, zx, rfl, hz, hB⟩
      have Hs9zz : Hid (Below wv8.heap.size wv8 w9) := hB
      have Hzx : Hid (zx = (if 1024 < bl A then 10 else 0)) := hz
      clear hz hB
      have Hs9zzz : Hid (Below w9.heap.size w9 (w9.alloc (.cells #[.slice xx0 xx1 xx2, .slice xy0 xy1 xy2, .bool false] 31))) := alloc_below _ _
      have Hbx0 : Hid (Bl 31 (w9.alloc (.cells #[.slice xx0 xx1 xx2, .slice xy0 xy1 xy2, .bool false] 31)) w9.heap.size [.slice xx0 xx1 xx2, .slice xy0 xy1 xy2, .bool false]) := alloc_bl w9 [.slice xx0 xx1 xx2, .slice xy0 xy1 xy2, .bool false] 31
      have Hbp1 : Hid (Bl 31 (w9.alloc (.cells #[.slice xx0 xx1 xx2, .slice xy0 xy1 xy2, .bool false] 31)) w7.heap.size [.slice px0 px1 px2, .slice py0 py1 py2, .bool false]) := Hbp0.out.below (btr Hs9zz.out Hs9zzz.out) Hbp0.out.lt
      have kp_0 : (w9.alloc (.cells #[.slice xx0 xx1 xx2, .slice xy0 xy1 xy2, .bool false] 31)).cell? ⟨w7.heap.size, 0, none⟩ = some (.slice px0 px1 px2) := Hbp1.out.cell 0 (by simp)
      have kp_1 : (w9.alloc (.cells #[.slice xx0 xx1 xx2, .slice xy0 xy1 xy2, .bool false] 31)).cell? ⟨w7.heap.size, 1, none⟩ = some (.slice py0 py1 py2) := Hbp1.out.cell 1 (by simp)
      have kp_2 : (w9.alloc (.cells #[.slice xx0 xx1 xx2, .slice xy0 xy1 xy2, .bool false] 31)).cell? ⟨w7.heap.size, 2, none⟩ = some (.bool false) := Hbp1.out.cell 2 (by simp)
      go_wp2_with fail
      clear kp_0 kp_1 kp_2
      generalize (w9.alloc (.cells #[.slice xx0 xx1 xx2, .slice xy0 xy1 xy2, .bool false] 31)) = wv10 at *
      have Hnl1 : Hid (Vl wv10 (.slice n0 n1 n2) B 1048576) := Hnl0.out.below (btr Hs1.out (btr Hs2.out (btr Hs3.out (btr Hs4.out (btr Hs4z.out (btr Hs4zz.out (btr Hs5.out (btr Hs6.out (btr Hs7.out (btr Hs7z.out (btr Hs9zz.out Hs9zzz.out))))))))))) (Nat.le_refl _)
      have HB6 : Hid (Below w.heap.size w wv10) := HB5.out.trans ((btr Hs9zz.out Hs9zzz.out).mono HB5.out.size)
      have Hpp2 : Hid (Pn wv10 (.slice px0 px1 px2) (.slice py0 py1 py2) P) := Hpp1.out.below (btr Hs9zz.out Hs9zzz.out) (Nat.le_refl _)
      refine (mul_g (HT.out.1.below HB6.out (Nat.le_refl _)) (vnu Hnl1.out) Hpp2.out HP.out).mono ?_
      rintro e w11 ⟨yx0, yx1, yx2, yy0, yy1, yy2, zy, rfl, hz, hB⟩
      have Hs11zz : Hid (Below wv10.heap.size wv10 w11) := hB
      have Hzy : Hid (zy = (if 1024 < bl B then 10 else 0)) := hz
      clear hz hB
      have Hs11zzz : Hid (Below w11.heap.size w11 (w11.alloc (.cells #[.slice yx0 yx1 yx2, .slice yy0 yy1 yy2, .bool false] 31))) := alloc_below _ _
      have Hby0 : Hid (Bl 31 (w11.alloc (.cells #[.slice yx0 yx1 yx2, .slice yy0 yy1 yy2, .bool false] 31)) w11.heap.size [.slice yx0 yx1 yx2, .slice yy0 yy1 yy2, .bool false]) := alloc_bl w11 [.slice yx0 yx1 yx2, .slice yy0 yy1 yy2, .bool false] 31
      go_wp2_with fail
      generalize (w11.alloc (.cells #[.slice yx0 yx1 yx2, .slice yy0 yy1 yy2, .bool false] 31)) = wv12 at *
      have HB7 : Hid (Below w.heap.size w wv12) := HB6.out.trans ((btr Hs11zz.out Hs11zzz.out).mono HB6.out.size)
      have TD : Hid (Te wv12.drew) := (HT.out.1.below HB7.out (Nat.le_refl _)).drew
      go_cut [14, 15] from 56 to 63 (fun s1 s2 wx => ∃ (w' : World) (g : Nat), w' = wx ∧ s1 = .pointer (some ⟨g, 0, none⟩) ∧ s2 = .int .i64 10 ∧ Hid (Below wv12.heap.size wv12 w' ∧ Bl 31 w' g [.slice none 0 0, .slice none 0 0, .bool false]))
      case first =>
        have hBd : Below wv12.heap.size wv12 wv12.drew := below_drewN (Below.refl _ _) 1
        have Hs12z : Hid (Below wv12.heap.size wv12 wv12.drew) := hBd
        clear hBd
        have Hpp3 : Hid (Pn wv12.drew (.slice px0 px1 px2) (.slice py0 py1 py2) P) := Hpp2.out.below (btr Hs11zz.out (btr Hs11zzz.out Hs12z.out)) (Nat.le_refl _)
        have Hnk2 : Hid (Vl wv12.drew (.slice k0 k1 k2) A 1048576) := Hnk1.out.below (btr Hs9zz.out (btr Hs9zzz.out (btr Hs11zz.out (btr Hs11zzz.out Hs12z.out)))) (Nat.le_refl _)
        have Hnl2 : Hid (Vl wv12.drew (.slice n0 n1 n2) B 1048576) := Hnl1.out.below (btr Hs11zz.out (btr Hs11zzz.out Hs12z.out)) (Nat.le_refl _)
        have Hbp2 : Hid (Bl 31 wv12.drew w7.heap.size [.slice px0 px1 px2, .slice py0 py1 py2, .bool false]) := Hbp1.out.below (btr Hs11zz.out (btr Hs11zzz.out Hs12z.out)) Hbp1.out.lt
        have HBd : Hid (Below wv12.drew.heap.size wv12.drew wv12.drew) := Below.refl _ _
        refine wp_region_K 4 (fun (w' : World) => w'.cell? ⟨w7.heap.size, 0, none⟩ = some (.slice px0 px1 px2) ∧ w'.cell? ⟨w7.heap.size, 1, none⟩ = some (.slice py0 py1 py2) ∧ w'.cell? ⟨w7.heap.size, 2, none⟩ = some (.bool false)) (by kernel_rfl) ?_
        have hHeld : ((fun (w' : World) => w'.cell? ⟨w7.heap.size, 0, none⟩ = some (.slice px0 px1 px2) ∧ w'.cell? ⟨w7.heap.size, 1, none⟩ = some (.slice py0 py1 py2) ∧ w'.cell? ⟨w7.heap.size, 2, none⟩ = some (.bool false))) (World.drew _) := ⟨Hbp2.out.cell 0 (by simp), Hbp2.out.cell 1 (by simp), Hbp2.out.cell 2 (by simp)⟩
        refine wpAnyK_take0 0 (v := ?v57) rfl (by kernel_rfl) (fun _ _ _ h => h) (Or.inl ⟨by rfl, ?hy57⟩) (fun _ => hHeld) ?_
        case hy57 => (intro w hSw; go_simp; try with_reducible rfl)
        try simp only [Act.put, List.setIfInBounds_toArray, List.set_cons_zero, List.set_cons_succ]
        refine wpAnyK_take0 1 (v := ?v58) rfl (by kernel_rfl) (fun _ _ _ h => h) (Or.inl ⟨by rfl, ?hy58⟩) (fun _ => hHeld) ?_
        case hy58 => (intro w hSw; go_simp; try with_reducible rfl)
        try simp only [Act.put, List.setIfInBounds_toArray, List.set_cons_zero, List.set_cons_succ]
        refine wpAnyK_take 3 [4] (v := ?v59) rfl (by kernel_rfl) (fun _ _ _ h => h) (Or.inl ⟨by rfl, ?hy59⟩) hHeld ?_
        case hy59 => (intro w hSw; (try dsimp only at hSw); go_simp; try with_reducible rfl)
        try simp only [Act.put, List.setIfInBounds_toArray, List.set_cons_zero, List.set_cons_succ]
        refine wpAnyK_two 2 8 rfl rfl (by kernel_rfl) (fun K hK => ?_) (fun K hK => ?_)
        · go_simp
          refine (nadd_g _ _ A B _ (Hnk2.out.below HBd.out (Nat.le_refl _)) (Hnl2.out.below HBd.out (Nat.le_refl _))).mono ?_
          rintro e wfa ⟨zt, rfl, mz, hBp⟩
          obtain ⟨zt0, zt1, zt2, rfl⟩ := mz.shape
          have HSa : Hid (Nu wfa (.slice zt0 zt1 zt2) (A + B)) := mz
          clear mz
          have HBa1 : Hid (Below wv12.drew.heap.size wv12.drew wfa) := HBd.out.trans (hBp.mono HBd.out.size)
          clear hBp
          try dsimp only
          refine hK.out _ _ ?hk74 ?_
          case hk74 => exact fun _ => ⟨(Hbp2.out.below HBa1.out Hbp2.out.lt).cell 0 (by simp), (Hbp2.out.below HBa1.out Hbp2.out.lt).cell 1 (by simp), (Hbp2.out.below HBa1.out Hbp2.out.lt).cell 2 (by simp)⟩
          have hHeld : ((fun (w' : World) => w'.cell? ⟨w7.heap.size, 0, none⟩ = some (.slice px0 px1 px2) ∧ w'.cell? ⟨w7.heap.size, 1, none⟩ = some (.slice py0 py1 py2) ∧ w'.cell? ⟨w7.heap.size, 2, none⟩ = some (.bool false))) _ := ⟨(Hbp2.out.below HBa1.out Hbp2.out.lt).cell 0 (by simp), (Hbp2.out.below HBa1.out Hbp2.out.lt).cell 1 (by simp), (Hbp2.out.below HBa1.out Hbp2.out.lt).cell 2 (by simp)⟩
          clear hK K
          try simp only [Act.put, List.setIfInBounds_toArray, List.set_cons_zero, List.set_cons_succ]
          refine wpAnyK_two 4 8 rfl rfl (by kernel_rfl) (fun K hK => ?_) (fun K hK => ?_)
          · go_simp
            refine (mul_l (TD.out.below HBa1.out (Nat.le_refl _)) HSa.out (Hpp3.out.below HBa1.out (Nat.le_refl _)) HP.out H6.out).mono ?_
            rintro e wga ⟨rfl, hBp⟩
            have HBa2 : Hid (Below wv12.drew.heap.size wv12.drew wga) := HBa1.out.trans (hBp.mono HBa1.out.size)
            clear hBp
            try dsimp only
            refine hK.out _ _ ?hk60 ?_
            case hk60 => exact fun _ => ⟨(Hbp2.out.below HBa2.out Hbp2.out.lt).cell 0 (by simp), (Hbp2.out.below HBa2.out Hbp2.out.lt).cell 1 (by simp), (Hbp2.out.below HBa2.out Hbp2.out.lt).cell 2 (by simp)⟩
            have hHeld : ((fun (w' : World) => w'.cell? ⟨w7.heap.size, 0, none⟩ = some (.slice px0 px1 px2) ∧ w'.cell? ⟨w7.heap.size, 1, none⟩ = some (.slice py0 py1 py2) ∧ w'.cell? ⟨w7.heap.size, 2, none⟩ = some (.bool false))) _ := ⟨(Hbp2.out.below HBa2.out Hbp2.out.lt).cell 0 (by simp), (Hbp2.out.below HBa2.out Hbp2.out.lt).cell 1 (by simp), (Hbp2.out.below HBa2.out Hbp2.out.lt).cell 2 (by simp)⟩
            clear hK K
            try simp only [Act.put, List.setIfInBounds_toArray, List.set_cons_zero, List.set_cons_succ]
            refine wpAnyK_take0 5 (v := ?v61) rfl (by kernel_rfl) (fun _ _ _ h => h) (Or.inl ⟨by rfl, ?hy61⟩) (fun _ => hHeld) ?_
            case hy61 => (intro w hSw; go_simp; try with_reducible rfl)
            try simp only [Act.put, List.setIfInBounds_toArray, List.set_cons_zero, List.set_cons_succ]
            refine wpAnyK_take0 6 (v := ?v62) rfl (by kernel_rfl) (fun _ _ _ h => h) (Or.inl ⟨by rfl, ?hy62⟩) (fun _ => hHeld) ?_
            case hy62 => (intro w hSw; go_simp; try with_reducible rfl)
            try simp only [Act.put, List.setIfInBounds_toArray, List.set_cons_zero, List.set_cons_succ]
            refine wpAnyK_take0 7 (v := ?v63) rfl (by kernel_rfl) (fun _ _ _ h => h) (Or.inl ⟨by rfl, ?hy63⟩) (fun _ => hHeld) ?_
            case hy63 => (intro w hSw; go_simp; try with_reducible rfl)
            try simp only [Act.put, List.setIfInBounds_toArray, List.set_cons_zero, List.set_cons_succ]
            refine wpAnyK_step 8 rfl (by kernel_rfl) (fun K hK => ?_)
            go_simp
            have hza : Below wga.heap.size wga (wga.alloc (.cells #[.slice none 0 0, .slice none 0 0, .bool false] 31)) := alloc_below _ _
            have HAa : Hid (Below wv12.drew.heap.size wv12.drew (wga.alloc (.cells #[.slice none 0 0, .slice none 0 0, .bool false] 31))) := HBa2.out.trans (hza.mono HBa2.out.size)
            have HZa : Hid (Bl 31 (wga.alloc (.cells #[.slice none 0 0, .slice none 0 0, .bool false] 31)) wga.heap.size [.slice none 0 0, .slice none 0 0, .bool false]) := alloc_bl wga [.slice none 0 0, .slice none 0 0, .bool false] 31
            try dsimp only
            refine hK.out _ _ ?hk64 ?_
            case hk64 => exact fun _ => ⟨(Hbp2.out.below HAa.out Hbp2.out.lt).cell 0 (by simp), (Hbp2.out.below HAa.out Hbp2.out.lt).cell 1 (by simp), (Hbp2.out.below HAa.out Hbp2.out.lt).cell 2 (by simp)⟩
            have hHeld : ((fun (w' : World) => w'.cell? ⟨w7.heap.size, 0, none⟩ = some (.slice px0 px1 px2) ∧ w'.cell? ⟨w7.heap.size, 1, none⟩ = some (.slice py0 py1 py2) ∧ w'.cell? ⟨w7.heap.size, 2, none⟩ = some (.bool false))) _ := ⟨(Hbp2.out.below HAa.out Hbp2.out.lt).cell 0 (by simp), (Hbp2.out.below HAa.out Hbp2.out.lt).cell 1 (by simp), (Hbp2.out.below HAa.out Hbp2.out.lt).cell 2 (by simp)⟩
            clear hK K
            try simp only [Act.put, List.setIfInBounds_toArray, List.set_cons_zero, List.set_cons_succ]
            refine wpAnyK_step 9 rfl (by kernel_rfl) (fun K hK => ?_)
            rw [if_pos (by kernel_rfl)]
            refine wp_store_row 31 _ _ rfl (wga.heap.size) #[.slice none 0 0, .slice none 0 0, .bool false] rfl rfl 31 #[.slice none 0 0, .slice none 0 0, .bool false] (HZa.out) (by kernel_rfl) rfl (by simp [Value.oneCell']) ?_
            refine hK.out _ _ ?hk65 ?_
            case hk65 => exact (fun h => nomatch (h.symm.trans (show _ = true by kernel_rfl)))
            clear hK K
            try simp only [Act.put]
            refine wpAnyK_take0 10 (v := ?v66) rfl (by kernel_rfl) (fun _ _ _ h => h) (Or.inl ⟨by rfl, ?hy66⟩) (fun h => nomatch (h.symm.trans (show _ = true by kernel_rfl))) ?_
            case hy66 => (intro w hSw; go_simp; try with_reducible rfl)
            try simp only [Act.put, List.setIfInBounds_toArray, List.set_cons_zero, List.set_cons_succ]
            refine wpAnyK_done (by kernel_rfl) ?_ _
            go_wp2_with fail
            go_meet
            have hR := Fm.row wga 31 [.slice none 0 0, .slice none 0 0, .bool false] [.slice none 0 0, .slice none 0 0, .bool false] rfl
            have hbF := HBa2.out.trans (hR.bel.mono HBa2.out.size)
            exact ⟨_, wga.heap.size, rfl, rfl, rfl, (show Below wv12.heap.size wv12 wv12.drew from below_drewN (Below.refl _ _) 1).trans (hbF.mono (show Below wv12.heap.size wv12 wv12.drew from below_drewN (Below.refl _ _) 1).size), (hR.bx 0 (by simp))⟩
          · go_simp
            have hzb : Below wfa.heap.size wfa (wfa.alloc (.cells #[.slice none 0 0, .slice none 0 0, .bool false] 31)) := alloc_below _ _
            have HAb : Hid (Below wv12.drew.heap.size wv12.drew (wfa.alloc (.cells #[.slice none 0 0, .slice none 0 0, .bool false] 31))) := HBa1.out.trans (hzb.mono HBa1.out.size)
            have HZb : Hid (Bl 31 (wfa.alloc (.cells #[.slice none 0 0, .slice none 0 0, .bool false] 31)) wfa.heap.size [.slice none 0 0, .slice none 0 0, .bool false]) := alloc_bl wfa [.slice none 0 0, .slice none 0 0, .bool false] 31
            try dsimp only
            refine hK.out _ _ ?hk67 ?_
            case hk67 => exact fun _ => ⟨(Hbp2.out.below HAb.out Hbp2.out.lt).cell 0 (by simp), (Hbp2.out.below HAb.out Hbp2.out.lt).cell 1 (by simp), (Hbp2.out.below HAb.out Hbp2.out.lt).cell 2 (by simp)⟩
            have hHeld : ((fun (w' : World) => w'.cell? ⟨w7.heap.size, 0, none⟩ = some (.slice px0 px1 px2) ∧ w'.cell? ⟨w7.heap.size, 1, none⟩ = some (.slice py0 py1 py2) ∧ w'.cell? ⟨w7.heap.size, 2, none⟩ = some (.bool false))) _ := ⟨(Hbp2.out.below HAb.out Hbp2.out.lt).cell 0 (by simp), (Hbp2.out.below HAb.out Hbp2.out.lt).cell 1 (by simp), (Hbp2.out.below HAb.out Hbp2.out.lt).cell 2 (by simp)⟩
            clear hK K
            try simp only [Act.put, List.setIfInBounds_toArray, List.set_cons_zero, List.set_cons_succ]
            refine wpAnyK_step 4 rfl (by kernel_rfl) (fun K hK => ?_)
            go_simp
            refine (mul_l (TD.out.below HAb.out (Nat.le_refl _)) (HSa.out.below hzb (Nat.le_refl _)) (Hpp3.out.below HAb.out (Nat.le_refl _)) HP.out H6.out).mono ?_
            rintro e wgb ⟨rfl, hBp⟩
            have HBb2 : Hid (Below wv12.drew.heap.size wv12.drew wgb) := HAb.out.trans (hBp.mono HAb.out.size)
            have HZb2 : Hid (Bl 31 wgb wfa.heap.size [.slice none 0 0, .slice none 0 0, .bool false]) := HZb.out.below hBp HZb.out.lt
            clear hBp
            try dsimp only
            refine hK.out _ _ ?hk68 ?_
            case hk68 => exact fun _ => ⟨(Hbp2.out.below HBb2.out Hbp2.out.lt).cell 0 (by simp), (Hbp2.out.below HBb2.out Hbp2.out.lt).cell 1 (by simp), (Hbp2.out.below HBb2.out Hbp2.out.lt).cell 2 (by simp)⟩
            have hHeld : ((fun (w' : World) => w'.cell? ⟨w7.heap.size, 0, none⟩ = some (.slice px0 px1 px2) ∧ w'.cell? ⟨w7.heap.size, 1, none⟩ = some (.slice py0 py1 py2) ∧ w'.cell? ⟨w7.heap.size, 2, none⟩ = some (.bool false))) _ := ⟨(Hbp2.out.below HBb2.out Hbp2.out.lt).cell 0 (by simp), (Hbp2.out.below HBb2.out Hbp2.out.lt).cell 1 (by simp), (Hbp2.out.below HBb2.out Hbp2.out.lt).cell 2 (by simp)⟩
            clear hK K
            try simp only [Act.put, List.setIfInBounds_toArray, List.set_cons_zero, List.set_cons_succ]
            refine wpAnyK_take0 5 (v := ?v69) rfl (by kernel_rfl) (fun _ _ _ h => h) (Or.inl ⟨by rfl, ?hy69⟩) (fun _ => hHeld) ?_
            case hy69 => (intro w hSw; go_simp; try with_reducible rfl)
            try simp only [Act.put, List.setIfInBounds_toArray, List.set_cons_zero, List.set_cons_succ]
            refine wpAnyK_take0 6 (v := ?v70) rfl (by kernel_rfl) (fun _ _ _ h => h) (Or.inl ⟨by rfl, ?hy70⟩) (fun _ => hHeld) ?_
            case hy70 => (intro w hSw; go_simp; try with_reducible rfl)
            try simp only [Act.put, List.setIfInBounds_toArray, List.set_cons_zero, List.set_cons_succ]
            refine wpAnyK_take0 7 (v := ?v71) rfl (by kernel_rfl) (fun _ _ _ h => h) (Or.inl ⟨by rfl, ?hy71⟩) (fun _ => hHeld) ?_
            case hy71 => (intro w hSw; go_simp; try with_reducible rfl)
            try simp only [Act.put, List.setIfInBounds_toArray, List.set_cons_zero, List.set_cons_succ]
            refine wpAnyK_step 9 rfl (by kernel_rfl) (fun K hK => ?_)
            rw [if_pos (by kernel_rfl)]
            refine wp_store_row 31 _ _ rfl (wfa.heap.size) #[.slice none 0 0, .slice none 0 0, .bool false] rfl rfl 31 #[.slice none 0 0, .slice none 0 0, .bool false] (HZb2.out) (by kernel_rfl) rfl (by simp [Value.oneCell']) ?_
            refine hK.out _ _ ?hk72 ?_
            case hk72 => exact (fun h => nomatch (h.symm.trans (show _ = true by kernel_rfl)))
            clear hK K
            try simp only [Act.put]
            refine wpAnyK_take0 10 (v := ?v73) rfl (by kernel_rfl) (fun _ _ _ h => h) (Or.inl ⟨by rfl, ?hy73⟩) (fun h => nomatch (h.symm.trans (show _ = true by kernel_rfl))) ?_
            case hy73 => (intro w hSw; go_simp; try with_reducible rfl)
            try simp only [Act.put, List.setIfInBounds_toArray, List.set_cons_zero, List.set_cons_succ]
            refine wpAnyK_done (by kernel_rfl) ?_ _
            go_wp2_with fail
            go_meet
            have hb := But.setRow wgb (wfa.heap.size) #[.slice none 0 0, .slice none 0 0, .bool false]
            have hbF := HBb2.out.trans (hb.below HBb2.out.size (show wv12.drew.heap.size ≤ wfa.heap.size from HBa1.out.size))
            exact ⟨_, wfa.heap.size, rfl, rfl, rfl, (show Below wv12.heap.size wv12 wv12.drew from below_drewN (Below.refl _ _) 1).trans (hbF.mono (show Below wv12.heap.size wv12 wv12.drew from below_drewN (Below.refl _ _) 1).size), (setRow_heap _ _ _ _ _ _ HZb2.out)⟩
        · go_simp
          have hzc : Below wv12.drew.heap.size wv12.drew (wv12.drew.alloc (.cells #[.slice none 0 0, .slice none 0 0, .bool false] 31)) := alloc_below _ _
          have HAc : Hid (Below wv12.drew.heap.size wv12.drew (wv12.drew.alloc (.cells #[.slice none 0 0, .slice none 0 0, .bool false] 31))) := HBd.out.trans (hzc.mono HBd.out.size)
          have HZc : Hid (Bl 31 (wv12.drew.alloc (.cells #[.slice none 0 0, .slice none 0 0, .bool false] 31)) wv12.drew.heap.size [.slice none 0 0, .slice none 0 0, .bool false]) := alloc_bl wv12.drew [.slice none 0 0, .slice none 0 0, .bool false] 31
          try dsimp only
          refine hK.out _ _ ?hk75 ?_
          case hk75 => exact fun _ => ⟨(Hbp2.out.below HAc.out Hbp2.out.lt).cell 0 (by simp), (Hbp2.out.below HAc.out Hbp2.out.lt).cell 1 (by simp), (Hbp2.out.below HAc.out Hbp2.out.lt).cell 2 (by simp)⟩
          have hHeld : ((fun (w' : World) => w'.cell? ⟨w7.heap.size, 0, none⟩ = some (.slice px0 px1 px2) ∧ w'.cell? ⟨w7.heap.size, 1, none⟩ = some (.slice py0 py1 py2) ∧ w'.cell? ⟨w7.heap.size, 2, none⟩ = some (.bool false))) _ := ⟨(Hbp2.out.below HAc.out Hbp2.out.lt).cell 0 (by simp), (Hbp2.out.below HAc.out Hbp2.out.lt).cell 1 (by simp), (Hbp2.out.below HAc.out Hbp2.out.lt).cell 2 (by simp)⟩
          clear hK K
          try simp only [Act.put, List.setIfInBounds_toArray, List.set_cons_zero, List.set_cons_succ]
          refine wpAnyK_step 2 rfl (by kernel_rfl) (fun K hK => ?_)
          go_simp
          refine (nadd_g _ _ A B _ (Hnk2.out.below HAc.out (Nat.le_refl _)) (Hnl2.out.below HAc.out (Nat.le_refl _))).mono ?_
          rintro e wfc ⟨zt, rfl, mz, hBp⟩
          obtain ⟨zt0, zt1, zt2, rfl⟩ := mz.shape
          have HSc : Hid (Nu wfc (.slice zt0 zt1 zt2) (A + B)) := mz
          clear mz
          have HBc1 : Hid (Below wv12.drew.heap.size wv12.drew wfc) := HAc.out.trans (hBp.mono HAc.out.size)
          have HZc1 : Hid (Bl 31 wfc wv12.drew.heap.size [.slice none 0 0, .slice none 0 0, .bool false]) := HZc.out.below hBp HZc.out.lt
          clear hBp
          try dsimp only
          refine hK.out _ _ ?hk76 ?_
          case hk76 => exact fun _ => ⟨(Hbp2.out.below HBc1.out Hbp2.out.lt).cell 0 (by simp), (Hbp2.out.below HBc1.out Hbp2.out.lt).cell 1 (by simp), (Hbp2.out.below HBc1.out Hbp2.out.lt).cell 2 (by simp)⟩
          have hHeld : ((fun (w' : World) => w'.cell? ⟨w7.heap.size, 0, none⟩ = some (.slice px0 px1 px2) ∧ w'.cell? ⟨w7.heap.size, 1, none⟩ = some (.slice py0 py1 py2) ∧ w'.cell? ⟨w7.heap.size, 2, none⟩ = some (.bool false))) _ := ⟨(Hbp2.out.below HBc1.out Hbp2.out.lt).cell 0 (by simp), (Hbp2.out.below HBc1.out Hbp2.out.lt).cell 1 (by simp), (Hbp2.out.below HBc1.out Hbp2.out.lt).cell 2 (by simp)⟩
          clear hK K
          try simp only [Act.put, List.setIfInBounds_toArray, List.set_cons_zero, List.set_cons_succ]
          refine wpAnyK_step 4 rfl (by kernel_rfl) (fun K hK => ?_)
          go_simp
          refine (mul_l (TD.out.below HBc1.out (Nat.le_refl _)) HSc.out (Hpp3.out.below HBc1.out (Nat.le_refl _)) HP.out H6.out).mono ?_
          rintro e wgc ⟨rfl, hBp⟩
          have HBc2 : Hid (Below wv12.drew.heap.size wv12.drew wgc) := HBc1.out.trans (hBp.mono HBc1.out.size)
          have HZc2 : Hid (Bl 31 wgc wv12.drew.heap.size [.slice none 0 0, .slice none 0 0, .bool false]) := HZc1.out.below hBp HZc1.out.lt
          clear hBp
          try dsimp only
          refine hK.out _ _ ?hk77 ?_
          case hk77 => exact fun _ => ⟨(Hbp2.out.below HBc2.out Hbp2.out.lt).cell 0 (by simp), (Hbp2.out.below HBc2.out Hbp2.out.lt).cell 1 (by simp), (Hbp2.out.below HBc2.out Hbp2.out.lt).cell 2 (by simp)⟩
          have hHeld : ((fun (w' : World) => w'.cell? ⟨w7.heap.size, 0, none⟩ = some (.slice px0 px1 px2) ∧ w'.cell? ⟨w7.heap.size, 1, none⟩ = some (.slice py0 py1 py2) ∧ w'.cell? ⟨w7.heap.size, 2, none⟩ = some (.bool false))) _ := ⟨(Hbp2.out.below HBc2.out Hbp2.out.lt).cell 0 (by simp), (Hbp2.out.below HBc2.out Hbp2.out.lt).cell 1 (by simp), (Hbp2.out.below HBc2.out Hbp2.out.lt).cell 2 (by simp)⟩
          clear hK K
          try simp only [Act.put, List.setIfInBounds_toArray, List.set_cons_zero, List.set_cons_succ]
          refine wpAnyK_take0 5 (v := ?v78) rfl (by kernel_rfl) (fun _ _ _ h => h) (Or.inl ⟨by rfl, ?hy78⟩) (fun _ => hHeld) ?_
          case hy78 => (intro w hSw; go_simp; try with_reducible rfl)
          try simp only [Act.put, List.setIfInBounds_toArray, List.set_cons_zero, List.set_cons_succ]
          refine wpAnyK_take0 6 (v := ?v79) rfl (by kernel_rfl) (fun _ _ _ h => h) (Or.inl ⟨by rfl, ?hy79⟩) (fun _ => hHeld) ?_
          case hy79 => (intro w hSw; go_simp; try with_reducible rfl)
          try simp only [Act.put, List.setIfInBounds_toArray, List.set_cons_zero, List.set_cons_succ]
          refine wpAnyK_take0 7 (v := ?v80) rfl (by kernel_rfl) (fun _ _ _ h => h) (Or.inl ⟨by rfl, ?hy80⟩) (fun _ => hHeld) ?_
          case hy80 => (intro w hSw; go_simp; try with_reducible rfl)
          try simp only [Act.put, List.setIfInBounds_toArray, List.set_cons_zero, List.set_cons_succ]
          refine wpAnyK_step 9 rfl (by kernel_rfl) (fun K hK => ?_)
          rw [if_pos (by kernel_rfl)]
          refine wp_store_row 31 _ _ rfl (wv12.drew.heap.size) #[.slice none 0 0, .slice none 0 0, .bool false] rfl rfl 31 #[.slice none 0 0, .slice none 0 0, .bool false] (HZc2.out) (by kernel_rfl) rfl (by simp [Value.oneCell']) ?_
          refine hK.out _ _ ?hk81 ?_
          case hk81 => exact (fun h => nomatch (h.symm.trans (show _ = true by kernel_rfl)))
          clear hK K
          try simp only [Act.put]
          refine wpAnyK_take0 10 (v := ?v82) rfl (by kernel_rfl) (fun _ _ _ h => h) (Or.inl ⟨by rfl, ?hy82⟩) (fun h => nomatch (h.symm.trans (show _ = true by kernel_rfl))) ?_
          case hy82 => (intro w hSw; go_simp; try with_reducible rfl)
          try simp only [Act.put, List.setIfInBounds_toArray, List.set_cons_zero, List.set_cons_succ]
          refine wpAnyK_done (by kernel_rfl) ?_ _
          go_wp2_with fail
          go_meet
          have hb := But.setRow wgc (wv12.drew.heap.size) #[.slice none 0 0, .slice none 0 0, .bool false]
          have hbF := HBc2.out.trans (hb.below HBc2.out.size (show wv12.drew.heap.size ≤ wv12.drew.heap.size from Nat.le_refl _))
          exact ⟨_, wv12.drew.heap.size, rfl, rfl, rfl, (show Below wv12.heap.size wv12 wv12.drew from below_drewN (Below.refl _ _) 1).trans (hbF.mono (show Below wv12.heap.size wv12 wv12.drew from below_drewN (Below.refl _ _) 1).size), (setRow_heap _ _ _ _ _ _ HZc2.out)⟩
      case rest =>
        obtain ⟨wb13, g13, rfl, rfl, rfl, HC⟩ := hcut
        have Hs13zz : Hid (Below wv12.heap.size wv12 wb13) := HC.out.1
        have Hbs0 : Hid (Bl 31 wb13 g13 [.slice none 0 0, .slice none 0 0, .bool false]) := HC.out.2
        clear HC
        have hlt := lit_v wb13 1 1 rfl (by decide) (by decide)
        have hnl : Nu (wb13.alloc (.cells #[.int .u32 1] 43)) (.slice (some ⟨wb13.heap.size, 0, none⟩) 1 1) 1 := hlt.nb.1
        have hbl := hlt.bel
        have Hs13zzz : Hid (Below wb13.heap.size wb13 (wb13.alloc (.cells #[.int .u32 1] 43))) := hbl
        have Hn10 : Hid (Nu (wb13.alloc (.cells #[.int .u32 1] 43)) (.slice (some ⟨wb13.heap.size, 0, none⟩) 1 1) 1) := hnl
        clear hlt hnl hbl
        have Hbp2 : Hid (Bl 31 (wb13.alloc (.cells #[.int .u32 1] 43)) w7.heap.size [.slice px0 px1 px2, .slice py0 py1 py2, .bool false]) := Hbp1.out.below (btr Hs11zz.out (btr Hs11zzz.out (btr Hs13zz.out Hs13zzz.out))) Hbp1.out.lt
        have kp_0 : (wb13.alloc (.cells #[.int .u32 1] 43)).cell? ⟨w7.heap.size, 0, none⟩ = some (.slice px0 px1 px2) := Hbp2.out.cell 0 (by simp)
        have kp_1 : (wb13.alloc (.cells #[.int .u32 1] 43)).cell? ⟨w7.heap.size, 1, none⟩ = some (.slice py0 py1 py2) := Hbp2.out.cell 1 (by simp)
        have kp_2 : (wb13.alloc (.cells #[.int .u32 1] 43)).cell? ⟨w7.heap.size, 2, none⟩ = some (.bool false) := Hbp2.out.cell 2 (by simp)
        go_wp2_with fail
        clear kp_0 kp_1 kp_2
        generalize (wb13.alloc (.cells #[.int .u32 1] 43)) = wv14 at *
        have HB8 : Hid (Below w.heap.size w wv14) := HB7.out.trans ((btr Hs13zz.out Hs13zzz.out).mono HB7.out.size)
        have Hpp3 : Hid (Pn wv14 (.slice px0 px1 px2) (.slice py0 py1 py2) P) := Hpp2.out.below (btr Hs11zz.out (btr Hs11zzz.out (btr Hs13zz.out Hs13zzz.out))) (Nat.le_refl _)
        refine (mul_p (HT.out.1.below HB8.out (Nat.le_refl _)) (Hn10.out) Hpp3.out HP.out (by decide)).mono ?_
        rintro e w15 ⟨v, rfl, hm, hB⟩
        have Hs15zz : Hid (Below wv14.heap.size wv14 w15) := hB
        rw [ew.mone HP.out] at hm
        obtain ⟨ux, uy, rfl, hpn⟩ := hm.pn
        obtain ⟨⟨ux0, ux1, ux2, rfl⟩, ⟨uy0, uy1, uy2, rfl⟩⟩ := hpn.sl
        have Hpu0 : Hid (Pn w15 (.slice ux0 ux1 ux2) (.slice uy0 uy1 uy2) P) := hpn
        clear hpn
        clear hB hm
        have Hs15zzz : Hid (Below w15.heap.size w15 (w15.alloc (.cells #[.slice ux0 ux1 ux2, .slice uy0 uy1 uy2, .bool false] 31))) := alloc_below _ _
        have Hbu0 : Hid (Bl 31 (w15.alloc (.cells #[.slice ux0 ux1 ux2, .slice uy0 uy1 uy2, .bool false] 31)) w15.heap.size [.slice ux0 ux1 ux2, .slice uy0 uy1 uy2, .bool false]) := alloc_bl w15 [.slice ux0 ux1 ux2, .slice uy0 uy1 uy2, .bool false] 31
        have Hbp3 : Hid (Bl 31 (w15.alloc (.cells #[.slice ux0 ux1 ux2, .slice uy0 uy1 uy2, .bool false] 31)) w7.heap.size [.slice px0 px1 px2, .slice py0 py1 py2, .bool false]) := Hbp2.out.below (btr Hs15zz.out Hs15zzz.out) Hbp2.out.lt
        have kp_0 : (w15.alloc (.cells #[.slice ux0 ux1 ux2, .slice uy0 uy1 uy2, .bool false] 31)).cell? ⟨w7.heap.size, 0, none⟩ = some (.slice px0 px1 px2) := Hbp3.out.cell 0 (by simp)
        have kp_1 : (w15.alloc (.cells #[.slice ux0 ux1 ux2, .slice uy0 uy1 uy2, .bool false] 31)).cell? ⟨w7.heap.size, 1, none⟩ = some (.slice py0 py1 py2) := Hbp3.out.cell 1 (by simp)
        have kp_2 : (w15.alloc (.cells #[.slice ux0 ux1 ux2, .slice uy0 uy1 uy2, .bool false] 31)).cell? ⟨w7.heap.size, 2, none⟩ = some (.bool false) := Hbp3.out.cell 2 (by simp)
        go_wp2_with fail
        clear kp_0 kp_1 kp_2
        generalize (w15.alloc (.cells #[.slice ux0 ux1 ux2, .slice uy0 uy1 uy2, .bool false] 31)) = wv16 at *
        have HB9 : Hid (Below w.heap.size w wv16) := HB8.out.trans ((btr Hs15zz.out Hs15zzz.out).mono HB8.out.size)
        have Hpp4 : Hid (Pn wv16 (.slice px0 px1 px2) (.slice py0 py1 py2) P) := Hpp3.out.below (btr Hs15zz.out Hs15zzz.out) (Nat.le_refl _)
        refine (mul_p (HT.out.1.below HB9.out (Nat.le_refl _)) (nu_none _) Hpp4.out HP.out (by decide)).mono ?_
        rintro e w17 ⟨v, rfl, hm, hB⟩
        have Hs17zz : Hid (Below wv16.heap.size wv16 w17) := hB
        obtain ⟨vx, vy, rfl, hpn⟩ := hm.pn
        obtain ⟨⟨vx0, vx1, vx2, rfl⟩, ⟨vy0, vy1, vy2, rfl⟩⟩ := hpn.sl
        have Hpv0 : Hid (Pn w17 (.slice vx0 vx1 vx2) (.slice vy0 vy1 vy2) (0, 1)) := hpn
        clear hpn
        clear hB hm
        have Hs17zzz : Hid (Below w17.heap.size w17 (w17.alloc (.cells #[.slice vx0 vx1 vx2, .slice vy0 vy1 vy2, .bool false] 31))) := alloc_below _ _
        have Hbv0 : Hid (Bl 31 (w17.alloc (.cells #[.slice vx0 vx1 vx2, .slice vy0 vy1 vy2, .bool false] 31)) w17.heap.size [.slice vx0 vx1 vx2, .slice vy0 vy1 vy2, .bool false]) := alloc_bl w17 [.slice vx0 vx1 vx2, .slice vy0 vy1 vy2, .bool false] 31
        have Hnk2 : Hid (Vl (w17.alloc (.cells #[.slice vx0 vx1 vx2, .slice vy0 vy1 vy2, .bool false] 31)) (.slice k0 k1 k2) A 1048576) := Hnk1.out.below (btr Hs9zz.out (btr Hs9zzz.out (btr Hs11zz.out (btr Hs11zzz.out (btr Hs13zz.out (btr Hs13zzz.out (btr Hs15zz.out (btr Hs15zzz.out (btr Hs17zz.out Hs17zzz.out))))))))) (Nat.le_refl _)
        have Hnl2 : Hid (Vl (w17.alloc (.cells #[.slice vx0 vx1 vx2, .slice vy0 vy1 vy2, .bool false] 31)) (.slice n0 n1 n2) B 1048576) := Hnl1.out.below (btr Hs11zz.out (btr Hs11zzz.out (btr Hs13zz.out (btr Hs13zzz.out (btr Hs15zz.out (btr Hs15zzz.out (btr Hs17zz.out Hs17zzz.out))))))) (Nat.le_refl _)
        have HB10 : Hid (Below w.heap.size w (w17.alloc (.cells #[.slice vx0 vx1 vx2, .slice vy0 vy1 vy2, .bool false] 31))) := HB9.out.trans ((btr Hs17zz.out Hs17zzz.out).mono HB9.out.size)
        obtain ⟨qa, Hqa⟩ : ∃ z : Int, Hid (z = ((bl (A) : Nat) : Int)) := ⟨_, rfl⟩
        obtain ⟨qb, Hqb⟩ : ∃ z : Int, Hid (z = ((bl (B) : Nat) : Int)) := ⟨_, rfl⟩
        obtain ⟨qs, Hqs⟩ : ∃ z : Int, Hid (z = ((bl (A + B) : Nat) : Int)) := ⟨_, rfl⟩
        rcases HH.out with h5 | h5 | h5 | h5
        · have HV : Hid (bl A ≤ 1024 ∧ bl B ≤ 1024 ∧ 1024 < bl (A + B)) := h5
          obtain rfl : zx = 0 := by rw [Hzx.out]; exact if_neg (Nat.not_lt.2 h5.1)
          obtain rfl : zy = 0 := by rw [Hzy.out]; exact if_neg (Nat.not_lt.2 h5.2.1)
          clear h5 Hzx Hzy
          have hdqa : decide ((1024 : Int) < qa) = false := by have := Hqa.out; have := HV.out; exact decide_eq_false (by omega)
          have hdqb : decide ((1024 : Int) < qb) = false := by have := Hqb.out; have := HV.out; exact decide_eq_false (by omega)
          have hdqs : decide ((1024 : Int) < qs) = true := by have := Hqs.out; have := HV.out; exact decide_eq_true (by omega)
          go_wp2_with fail
          generalize (w17.alloc (.cells #[.slice vx0 vx1 vx2, .slice vy0 vy1 vy2, .bool false] 31)) = wv18 at *
          refine (by rw [Hqa.out]; exact vbits _ (A) _ _ (vnu Hnk2.out) (by decide) : Calls Tryz.prog 24 #[_] _ fun e w' => e = .returned (.int .i64 qa) ∧ w' = _).mono ?_
          rintro e wv18 ⟨rfl, rfl⟩
          go_wp2_with fail
          refine (by rw [Hqb.out]; exact vbits _ (B) _ _ (vnu Hnl2.out) (by decide) : Calls Tryz.prog 24 #[_] _ fun e w' => e = .returned (.int .i64 qb) ∧ w' = _).mono ?_
          rintro e wv18 ⟨rfl, rfl⟩
          go_wp2_with fail
          refine (nadd_g _ _ A B _ Hnk2.out Hnl2.out).mono ?_
          rintro e w19 ⟨ta, rfl, mz, hB⟩
          have Hs19z : Hid (Below wv18.heap.size wv18 w19) := hB
          obtain ⟨ta0, ta1, ta2, rfl⟩ := mz.shape
          have Hnta0 : Hid (Nu w19 (.slice ta0 ta1 ta2) (A + B)) := mz
          clear mz hB
          go_wp2_with fail
          refine (by rw [Hqs.out]; exact vbits _ (A + B) _ _ (Hnta0.out) (by decide) : Calls Tryz.prog 24 #[_] _ fun e w' => e = .returned (.int .i64 qs) ∧ w' = _).mono ?_
          rintro e w19 ⟨rfl, rfl⟩
          go_wp2_with fail
          have Hnk3 : Hid (Vl w19 (.slice k0 k1 k2) A 1048576) := Hnk2.out.below Hs19z.out (Nat.le_refl _)
          refine (by rw [Hqa.out]; exact vbits _ (A) _ _ (vnu Hnk3.out) (by decide) : Calls Tryz.prog 24 #[_] _ fun e w' => e = .returned (.int .i64 qa) ∧ w' = _).mono ?_
          rintro e w19 ⟨rfl, rfl⟩
          go_wp2_with fail
          have Hnl3 : Hid (Vl w19 (.slice n0 n1 n2) B 1048576) := Hnl2.out.below Hs19z.out (Nat.le_refl _)
          refine (by rw [Hqb.out]; exact vbits _ (B) _ _ (vnu Hnl3.out) (by decide) : Calls Tryz.prog 24 #[_] _ fun e w' => e = .returned (.int .i64 qb) ∧ w' = _).mono ?_
          rintro e w19 ⟨rfl, rfl⟩
          go_wp2_with fail
          refine (nadd_g _ _ A B _ Hnk3.out Hnl3.out).mono ?_
          rintro e w20 ⟨tb, rfl, mz, hB⟩
          have Hs20zzz : Hid (Below w19.heap.size w19 w20) := hB
          obtain ⟨tb0, tb1, tb2, rfl⟩ := mz.shape
          have Hntb0 : Hid (Nu w20 (.slice tb0 tb1 tb2) (A + B)) := mz
          clear mz hB
          go_wp2_with fail
          refine (by rw [Hqs.out]; exact vbits _ (A + B) _ _ (Hntb0.out) (by decide) : Calls Tryz.prog 24 #[_] _ fun e w' => e = .returned (.int .i64 qs) ∧ w' = _).mono ?_
          rintro e w20 ⟨rfl, rfl⟩
          have HB11 : Hid (Below w.heap.size w w20) := HB10.out.trans ((btr Hs19z.out Hs20zzz.out).mono HB10.out.size)
          go_wp2
          go_ret
          exact ⟨rfl, HB11.out⟩
        · have HV : Hid (bl A ≤ 1024 ∧ bl B > 1024 ∧ 1024 < bl (A + B)) := h5
          obtain rfl : zx = 0 := by rw [Hzx.out]; exact if_neg (Nat.not_lt.2 h5.1)
          obtain rfl : zy = 10 := by rw [Hzy.out]; exact if_pos h5.2.1
          clear h5 Hzx Hzy
          have hdqa : decide ((1024 : Int) < qa) = false := by have := Hqa.out; have := HV.out; exact decide_eq_false (by omega)
          have hdqb : decide ((1024 : Int) < qb) = true := by have := Hqb.out; have := HV.out; exact decide_eq_true (by omega)
          have hdqs : decide ((1024 : Int) < qs) = true := by have := Hqs.out; have := HV.out; exact decide_eq_true (by omega)
          go_wp2_with fail
          generalize (w17.alloc (.cells #[.slice vx0 vx1 vx2, .slice vy0 vy1 vy2, .bool false] 31)) = wv18 at *
          refine (by rw [Hqa.out]; exact vbits _ (A) _ _ (vnu Hnk2.out) (by decide) : Calls Tryz.prog 24 #[_] _ fun e w' => e = .returned (.int .i64 qa) ∧ w' = _).mono ?_
          rintro e wv18 ⟨rfl, rfl⟩
          go_wp2_with fail
          refine (by rw [Hqb.out]; exact vbits _ (B) _ _ (vnu Hnl2.out) (by decide) : Calls Tryz.prog 24 #[_] _ fun e w' => e = .returned (.int .i64 qb) ∧ w' = _).mono ?_
          rintro e wv18 ⟨rfl, rfl⟩
          go_wp2_with fail
          refine (by rw [Hqa.out]; exact vbits _ (A) _ _ (vnu Hnk2.out) (by decide) : Calls Tryz.prog 24 #[_] _ fun e w' => e = .returned (.int .i64 qa) ∧ w' = _).mono ?_
          rintro e wv18 ⟨rfl, rfl⟩
          go_wp2_with fail
          refine (by rw [Hqb.out]; exact vbits _ (B) _ _ (vnu Hnl2.out) (by decide) : Calls Tryz.prog 24 #[_] _ fun e w' => e = .returned (.int .i64 qb) ∧ w' = _).mono ?_
          rintro e wv18 ⟨rfl, rfl⟩
          go_wp2_with fail
          refine (nadd_g _ _ A B _ Hnk2.out Hnl2.out).mono ?_
          rintro e w19 ⟨tb, rfl, mz, hB⟩
          have Hs19zz : Hid (Below wv18.heap.size wv18 w19) := hB
          obtain ⟨tb0, tb1, tb2, rfl⟩ := mz.shape
          have Hntb0 : Hid (Nu w19 (.slice tb0 tb1 tb2) (A + B)) := mz
          clear mz hB
          go_wp2_with fail
          refine (by rw [Hqs.out]; exact vbits _ (A + B) _ _ (Hntb0.out) (by decide) : Calls Tryz.prog 24 #[_] _ fun e w' => e = .returned (.int .i64 qs) ∧ w' = _).mono ?_
          rintro e w19 ⟨rfl, rfl⟩
          have HB11 : Hid (Below w.heap.size w w19) := HB10.out.trans (Hs19zz.out.mono HB10.out.size)
          go_wp2
          go_ret
          exact ⟨rfl, HB11.out⟩
        · have HV : Hid (bl A > 1024 ∧ bl B ≤ 1024 ∧ 1024 < bl (A + B)) := h5
          obtain rfl : zx = 10 := by rw [Hzx.out]; exact if_pos h5.1
          obtain rfl : zy = 0 := by rw [Hzy.out]; exact if_neg (Nat.not_lt.2 h5.2.1)
          clear h5 Hzx Hzy
          have hdqa : decide ((1024 : Int) < qa) = true := by have := Hqa.out; have := HV.out; exact decide_eq_true (by omega)
          have hdqb : decide ((1024 : Int) < qb) = false := by have := Hqb.out; have := HV.out; exact decide_eq_false (by omega)
          have hdqs : decide ((1024 : Int) < qs) = true := by have := Hqs.out; have := HV.out; exact decide_eq_true (by omega)
          go_wp2_with fail
          generalize (w17.alloc (.cells #[.slice vx0 vx1 vx2, .slice vy0 vy1 vy2, .bool false] 31)) = wv18 at *
          refine (by rw [Hqa.out]; exact vbits _ (A) _ _ (vnu Hnk2.out) (by decide) : Calls Tryz.prog 24 #[_] _ fun e w' => e = .returned (.int .i64 qa) ∧ w' = _).mono ?_
          rintro e wv18 ⟨rfl, rfl⟩
          go_wp2_with fail
          refine (by rw [Hqa.out]; exact vbits _ (A) _ _ (vnu Hnk2.out) (by decide) : Calls Tryz.prog 24 #[_] _ fun e w' => e = .returned (.int .i64 qa) ∧ w' = _).mono ?_
          rintro e wv18 ⟨rfl, rfl⟩
          go_wp2_with fail
          refine (by rw [Hqb.out]; exact vbits _ (B) _ _ (vnu Hnl2.out) (by decide) : Calls Tryz.prog 24 #[_] _ fun e w' => e = .returned (.int .i64 qb) ∧ w' = _).mono ?_
          rintro e wv18 ⟨rfl, rfl⟩
          go_wp2_with fail
          refine (nadd_g _ _ A B _ Hnk2.out Hnl2.out).mono ?_
          rintro e w19 ⟨tb, rfl, mz, hB⟩
          have Hs19zzz : Hid (Below wv18.heap.size wv18 w19) := hB
          obtain ⟨tb0, tb1, tb2, rfl⟩ := mz.shape
          have Hntb0 : Hid (Nu w19 (.slice tb0 tb1 tb2) (A + B)) := mz
          clear mz hB
          go_wp2_with fail
          refine (by rw [Hqs.out]; exact vbits _ (A + B) _ _ (Hntb0.out) (by decide) : Calls Tryz.prog 24 #[_] _ fun e w' => e = .returned (.int .i64 qs) ∧ w' = _).mono ?_
          rintro e w19 ⟨rfl, rfl⟩
          have HB11 : Hid (Below w.heap.size w w19) := HB10.out.trans (Hs19zzz.out.mono HB10.out.size)
          go_wp2
          go_ret
          exact ⟨rfl, HB11.out⟩
        · have HV : Hid (bl A > 1024 ∧ bl B > 1024 ∧ 1024 < bl (A + B)) := h5
          obtain rfl : zx = 10 := by rw [Hzx.out]; exact if_pos h5.1
          obtain rfl : zy = 10 := by rw [Hzy.out]; exact if_pos h5.2.1
          clear h5 Hzx Hzy
          have hdqa : decide ((1024 : Int) < qa) = true := by have := Hqa.out; have := HV.out; exact decide_eq_true (by omega)
          have hdqb : decide ((1024 : Int) < qb) = true := by have := Hqb.out; have := HV.out; exact decide_eq_true (by omega)
          have hdqs : decide ((1024 : Int) < qs) = true := by have := Hqs.out; have := HV.out; exact decide_eq_true (by omega)
          go_wp2_with fail
          generalize (w17.alloc (.cells #[.slice vx0 vx1 vx2, .slice vy0 vy1 vy2, .bool false] 31)) = wv18 at *
          refine (by rw [Hqa.out]; exact vbits _ (A) _ _ (vnu Hnk2.out) (by decide) : Calls Tryz.prog 24 #[_] _ fun e w' => e = .returned (.int .i64 qa) ∧ w' = _).mono ?_
          rintro e wv18 ⟨rfl, rfl⟩
          go_wp2_with fail
          refine (by rw [Hqa.out]; exact vbits _ (A) _ _ (vnu Hnk2.out) (by decide) : Calls Tryz.prog 24 #[_] _ fun e w' => e = .returned (.int .i64 qa) ∧ w' = _).mono ?_
          rintro e wv18 ⟨rfl, rfl⟩
          go_wp2_with fail
          refine (by rw [Hqb.out]; exact vbits _ (B) _ _ (vnu Hnl2.out) (by decide) : Calls Tryz.prog 24 #[_] _ fun e w' => e = .returned (.int .i64 qb) ∧ w' = _).mono ?_
          rintro e wv18 ⟨rfl, rfl⟩
          go_wp2_with fail
          refine (nadd_g _ _ A B _ Hnk2.out Hnl2.out).mono ?_
          rintro e w19 ⟨tb, rfl, mz, hB⟩
          have Hs19zzzz : Hid (Below wv18.heap.size wv18 w19) := hB
          obtain ⟨tb0, tb1, tb2, rfl⟩ := mz.shape
          have Hntb0 : Hid (Nu w19 (.slice tb0 tb1 tb2) (A + B)) := mz
          clear mz hB
          go_wp2_with fail
          refine (by rw [Hqs.out]; exact vbits _ (A + B) _ _ (Hntb0.out) (by decide) : Calls Tryz.prog 24 #[_] _ fun e w' => e = .returned (.int .i64 qs) ∧ w' = _).mono ?_
          rintro e w19 ⟨rfl, rfl⟩
          have HB11 : Hid (Below w.heap.size w w19) := HB10.out.trans (Hs19zzzz.out.mono HB10.out.size)
          go_wp2
          go_ret
          exact ⟨rfl, HB11.out⟩
  · skip
    have Hs7zz : Hid (Below w7.heap.size w7 (w7.alloc (.cells #[.slice none 0 0, .slice none 0 0, .bool false] 31))) := alloc_below _ _
    have Hbp0 : Hid (Bl 31 (w7.alloc (.cells #[.slice none 0 0, .slice none 0 0, .bool false] 31)) w7.heap.size [.slice none 0 0, .slice none 0 0, .bool false]) := alloc_bl w7 [.slice none 0 0, .slice none 0 0, .bool false] 31
    have HB5 : Hid (Below w.heap.size w (w7.alloc (.cells #[.slice none 0 0, .slice none 0 0, .bool false] 31))) := HB4.out.trans ((btr Hs7.out Hs7zz.out).mono HB4.out.size)
    go_wp2
    go_ret
    exact ⟨rfl, HB5.out⟩
end Go.Proofs.YtjpjepfmphlneaaGreatDoor
