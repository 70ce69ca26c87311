import Derived.Test.YtmngdaolgdhgmaaGreatDoorCFr
import Derived.Test.YtmngdaolgdhgmaaGreatDoorCP
namespace Go.Proofs.YtmngdaolgdhgmaaGreatDoor
open Go.RowKit

/-- A ratio's three numbers. -/
def Rt (w : World) (v : Value) (X Y Z : Nat) : Prop := ∃ x y z, v = .agg #[x, y, z] ∧ Nk w x X 384 ∧ Nk w y Y 384 ∧ Nk w z Z 384
theorem Rt.below {w w' : World} {v : Value} {X Y Z n : Nat} (h : Rt w v X Y Z) (hb : Below n w w') (hn : w.heap.size ≤ n) : Rt w' v X Y Z := by
  obtain ⟨x, y, z, e, h1, h2, h3⟩ := h
  exact ⟨x, y, z, e, h1.below hb hn, h2.below hb hn, h3.below hb hn⟩
/-- A ratio in new memory. -/
def Rm (w w' : World) (v : Value) (X Y Z : Nat) : Prop := ∃ x y z, v = .agg #[x, y, z] ∧ Mk w' w.heap.size x X 384 ∧ Mk w' w.heap.size y Y 384 ∧ Mk w' w.heap.size z Z 384
theorem Rm.rt {w w' : World} {v : Value} {X Y Z : Nat} (h : Rm w w' v X Y Z) : Rt w' v X Y Z := by
  obtain ⟨x, y, z, e, h1, h2, h3⟩ := h
  exact ⟨x, y, z, e, h1.nk, h2.nk, h3.nk⟩
theorem Mk.le {w : World} {b : Nat} {v : Value} {V k m : Nat} (h : Mk w b v V k) (hk : k ≤ m) : Mk w b v V m := ⟨h.1, h.2.1, Nat.lt_of_lt_of_le h.2.2 (pw_mono hk)⟩
theorem Mk.none (w : World) (b k : Nat) : Mk w b (.slice none 0 0) 0 k := ⟨by rw [dg_zero]; exact Ow.nil w b, by rw [dg_zero]; exact Nat.zero_le _, Nat.pow_pos (by decide)⟩
theorem Rm.shape {w w' : World} {v : Value} {X Y Z : Nat} (h : Rm w w' v X Y Z) : ∃ x0 x1 x2 y0 y1 y2 z0 z1 z2, v = .agg #[.slice x0 x1 x2, .slice y0 y1 y2, .slice z0 z1 z2] := by
  obtain ⟨x, y, z, rfl, h1, h2, h3⟩ := h
  obtain ⟨x0, x1, x2, rfl⟩ := h1.nk.sl
  obtain ⟨y0, y1, y2, rfl⟩ := h2.nk.sl
  obtain ⟨z0, z1, z2, rfl⟩ := h3.nk.sl
  exact ⟨_, _, _, _, _, _, _, _, _, rfl⟩
theorem Rm.later {w w1 w2 w3 : World} {b : Nat} {v : Value} {X Y Z : Nat} (h : Rm w1 w2 v X Y Z) (hb : Below w.heap.size w w1) (hB : But w2 w3 b) (h2 : b < w1.heap.size) : Rm w w3 v X Y Z := by
  obtain ⟨x, y, z, e, m1, m2, m3⟩ := h
  exact ⟨x, y, z, e, (m1.but hB h2).base hb.size, (m2.but hB h2).base hb.size, (m3.but hB h2).base hb.size⟩
theorem Nk.none (w : World) (k : Nat) : Nk w (.slice none 0 0) 0 k := ⟨⟨[], ⟨Option.none, 0, rfl, Nat.le_refl _, Rn.nil _ _, fun y hy => by cases hy⟩, rfl, Nat.zero_le _⟩, Nat.pow_pos (by decide)⟩
theorem ar_nil {w : World} : ∀ q ∈ ([] : List (Value × Nat × Nat)), Nk w q.1 q.2.1 q.2.2 := fun q hq => by cases hq
theorem ar_cons {w : World} {v : Value} {V k : Nat} {A : List (Value × Nat × Nat)} (h : Nk w v V k) (hA : ∀ q ∈ A, Nk w q.1 q.2.1 q.2.2) : ∀ q ∈ (v, V, k) :: A, Nk w q.1 q.2.1 q.2.2 := fun q hq => by
  rcases List.mem_cons.1 hq with rfl | hq
  · exact h
  · exact hA q hq

set_option maxHeartbeats 4000000 in
theorem asRatio_A (x y : Value) (X Y : Nat) (w : World) (hx : Nk w x X 384) (hy : Nk w y Y 384) :
    Calls Tryz.prog 54 #[.agg #[x, y, .bool false]] w fun e w' => ∃ r, e = .returned r ∧ Rt w' r X Y 1 ∧ Below w.heap.size w w' := by
  obtain ⟨x0, x1, x2, rfl⟩ := hx.sl
  obtain ⟨y0, y1, y2, rfl⟩ := hy.sl
  have HF0 : Hid (Fm w ((w.alloc (.cells #[.slice x0 x1 x2, .slice y0 y1 y2, .bool false] 26)).alloc (.cells #[.slice none 0 0, .slice none 0 0, .slice none 0 0] 66)) [(26, [.slice x0 x1 x2, .slice y0 y1 y2, .bool false]), (66, [.slice none 0 0, .slice none 0 0, .slice none 0 0])] [(.slice x0 x1 x2, X, 384), (.slice y0 y1 y2, Y, 384)] []) := (((Fm.nil (w := w) (A := [(.slice x0 x1 x2, X, 384), (.slice y0 y1 y2, Y, 384)]) (ar_cons hx (ar_cons hy ar_nil))).push (by simp) 26 [.slice x0 x1 x2, .slice y0 y1 y2, .bool false]).push (by simp) 66 [.slice none 0 0, .slice none 0 0, .slice none 0 0])
  clear hx hy
  go_enter Tryz.func54, Tryz.ntmps54
  go_wp2_with fail
  generalize ((w.alloc (.cells #[.slice x0 x1 x2, .slice y0 y1 y2, .bool false] 26)).alloc (.cells #[.slice none 0 0, .slice none 0 0, .slice none 0 0] 66)) = w0 at *
  have HF0d : Hid (Fm _ _ _ _ _) := HF0.out.drew
  refine wp_region_K 8 (fun (w' : World) => w'.cell? ⟨w.heap.size, 0, none⟩ = some (.slice x0 x1 x2) ∧ w'.cell? ⟨w.heap.size, 1, none⟩ = some (.slice y0 y1 y2)) (by kernel_rfl) ?_
  have hHeld : ((fun (w' : World) => w'.cell? ⟨w.heap.size, 0, none⟩ = some (.slice x0 x1 x2) ∧ w'.cell? ⟨w.heap.size, 1, none⟩ = some (.slice y0 y1 y2))) (World.drew _) := ⟨HF0d.out.cell 0 0 (Nat.le_of_ble_eq_true rfl) (Nat.le_of_ble_eq_true rfl), HF0d.out.cell 0 1 (Nat.le_of_ble_eq_true rfl) (Nat.le_of_ble_eq_true rfl)⟩
  refine wpAnyK_take0 0 (v := ?v1) rfl (by kernel_rfl) (fun _ _ _ h => h) (Or.inl ⟨by rfl, ?hy1⟩) (fun _ => hHeld) ?_
  case hy1 => (intro w hSw; go_simp; try with_reducible rfl)
  try simp only [Act.put, List.setIfInBounds_toArray, List.set_cons_zero, List.set_cons_succ]
  refine wpAnyK_take 1 [2, 7, 8] (v := ?v2) rfl (by kernel_rfl) (fun _ _ _ h => h) (Or.inl ⟨by rfl, ?hy2⟩) hHeld ?_
  case hy2 => (intro w hSw; (try dsimp only at hSw); go_simp; try with_reducible rfl)
  try simp only [Act.put, List.setIfInBounds_toArray, List.set_cons_zero, List.set_cons_succ]
  refine wpAnyK_take0 3 (v := ?v3) rfl (by kernel_rfl) (fun _ _ _ h => h) (Or.inl ⟨by rfl, ?hy3⟩) (fun _ => hHeld) ?_
  case hy3 => (intro w hSw; go_simp; try with_reducible rfl)
  try simp only [Act.put, List.setIfInBounds_toArray, List.set_cons_zero, List.set_cons_succ]
  refine wpAnyK_take 4 [5, 7, 8] (v := ?v4) rfl (by kernel_rfl) (fun _ _ _ h => h) (Or.inl ⟨by rfl, ?hy4⟩) hHeld ?_
  case hy4 => (intro w hSw; (try dsimp only at hSw); go_simp; try with_reducible rfl)
  try simp only [Act.put, List.setIfInBounds_toArray, List.set_cons_zero, List.set_cons_succ]
  refine wpAnyK_step 2 rfl (by kernel_rfl) (fun K hK => ?_)
  go_simp
  refine (proper11_v _ X 384 _ (HF0d.out.arg 0 (Nat.le_of_ble_eq_true rfl))).mono ?_
  rintro e w1 ⟨r1, rfl, h⟩
  have HF1 : Hid (Fm _ _ _ _ _) := HF0d.out.step h
  clear h
  try dsimp only
  refine (fun hHeld => hK.out _ _ (fun _ => hHeld) ?_) ⟨HF1.out.cell 0 0 (Nat.le_of_ble_eq_true rfl) (Nat.le_of_ble_eq_true rfl), HF1.out.cell 0 1 (Nat.le_of_ble_eq_true rfl) (Nat.le_of_ble_eq_true rfl)⟩
  clear hK K
  try simp only [Act.put, List.setIfInBounds_toArray, List.set_cons_zero, List.set_cons_succ]
  refine wpAnyK_step 5 rfl (by kernel_rfl) (fun K hK => ?_)
  go_simp
  refine (proper11_v _ Y 384 _ (HF1.out.arg 1 (Nat.le_of_ble_eq_true rfl))).mono ?_
  rintro e w2 ⟨r2, rfl, h⟩
  have HF2 : Hid (Fm _ _ _ _ _) := HF1.out.step h
  clear h
  try dsimp only
  refine (fun hHeld => hK.out _ _ (fun _ => hHeld) ?_) ⟨HF2.out.cell 0 0 (Nat.le_of_ble_eq_true rfl) (Nat.le_of_ble_eq_true rfl), HF2.out.cell 0 1 (Nat.le_of_ble_eq_true rfl) (Nat.le_of_ble_eq_true rfl)⟩
  clear hK K
  try simp only [Act.put, List.setIfInBounds_toArray, List.set_cons_zero, List.set_cons_succ]
  refine wpAnyK_step 6 rfl (by kernel_rfl) (fun K hK => ?_)
  go_simp
  refine (small_v 1 1 (by decide) (by decide) _).mono ?_
  rintro e w3 ⟨r3, rfl, h⟩
  have HF3 : Hid (Fm _ _ _ _ _) := HF2.out.step h
  clear h
  try dsimp only
  refine (fun hHeld => hK.out _ _ (fun _ => hHeld) ?_) ⟨HF3.out.cell 0 0 (Nat.le_of_ble_eq_true rfl) (Nat.le_of_ble_eq_true rfl), HF3.out.cell 0 1 (Nat.le_of_ble_eq_true rfl) (Nat.le_of_ble_eq_true rfl)⟩
  clear hK K
  try simp only [Act.put, List.setIfInBounds_toArray, List.set_cons_zero, List.set_cons_succ]
  obtain ⟨r10, r11, r12, rfl⟩ := (HF3.out.got 2 (Nat.le_of_ble_eq_true rfl)).sl
  obtain ⟨r20, r21, r22, rfl⟩ := (HF3.out.got 1 (Nat.le_of_ble_eq_true rfl)).sl
  obtain ⟨r30, r31, r32, rfl⟩ := (HF3.out.got 0 (Nat.le_of_ble_eq_true rfl)).sl
  have c1_0 : w3.cell? ⟨w.heap.size + 1, 0, none⟩ = some (.slice none 0 0) := HF3.out.cell 1 0 (Nat.le_of_ble_eq_true rfl) (Nat.le_of_ble_eq_true rfl)
  have c1_1 : w3.cell? ⟨w.heap.size + 1, 1, none⟩ = some (.slice none 0 0) := HF3.out.cell 1 1 (Nat.le_of_ble_eq_true rfl) (Nat.le_of_ble_eq_true rfl)
  have c1_2 : w3.cell? ⟨w.heap.size + 1, 2, none⟩ = some (.slice none 0 0) := HF3.out.cell 1 2 (Nat.le_of_ble_eq_true rfl) (Nat.le_of_ble_eq_true rfl)
  have f1_0 : w3.frozen? ⟨w.heap.size + 1, 0, none⟩ = false := HF3.out.frozen 1 0 (Nat.le_of_ble_eq_true rfl)
  have f1_1 : w3.frozen? ⟨w.heap.size + 1, 1, none⟩ = false := HF3.out.frozen 1 1 (Nat.le_of_ble_eq_true rfl)
  have f1_2 : w3.frozen? ⟨w.heap.size + 1, 2, none⟩ = false := HF3.out.frozen 1 2 (Nat.le_of_ble_eq_true rfl)
  refine wpAnyK_take0 7 (v := ?v9) rfl (by kernel_rfl) (fun _ _ _ h => h) (Or.inl ⟨by rfl, ?hy9⟩) (fun _ => hHeld) ?_
  case hy9 => (intro w hSw; go_simp; try with_reducible rfl)
  try simp only [Act.put, List.setIfInBounds_toArray, List.set_cons_zero, List.set_cons_succ]
  refine wpAnyK_step 8 rfl (by kernel_rfl) (fun K hK => ?_)
  go_simp
  refine hK.out _ _ ?hk10 ?_
  case hk10 => exact (fun h => nomatch (h.symm.trans (show _ = true by kernel_rfl)))
  clear hK K
  try simp only [Act.put, List.setIfInBounds_toArray, List.set_cons_zero, List.set_cons_succ]
  refine wpAnyK_done (by kernel_rfl) ?_ _
  go_wp2
  (try simp only [Exit.inBlock, Exit.then])
  have hb := (((But.refl w3 (w.heap.size + 1)).set 0 (.slice r10 r11 r12)).set 1 (.slice r20 r21 r22)).set 2 (.slice r30 r31 r32)
  refine bodyPost_ret (v := .agg #[.slice r10 r11 r12, .slice r20 r21 r22, .slice r30 r31 r32]) ?_ rfl ⟨_, rfl, ⟨_, _, _, rfl, (HF3.out.out 1 (by simp) hb 2 (by simp)).nk, (HF3.out.out 1 (by simp) hb 1 (by simp)).nk, (HF3.out.out 1 (by simp) hb 0 (by simp)).nk.le (Nat.le_of_ble_eq_true rfl)⟩, HF3.out.outB 1 (by simp) hb⟩
  rw [results_cell rfl]; go_simp

theorem asRatio_O (x y : Value) (w : World) (hx : Sl3 x) (hy : Sl3 y) :
    Calls Tryz.prog 54 #[.agg #[x, y, .bool true]] w fun e w' => ∃ r, e = .returned r ∧ Rt w' r 0 1 0 ∧ Below w.heap.size w w' := by
  obtain ⟨x0, x1, x2, rfl⟩ := hx
  obtain ⟨y0, y1, y2, rfl⟩ := hy
  have HF0 : Hid (Fm w ((w.alloc (.cells #[.slice x0 x1 x2, .slice y0 y1 y2, .bool true] 26)).alloc (.cells #[.slice none 0 0, .slice none 0 0, .slice none 0 0] 66)) [(26, [.slice x0 x1 x2, .slice y0 y1 y2, .bool true]), (66, [.slice none 0 0, .slice none 0 0, .slice none 0 0])] [] []) := ((Fm.nil (w := w) (A := []) ar_nil).push (by simp) 26 [.slice x0 x1 x2, .slice y0 y1 y2, .bool true]).push (by simp) 66 [.slice none 0 0, .slice none 0 0, .slice none 0 0]
  go_enter Tryz.func54, Tryz.ntmps54
  go_wp2_with fail
  generalize ((w.alloc (.cells #[.slice x0 x1 x2, .slice y0 y1 y2, .bool true] 26)).alloc (.cells #[.slice none 0 0, .slice none 0 0, .slice none 0 0] 66)) = w0 at *
  refine (infinity_v w0).mono ?_
  rintro e w1 ⟨r, rfl, hm, hB⟩
  have HF1 : Hid (Fm _ _ _ _ _) := HF0.out.below hB
  have HM : Hid (Mk w1 (w.heap.size + 2) r 1 1) := hm.base HF0.out.sz
  obtain ⟨r0, r1, r2, rfl⟩ := hm.nk.sl
  have c0 : w1.cell? ⟨w.heap.size + 1, 0, none⟩ = some (.slice none 0 0) := HF1.out.cell 1 0 (by simp) (by simp)
  have c1 : w1.cell? ⟨w.heap.size + 1, 1, none⟩ = some (.slice none 0 0) := HF1.out.cell 1 1 (by simp) (by simp)
  have c2 : w1.cell? ⟨w.heap.size + 1, 2, none⟩ = some (.slice none 0 0) := HF1.out.cell 1 2 (by simp) (by simp)
  have f0 : w1.frozen? ⟨w.heap.size + 1, 0, none⟩ = false := HF1.out.frozen 1 0 (by simp)
  have f1 : w1.frozen? ⟨w.heap.size + 1, 1, none⟩ = false := HF1.out.frozen 1 1 (by simp)
  have f2 : w1.frozen? ⟨w.heap.size + 1, 2, none⟩ = false := HF1.out.frozen 1 2 (by simp)
  clear hm hB HF0
  go_wp2
  (try simp only [Exit.inBlock, Exit.then])
  have hb := (((But.refl w1 (w.heap.size + 1)).set 0 (.slice none 0 0)).set 1 (.slice r0 r1 r2)).set 2 (.slice none 0 0)
  refine bodyPost_ret (v := .agg #[.slice none 0 0, .slice r0 r1 r2, .slice none 0 0]) ?_ rfl ⟨_, rfl, ⟨_, _, _, rfl, Nk.none _ _, ((HM.out.but hb (by omega)).nk).le (by decide), Nk.none _ _⟩, HF1.out.outB 1 (by simp) hb⟩
  rw [results_cell rfl]; go_simp

/-- A point as an answer: new memory, both coordinates apart. -/
def Pa (w w' : World) (v : Value) : Pt → Prop
  | .O => v = .agg #[.slice none 0 0, .slice none 0 0, .bool true] ∧ Below w.heap.size w w'
  | .A a c => (∃ x y, v = .agg #[x, y, .bool false] ∧ Mk w' w.heap.size x a 384 ∧ Mk w' w.heap.size y c 384 ∧ Apt y x) ∧ Below w.heap.size w w'
theorem rcode_inv {M A : Nat} (hM : Pm M) (h1 : A < pw 384) : rcode M (Lg A) = 0 := by
  have := rcode_fine (B := 0) hM.1 hM.lt4 h1 (show 0 < pw 1 from Nat.pow_pos (by decide)) (by decide) (by decide)
  rwa [show Lg 0 = false from Lg_pow (show 0 < pw 1 from Nat.pow_pos (by decide)) (by decide), Bool.or_false] at this
theorem bl_nz {Z : Nat} (h : Z ≠ 0) : ((bl Z : Nat) : Int) ≠ 0 := by
  have h1 := bl_mono (show 1 ≤ Z by omega)
  rw [show bl 1 = 1 by decide] at h1
  omega
set_option maxHeartbeats 4000000 in
theorem point_O (pv bv x y z : Value) (w : World) (hp : Sl3 pv) (hb : Sl3 bv) (hx : Sl3 x) (hy : Sl3 y) (hz : Nk w z 0 384) :
    Calls Tryz.prog 52 #[.agg #[pv, bv], .agg #[x, y, z]] w fun e w' => ∃ r, e = .returned r ∧ Pa w w' r .O := by
  obtain ⟨p0, p1, p2, rfl⟩ := hp
  obtain ⟨b0, b1, b2, rfl⟩ := hb
  obtain ⟨x0, x1, x2, rfl⟩ := hx
  obtain ⟨y0, y1, y2, rfl⟩ := hy
  obtain ⟨z0, z1, z2, rfl⟩ := hz.sl
  have hB := (((Below.refl w.heap.size w).alloc (Nat.le_refl _) (.cells #[.slice p0 p1 p2, .slice b0 b1 b2] 54)).alloc (by simp) (.cells #[.slice x0 x1 x2, .slice y0 y1 y2, .slice z0 z1 z2] 66)).alloc (by simp; omega) (.cells #[.slice none 0 0, .slice none 0 0, .bool false] 26)
  have C := vbits _ 0 _ _ (hz.1.below hB (Nat.le_refl _)) (by decide)
  rw [show bl 0 = 0 by decide] at C
  have HB : Hid (Below _ _ _) := hB
  clear hz hB
  go_enter Tryz.func52, Tryz.ntmps52
  go_wp2_with fail
  refine C.mono ?_
  clear C
  rintro e w1 ⟨rfl, rfl⟩
  go_wp2
  (try simp only [Exit.inBlock, Exit.then])
  refine bodyPost_ret (v := .agg #[.slice none 0 0, .slice none 0 0, .bool true]) ?_ rfl ⟨_, rfl, rfl, ?_⟩
  · rw [results_cell rfl]; go_simp
  · clear HB
    (repeat' (first | with_reducible assumption | with_reducible exact Below.refl _ _ | with_reducible exact Nat.le_refl _ | with_reducible refine Below.setCell ?_ ?_ _ | with_reducible refine Below.alloc ?_ ?_ _ | with_reducible apply Below.drew | with_reducible apply below_drewN | omega | (simp; done) | (simp; omega)))

set_option maxHeartbeats 4000000 in
theorem point_A (pv bv x y z : Value) (p B X Y Z : Nat) (w : World) (Hp : Hid (Pm p)) (hpr : Prim p) (hp : Nk w pv p 384) (hb : Nk w bv B 384) (hx : Nk w x X 384) (hy : Nk w y Y 384) (hz : Nk w z Z 384) (hz0 : 0 < Z) (hzp : Z < p) :
    Calls Tryz.prog 52 #[.agg #[pv, bv], .agg #[x, y, z]] w fun e w' => ∃ r J, Inz Z p J ∧ e = .returned r ∧ Pa w w' r (.A (fM p X J) (fM p Y J)) := by
  obtain ⟨p0, p1, p2, rfl⟩ := hp.sl
  obtain ⟨b0, b1, b2, rfl⟩ := hb.sl
  obtain ⟨x0, x1, x2, rfl⟩ := hx.sl
  obtain ⟨y0, y1, y2, rfl⟩ := hy.sl
  obtain ⟨z0, z1, z2, rfl⟩ := hz.sl
  have HF0 : Hid (Fm w (((w.alloc (.cells #[.slice p0 p1 p2, .slice b0 b1 b2] 54)).alloc (.cells #[.slice x0 x1 x2, .slice y0 y1 y2, .slice z0 z1 z2] 66)).alloc (.cells #[.slice none 0 0, .slice none 0 0, .bool false] 26)) [(54, [.slice p0 p1 p2, .slice b0 b1 b2]), (66, [.slice x0 x1 x2, .slice y0 y1 y2, .slice z0 z1 z2]), (26, [.slice none 0 0, .slice none 0 0, .bool false])] [(.slice p0 p1 p2, p, 384), (.slice b0 b1 b2, B, 384), (.slice x0 x1 x2, X, 384), (.slice y0 y1 y2, Y, 384), (.slice z0 z1 z2, Z, 384)] []) := ((((Fm.nil (w := w) (A := [(.slice p0 p1 p2, p, 384), (.slice b0 b1 b2, B, 384), (.slice x0 x1 x2, X, 384), (.slice y0 y1 y2, Y, 384), (.slice z0 z1 z2, Z, 384)]) (ar_cons hp (ar_cons hb (ar_cons hx (ar_cons hy (ar_cons hz ar_nil)))))).push (by simp) 54 [.slice p0 p1 p2, .slice b0 b1 b2]).push (by simp) 66 [.slice x0 x1 x2, .slice y0 y1 y2, .slice z0 z1 z2]).push (by simp) 26 [.slice none 0 0, .slice none 0 0, .bool false])
  have C := vbits _ Z _ _ (HF0.out.arg 4 (Nat.le_of_ble_eq_true rfl)).1 (by decide)
  have C2 := minv_v _ _ Z p _ (HF0.out.arg 4 (Nat.le_of_ble_eq_true rfl)).1 (HF0.out.arg 0 (Nat.le_of_ble_eq_true rfl)).1
  have hbz := bl_nz (show Z ≠ 0 by omega)
  have Hrc : Hid (rcode p (Lg Z) = 0) := rcode_inv Hp.out hz.2
  have Hgc : Hid (Nat.gcd Z p = 1) := (by rw [Nat.gcd_comm]; exact hpr.cop (fun h => absurd (Nat.le_of_dvd hz0 h) (by omega)) : Nat.gcd Z p = 1)
  generalize ((bl Z : Nat) : Int) = bz at C hbz
  have hbd : decide (bz = 0) = false := decide_eq_false hbz
  clear hp hb hx hy hz hz0 hpr hzp
  go_enter Tryz.func52, Tryz.ntmps52
  go_wp2_with fail
  refine C.mono ?_
  rintro e w1 ⟨rfl, rfl⟩
  clear C
  go_wp2_with fail
  generalize (((w.alloc (.cells #[.slice p0 p1 p2, .slice b0 b1 b2] 54)).alloc (.cells #[.slice x0 x1 x2, .slice y0 y1 y2, .slice z0 z1 z2] 66)).alloc (.cells #[.slice none 0 0, .slice none 0 0, .bool false] 26)) = w0 at *
  refine C2.mono ?_
  clear C2
  rintro e w1 hAns
  obtain ⟨J, r, hJ, rfl, h⟩ : ∃ J r, Inz Z p J ∧ e = .returned (.tuple #[r, .int .i64 0]) ∧ Re w0 w1 r J := by
    rcases hAns with ⟨h, _⟩ | ⟨_, h, _⟩ | ⟨_, J, r, h1, h2, h3⟩
    · exact absurd Hrc.out h
    · exact absurd Hgc.out h
    · exact ⟨J, r, h1, h2, h3⟩
  clear hAns
  have HJ : Hid (Inz Z p J) := hJ
  have HF1 : Hid (Fm _ _ _ _ _) := HF0.out.step ⟨h, Hp.out.lt hJ.1⟩
  obtain ⟨j0, j1, j2, rfl⟩ := h.nu.shape
  clear h hJ
  go_wp2_with fail
  have HF1d : Hid (Fm _ _ _ _ _) := HF1.out.drew
  refine wp_region_K 11 (fun (w' : World) => w'.cell? ⟨w.heap.size, 0, none⟩ = some (.slice p0 p1 p2) ∧ w'.cell? ⟨w.heap.size, 1, none⟩ = some (.slice b0 b1 b2) ∧ w'.cell? ⟨w.heap.size + 1, 0, none⟩ = some (.slice x0 x1 x2) ∧ w'.cell? ⟨w.heap.size + 1, 1, none⟩ = some (.slice y0 y1 y2)) (by kernel_rfl) ?_
  have hHeld : ((fun (w' : World) => w'.cell? ⟨w.heap.size, 0, none⟩ = some (.slice p0 p1 p2) ∧ w'.cell? ⟨w.heap.size, 1, none⟩ = some (.slice b0 b1 b2) ∧ w'.cell? ⟨w.heap.size + 1, 0, none⟩ = some (.slice x0 x1 x2) ∧ w'.cell? ⟨w.heap.size + 1, 1, none⟩ = some (.slice y0 y1 y2))) (World.drew _) := ⟨HF1d.out.cell 0 0 (Nat.le_of_ble_eq_true rfl) (Nat.le_of_ble_eq_true rfl), HF1d.out.cell 0 1 (Nat.le_of_ble_eq_true rfl) (Nat.le_of_ble_eq_true rfl), HF1d.out.cell 1 0 (Nat.le_of_ble_eq_true rfl) (Nat.le_of_ble_eq_true rfl), HF1d.out.cell 1 1 (Nat.le_of_ble_eq_true rfl) (Nat.le_of_ble_eq_true rfl)⟩
  refine wpAnyK_take 0 [4, 10, 11] (v := ?v11) rfl (by kernel_rfl) (fun _ _ _ h => h) (Or.inl ⟨by rfl, ?hy11⟩) hHeld ?_
  case hy11 => (intro w hSw; (try dsimp only at hSw); go_simp; try with_reducible rfl)
  try simp only [Act.put, List.setIfInBounds_toArray, List.set_cons_zero, List.set_cons_succ]
  refine wpAnyK_take0 1 (v := ?v12) rfl (by kernel_rfl) (fun _ _ _ h => h) (Or.inl ⟨by rfl, ?hy12⟩) (fun _ => hHeld) ?_
  case hy12 => (intro w hSw; go_simp; try with_reducible rfl)
  try simp only [Act.put, List.setIfInBounds_toArray, List.set_cons_zero, List.set_cons_succ]
  refine wpAnyK_take 2 [4, 10, 11] (v := ?v13) rfl (by kernel_rfl) (fun _ _ _ h => h) (Or.inl ⟨by rfl, ?hy13⟩) hHeld ?_
  case hy13 => (intro w hSw; (try dsimp only at hSw); go_simp; try with_reducible rfl)
  try simp only [Act.put, List.setIfInBounds_toArray, List.set_cons_zero, List.set_cons_succ]
  refine wpAnyK_take0 3 (v := ?v14) rfl (by kernel_rfl) (fun _ _ _ h => h) (Or.inl ⟨by rfl, ?hy14⟩) (fun _ => hHeld) ?_
  case hy14 => (intro w hSw; go_simp; try with_reducible rfl)
  try simp only [Act.put, List.setIfInBounds_toArray, List.set_cons_zero, List.set_cons_succ]
  refine wpAnyK_take 5 [9, 10, 11] (v := ?v15) rfl (by kernel_rfl) (fun _ _ _ h => h) (Or.inl ⟨by rfl, ?hy15⟩) hHeld ?_
  case hy15 => (intro w hSw; (try dsimp only at hSw); go_simp; try with_reducible rfl)
  try simp only [Act.put, List.setIfInBounds_toArray, List.set_cons_zero, List.set_cons_succ]
  refine wpAnyK_take0 6 (v := ?v16) rfl (by kernel_rfl) (fun _ _ _ h => h) (Or.inl ⟨by rfl, ?hy16⟩) (fun _ => hHeld) ?_
  case hy16 => (intro w hSw; go_simp; try with_reducible rfl)
  try simp only [Act.put, List.setIfInBounds_toArray, List.set_cons_zero, List.set_cons_succ]
  refine wpAnyK_take 7 [9, 10, 11] (v := ?v17) rfl (by kernel_rfl) (fun _ _ _ h => h) (Or.inl ⟨by rfl, ?hy17⟩) hHeld ?_
  case hy17 => (intro w hSw; (try dsimp only at hSw); go_simp; try with_reducible rfl)
  try simp only [Act.put, List.setIfInBounds_toArray, List.set_cons_zero, List.set_cons_succ]
  refine wpAnyK_take0 8 (v := ?v18) rfl (by kernel_rfl) (fun _ _ _ h => h) (Or.inl ⟨by rfl, ?hy18⟩) (fun _ => hHeld) ?_
  case hy18 => (intro w hSw; go_simp; try with_reducible rfl)
  try simp only [Act.put, List.setIfInBounds_toArray, List.set_cons_zero, List.set_cons_succ]
  refine wpAnyK_step 4 rfl (by kernel_rfl) (fun K hK => ?_)
  go_simp
  refine (fmul_v _ _ _ _ p X J 384 384 _ Hp.out (HF1d.out.arg 0 (Nat.le_of_ble_eq_true rfl)).1 (HF1d.out.arg 1 (Nat.le_of_ble_eq_true rfl)).sl (HF1d.out.arg 2 (Nat.le_of_ble_eq_true rfl)) (HF1d.out.got 0 (Nat.le_of_ble_eq_true rfl)) (by decide) (by decide)).mono ?_
  rintro e w2 ⟨r2, rfl, h⟩
  have HF2 : Hid (Fm _ _ _ _ _) := HF1d.out.step h
  clear h
  try dsimp only
  refine (fun hHeld => hK.out _ _ (fun _ => hHeld) ?_) ⟨HF2.out.cell 0 0 (Nat.le_of_ble_eq_true rfl) (Nat.le_of_ble_eq_true rfl), HF2.out.cell 0 1 (Nat.le_of_ble_eq_true rfl) (Nat.le_of_ble_eq_true rfl), HF2.out.cell 1 0 (Nat.le_of_ble_eq_true rfl) (Nat.le_of_ble_eq_true rfl), HF2.out.cell 1 1 (Nat.le_of_ble_eq_true rfl) (Nat.le_of_ble_eq_true rfl)⟩
  clear hK K
  try simp only [Act.put, List.setIfInBounds_toArray, List.set_cons_zero, List.set_cons_succ]
  refine wpAnyK_step 9 rfl (by kernel_rfl) (fun K hK => ?_)
  go_simp
  refine (fmul_v _ _ _ _ p Y J 384 384 _ Hp.out (HF2.out.arg 0 (Nat.le_of_ble_eq_true rfl)).1 (HF2.out.arg 1 (Nat.le_of_ble_eq_true rfl)).sl (HF2.out.arg 3 (Nat.le_of_ble_eq_true rfl)) (HF2.out.got 1 (Nat.le_of_ble_eq_true rfl)) (by decide) (by decide)).mono ?_
  rintro e w3 ⟨r3, rfl, h⟩
  have HF3 : Hid (Fm _ _ _ _ _) := HF2.out.step h
  clear h
  try dsimp only
  refine (fun hHeld => hK.out _ _ (fun _ => hHeld) ?_) ⟨HF3.out.cell 0 0 (Nat.le_of_ble_eq_true rfl) (Nat.le_of_ble_eq_true rfl), HF3.out.cell 0 1 (Nat.le_of_ble_eq_true rfl) (Nat.le_of_ble_eq_true rfl), HF3.out.cell 1 0 (Nat.le_of_ble_eq_true rfl) (Nat.le_of_ble_eq_true rfl), HF3.out.cell 1 1 (Nat.le_of_ble_eq_true rfl) (Nat.le_of_ble_eq_true rfl)⟩
  clear hK K
  try simp only [Act.put, List.setIfInBounds_toArray, List.set_cons_zero, List.set_cons_succ]
  obtain ⟨r10, r11, r12, rfl⟩ := (HF3.out.got 1 (Nat.le_of_ble_eq_true rfl)).sl
  obtain ⟨r20, r21, r22, rfl⟩ := (HF3.out.got 0 (Nat.le_of_ble_eq_true rfl)).sl
  have c2_0 : w3.cell? ⟨w.heap.size + 2, 0, none⟩ = some (.slice none 0 0) := HF3.out.cell 2 0 (Nat.le_of_ble_eq_true rfl) (Nat.le_of_ble_eq_true rfl)
  have c2_1 : w3.cell? ⟨w.heap.size + 2, 1, none⟩ = some (.slice none 0 0) := HF3.out.cell 2 1 (Nat.le_of_ble_eq_true rfl) (Nat.le_of_ble_eq_true rfl)
  have c2_2 : w3.cell? ⟨w.heap.size + 2, 2, none⟩ = some (.bool false) := HF3.out.cell 2 2 (Nat.le_of_ble_eq_true rfl) (Nat.le_of_ble_eq_true rfl)
  have f2_0 : w3.frozen? ⟨w.heap.size + 2, 0, none⟩ = false := HF3.out.frozen 2 0 (Nat.le_of_ble_eq_true rfl)
  have f2_1 : w3.frozen? ⟨w.heap.size + 2, 1, none⟩ = false := HF3.out.frozen 2 1 (Nat.le_of_ble_eq_true rfl)
  have f2_2 : w3.frozen? ⟨w.heap.size + 2, 2, none⟩ = false := HF3.out.frozen 2 2 (Nat.le_of_ble_eq_true rfl)
  refine wpAnyK_take0 10 (v := ?v22) rfl (by kernel_rfl) (fun _ _ _ h => h) (Or.inl ⟨by rfl, ?hy22⟩) (fun _ => hHeld) ?_
  case hy22 => (intro w hSw; go_simp; try with_reducible rfl)
  try simp only [Act.put, List.setIfInBounds_toArray, List.set_cons_zero, List.set_cons_succ]
  refine wpAnyK_step 11 rfl (by kernel_rfl) (fun K hK => ?_)
  go_simp
  refine hK.out _ _ ?hk23 ?_
  case hk23 => exact (fun h => nomatch (h.symm.trans (show _ = true by kernel_rfl)))
  clear hK K
  try simp only [Act.put, List.setIfInBounds_toArray, List.set_cons_zero, List.set_cons_succ]
  refine wpAnyK_done (by kernel_rfl) ?_ _
  go_wp2
  (try simp only [Exit.inBlock, Exit.then])
  have hb := (((But.refl w3 (w.heap.size + 2)).set 0 (.slice r10 r11 r12)).set 1 (.slice r20 r21 r22)).set 2 (.bool false)
  refine bodyPost_ret (v := .agg #[.slice r10 r11 r12, .slice r20 r21 r22, .bool false]) ?_ rfl ⟨_, J, HJ.out, rfl, ⟨_, _, rfl, HF3.out.out 2 (by simp) hb 1 (by simp), HF3.out.out 2 (by simp) hb 0 (by simp), HF3.out.apt 0 1 (by simp) (by simp) (by omega)⟩, HF3.out.outB 2 (by simp) hb⟩
  rw [results_cell rfl]; go_simp
end Go.Proofs.YtmngdaolgdhgmaaGreatDoor
