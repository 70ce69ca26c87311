import Derived.Test.YtmngdaolgdhgmaaGreatDoorCK
import Derived.Test.YtmngdaolgdhgmaaGreatDoorCW
namespace Go.Proofs.YtmngdaolgdhgmaaGreatDoor
open Go.RowKit

/-- A curve's group as an answer: its numbers in new memory. -/
def Gr (w w' : World) (v : Value) (p b n gx gy : Nat) (size : Int) : Prop :=
  (∃ pv bv nv xv yv, v = .agg #[pv, bv, .int .i64 size, nv, xv, yv, .bool false, .func (.func 98) #[.agg #[pv, bv]] #[]] ∧ Mk w' w.heap.size pv p 384 ∧ Mk w' w.heap.size bv b 384 ∧ Mk w' w.heap.size nv n 384 ∧ Mk w' w.heap.size xv gx 384 ∧ Mk w' w.heap.size yv gy 384 ∧ Apt yv xv) ∧ Below w.heap.size w w'
set_option maxRecDepth 100000
theorem But.setRow (w : World) (g : Nat) (cs : Array Value) : But w (w.setRow g cs) g := ⟨rfl, rfl, rfl, by simp, fun k _ hk => setRow_other w g k cs hk⟩
set_option maxHeartbeats 8000000 in
theorem p256_v (w : World) : Calls Tryz.prog 64 #[] w fun e w' => ∃ v, e = .returned v ∧ Gr w w' v k256p k256b k256n k256x k256y 32 := by
  have hmf : ∀ (fn : Fn) (first cap : Array Value) (w : World), (Instr.makeFunc fn first cap).run Tryz.prog w = .ok (.func fn first cap) w := fun _ _ _ _ => rfl
  have HF0 : Hid (Fm w (w.alloc (.cells #[.slice none 0 0, .slice none 0 0, .int .i64 0, .slice none 0 0, .slice none 0 0, .slice none 0 0, .bool false, .nilFunc] 57)) [(57, [.slice none 0 0, .slice none 0 0, .int .i64 0, .slice none 0 0, .slice none 0 0, .slice none 0 0, .bool false, .nilFunc])] [] []) := ((Fm.nil (w := w) (A := []) ar_nil).push (by simp) 57 [.slice none 0 0, .slice none 0 0, .int .i64 0, .slice none 0 0, .slice none 0 0, .slice none 0 0, .bool false, .nilFunc])
  go_enter Tryz.func64, Tryz.ntmps64
  go_wp2_with fail
  generalize (w.alloc (.cells #[.slice none 0 0, .slice none 0 0, .int .i64 0, .slice none 0 0, .slice none 0 0, .slice none 0 0, .bool false, .nilFunc] 57)) = w0 at *
  refine (num256p w0).mono ?_
  rintro e w1 ⟨r1, rfl, h⟩
  have HF1 : Hid (Fm _ _ _ _ _) := HF0.out.step h
  clear h
  go_wp2_with fail
  refine (num256b w1).mono ?_
  rintro e w2 ⟨r2, rfl, h⟩
  have HF2 : Hid (Fm _ _ _ _ _) := HF1.out.step h
  clear h
  obtain ⟨p0, p1, p2, rfl⟩ := (HF2.out.got 1 (Nat.le_of_ble_eq_true rfl)).sl
  obtain ⟨b0, b1, b2, rfl⟩ := (HF2.out.got 0 (Nat.le_of_ble_eq_true rfl)).sl
  go_wp2_with fail
  have HG3 : Hid (Fm w2 (w2.alloc (.cells #[.slice p0 p1 p2, .slice b0 b1 b2] 54)) [(54, [.slice p0 p1 p2, .slice b0 b1 b2])] [] []) := (Fm.nil (w := w2) (A := []) ar_nil).push (by simp) 54 [.slice p0 p1 p2, .slice b0 b1 b2]
  generalize w2.alloc (.cells #[.slice p0 p1 p2, .slice b0 b1 b2] 54) = w3 at *
  have HG3d : Hid (Fm _ _ _ _ _) := HG3.out.drew
  refine wp_region_K 8 (fun (w' : World) => w'.cell? ⟨w2.heap.size, 0, none⟩ = some (.slice p0 p1 p2) ∧ w'.cell? ⟨w2.heap.size, 1, none⟩ = some (.slice b0 b1 b2)) (by kernel_rfl) ?_
  have hHeld : ((fun (w' : World) => w'.cell? ⟨w2.heap.size, 0, none⟩ = some (.slice p0 p1 p2) ∧ w'.cell? ⟨w2.heap.size, 1, none⟩ = some (.slice b0 b1 b2))) (World.drew _) := ⟨HG3d.out.cell 0 0 (Nat.le_of_ble_eq_true rfl) (Nat.le_of_ble_eq_true rfl), HG3d.out.cell 0 1 (Nat.le_of_ble_eq_true rfl) (Nat.le_of_ble_eq_true rfl)⟩
  refine wpAnyK_take 0 [7, 8] (v := ?v1) rfl (by kernel_rfl) (fun _ _ _ h => h) (Or.inl ⟨by rfl, ?hy1⟩) hHeld ?_
  case hy1 => (intro w hSw; (try dsimp only at hSw); go_simp; try with_reducible rfl)
  try simp only [Act.put, List.setIfInBounds_toArray, List.set_cons_zero, List.set_cons_succ]
  refine wpAnyK_take 5 [6, 7, 8] (v := ?v2) rfl (by kernel_rfl) (fun _ _ _ h => h) (Or.inl ⟨by rfl, ?hy2⟩) hHeld ?_
  case hy2 => (intro w hSw; (try dsimp only at hSw); go_simp; try with_reducible rfl)
  try simp only [Act.put, List.setIfInBounds_toArray, List.set_cons_zero, List.set_cons_succ]
  refine wpAnyK_take0 6 (v := ?v3) rfl (by kernel_rfl) (fun _ _ _ h => h) (Or.inl ⟨by rfl, ?hy3⟩) (fun _ => hHeld) ?_
  case hy3 => (intro w hSw; go_simp; try with_reducible rfl)
  try simp only [Act.put, List.setIfInBounds_toArray, List.set_cons_zero, List.set_cons_succ]
  refine wpAnyK_step 1 rfl (by kernel_rfl) (fun K hK => ?_)
  go_simp
  refine (num256n _).mono ?_
  rintro e w4 ⟨r4, rfl, h⟩
  have HF4 : Hid (Fm _ _ _ _ _) := HG3d.out.step h
  clear h
  try dsimp only
  refine (fun hHeld => hK.out _ _ (fun _ => hHeld) ?_) ⟨HF4.out.cell 0 0 (Nat.le_of_ble_eq_true rfl) (Nat.le_of_ble_eq_true rfl), HF4.out.cell 0 1 (Nat.le_of_ble_eq_true rfl) (Nat.le_of_ble_eq_true rfl)⟩
  clear hK K
  try simp only [Act.put, List.setIfInBounds_toArray, List.set_cons_zero, List.set_cons_succ]
  refine wpAnyK_step 2 rfl (by kernel_rfl) (fun K hK => ?_)
  go_simp
  refine (num256x _).mono ?_
  rintro e w5 ⟨r5, rfl, h⟩
  have HF5 : Hid (Fm _ _ _ _ _) := HF4.out.step h
  clear h
  try dsimp only
  refine (fun hHeld => hK.out _ _ (fun _ => hHeld) ?_) ⟨HF5.out.cell 0 0 (Nat.le_of_ble_eq_true rfl) (Nat.le_of_ble_eq_true rfl), HF5.out.cell 0 1 (Nat.le_of_ble_eq_true rfl) (Nat.le_of_ble_eq_true rfl)⟩
  clear hK K
  try simp only [Act.put, List.setIfInBounds_toArray, List.set_cons_zero, List.set_cons_succ]
  refine wpAnyK_step 3 rfl (by kernel_rfl) (fun K hK => ?_)
  go_simp
  refine (num256y _).mono ?_
  rintro e w6 ⟨r6, rfl, h⟩
  have HF6 : Hid (Fm _ _ _ _ _) := HF5.out.step h
  clear h
  try dsimp only
  refine (fun hHeld => hK.out _ _ (fun _ => hHeld) ?_) ⟨HF6.out.cell 0 0 (Nat.le_of_ble_eq_true rfl) (Nat.le_of_ble_eq_true rfl), HF6.out.cell 0 1 (Nat.le_of_ble_eq_true rfl) (Nat.le_of_ble_eq_true rfl)⟩
  clear hK K
  try simp only [Act.put, List.setIfInBounds_toArray, List.set_cons_zero, List.set_cons_succ]
  obtain ⟨n0, n1, n2, rfl⟩ := (HF6.out.got 2 (Nat.le_of_ble_eq_true rfl)).sl
  obtain ⟨x0, x1, x2, rfl⟩ := (HF6.out.got 1 (Nat.le_of_ble_eq_true rfl)).sl
  obtain ⟨y0, y1, y2, rfl⟩ := (HF6.out.got 0 (Nat.le_of_ble_eq_true rfl)).sl
  refine wpAnyK_take0 4 (v := ?v8) rfl (by kernel_rfl) (fun _ _ _ h => h) (Or.inl ⟨by rfl, ?hy8⟩) (fun _ => hHeld) ?_
  case hy8 => (intro w hSw; go_simp; try with_reducible rfl)
  try simp only [Act.put, List.setIfInBounds_toArray, List.set_cons_zero, List.set_cons_succ]
  refine wpAnyK_take0 7 (v := ?v9) rfl (by kernel_rfl) (fun _ _ _ h => h) (Or.inl ⟨by rfl, ?hy9⟩) (fun _ => hHeld) ?_
  case hy9 => (intro w hSw; go_simp; try with_reducible rfl)
  try simp only [Act.put, List.setIfInBounds_toArray, List.set_cons_zero, List.set_cons_succ]
  have HE : Hid (Fm _ _ _ _ _) := HF2.out.below HF6.out.bel
  refine wpAnyK_step 8 rfl (by kernel_rfl) (fun K hK => ?_)
  rw [if_pos (by kernel_rfl)]
  refine wp_store_row 57 _ _ rfl w.heap.size #[.slice p0 p1 p2, .slice b0 b1 b2, .int .i64 32, .slice n0 n1 n2, .slice x0 x1 x2, .slice y0 y1 y2, .bool false, .func (.func 98) #[.agg #[.slice p0 p1 p2, .slice b0 b1 b2]] #[]] rfl rfl 57 #[.slice none 0 0, .slice none 0 0, .int .i64 0, .slice none 0 0, .slice none 0 0, .slice none 0 0, .bool false, .nilFunc] (HE.out.bx 0 (Nat.le_of_ble_eq_true rfl)) (by kernel_rfl) rfl (by simp [Value.oneCell']) ?_
  refine hK.out _ _ ?hk11 ?_
  case hk11 => exact (fun h => nomatch (h.symm.trans (show _ = true by kernel_rfl)))
  clear hK K
  try simp only [Act.put]
  refine wpAnyK_done (by kernel_rfl) ?_ _
  go_wp2
  (try simp only [Exit.inBlock, Exit.then])
  have hb := But.setRow w6 w.heap.size #[.slice p0 p1 p2, .slice b0 b1 b2, .int .i64 32, .slice n0 n1 n2, .slice x0 x1 x2, .slice y0 y1 y2, .bool false, .func (.func 98) #[.agg #[.slice p0 p1 p2, .slice b0 b1 b2]] #[]]
  have hs2 : w.heap.size + 1 ≤ w2.heap.size := HF2.out.sz
  refine bodyPost_ret (v := .agg #[.slice p0 p1 p2, .slice b0 b1 b2, .int .i64 32, .slice n0 n1 n2, .slice x0 x1 x2, .slice y0 y1 y2, .bool false, .func (.func 98) #[.agg #[.slice p0 p1 p2, .slice b0 b1 b2]] #[]]) ?_ rfl ⟨_, rfl, ⟨_, _, _, _, _, rfl, HE.out.out 0 (by simp) hb 1 (by simp), HE.out.out 0 (by simp) hb 0 (by simp), ?_, ?_, ?_, HF6.out.apt 0 1 (by simp) (by simp) (by omega)⟩, HE.out.outB 0 (by simp) hb⟩
  · exact results_cell_row rfl _ _ w.heap.size 57 _ (0, 0) _ rfl (setRow_heap _ _ _ _ _ _ (HE.out.bx 0 (Nat.le_of_ble_eq_true rfl))) Tryz.underlying57 rfl (by kernel_rfl)
  · exact ((HF6.out.made _ (List.getElem_mem (n := 2) (by simp))).but hb (by simp only [List.length_singleton]; omega)).base (by simp only [List.length_singleton]; omega)
  · exact ((HF6.out.made _ (List.getElem_mem (n := 1) (by simp))).but hb (by simp only [List.length_singleton]; omega)).base (by simp only [List.length_singleton]; omega)
  · exact ((HF6.out.made _ (List.getElem_mem (n := 0) (by simp))).but hb (by simp only [List.length_singleton]; omega)).base (by simp only [List.length_singleton]; omega)
set_option maxHeartbeats 8000000 in
theorem p384_v (w : World) : Calls Tryz.prog 65 #[] w fun e w' => ∃ v, e = .returned v ∧ Gr w w' v k384p k384b k384n k384x k384y 48 := by
  have hmf : ∀ (fn : Fn) (first cap : Array Value) (w : World), (Instr.makeFunc fn first cap).run Tryz.prog w = .ok (.func fn first cap) w := fun _ _ _ _ => rfl
  have HF0 : Hid (Fm w (w.alloc (.cells #[.slice none 0 0, .slice none 0 0, .int .i64 0, .slice none 0 0, .slice none 0 0, .slice none 0 0, .bool false, .nilFunc] 57)) [(57, [.slice none 0 0, .slice none 0 0, .int .i64 0, .slice none 0 0, .slice none 0 0, .slice none 0 0, .bool false, .nilFunc])] [] []) := ((Fm.nil (w := w) (A := []) ar_nil).push (by simp) 57 [.slice none 0 0, .slice none 0 0, .int .i64 0, .slice none 0 0, .slice none 0 0, .slice none 0 0, .bool false, .nilFunc])
  go_enter Tryz.func65, Tryz.ntmps65
  go_wp2_with fail
  generalize (w.alloc (.cells #[.slice none 0 0, .slice none 0 0, .int .i64 0, .slice none 0 0, .slice none 0 0, .slice none 0 0, .bool false, .nilFunc] 57)) = w0 at *
  refine (num384p w0).mono ?_
  rintro e w1 ⟨r1, rfl, h⟩
  have HF1 : Hid (Fm _ _ _ _ _) := HF0.out.step h
  clear h
  go_wp2_with fail
  refine (num384b w1).mono ?_
  rintro e w2 ⟨r2, rfl, h⟩
  have HF2 : Hid (Fm _ _ _ _ _) := HF1.out.step h
  clear h
  obtain ⟨p0, p1, p2, rfl⟩ := (HF2.out.got 1 (Nat.le_of_ble_eq_true rfl)).sl
  obtain ⟨b0, b1, b2, rfl⟩ := (HF2.out.got 0 (Nat.le_of_ble_eq_true rfl)).sl
  go_wp2_with fail
  have HG3 : Hid (Fm w2 (w2.alloc (.cells #[.slice p0 p1 p2, .slice b0 b1 b2] 54)) [(54, [.slice p0 p1 p2, .slice b0 b1 b2])] [] []) := (Fm.nil (w := w2) (A := []) ar_nil).push (by simp) 54 [.slice p0 p1 p2, .slice b0 b1 b2]
  generalize w2.alloc (.cells #[.slice p0 p1 p2, .slice b0 b1 b2] 54) = w3 at *
  have HG3d : Hid (Fm _ _ _ _ _) := HG3.out.drew
  refine wp_region_K 8 (fun (w' : World) => w'.cell? ⟨w2.heap.size, 0, none⟩ = some (.slice p0 p1 p2) ∧ w'.cell? ⟨w2.heap.size, 1, none⟩ = some (.slice b0 b1 b2)) (by kernel_rfl) ?_
  have hHeld : ((fun (w' : World) => w'.cell? ⟨w2.heap.size, 0, none⟩ = some (.slice p0 p1 p2) ∧ w'.cell? ⟨w2.heap.size, 1, none⟩ = some (.slice b0 b1 b2))) (World.drew _) := ⟨HG3d.out.cell 0 0 (Nat.le_of_ble_eq_true rfl) (Nat.le_of_ble_eq_true rfl), HG3d.out.cell 0 1 (Nat.le_of_ble_eq_true rfl) (Nat.le_of_ble_eq_true rfl)⟩
  refine wpAnyK_take 0 [7, 8] (v := ?v12) rfl (by kernel_rfl) (fun _ _ _ h => h) (Or.inl ⟨by rfl, ?hy12⟩) hHeld ?_
  case hy12 => (intro w hSw; (try dsimp only at hSw); go_simp; try with_reducible rfl)
  try simp only [Act.put, List.setIfInBounds_toArray, List.set_cons_zero, List.set_cons_succ]
  refine wpAnyK_take 5 [6, 7, 8] (v := ?v13) rfl (by kernel_rfl) (fun _ _ _ h => h) (Or.inl ⟨by rfl, ?hy13⟩) hHeld ?_
  case hy13 => (intro w hSw; (try dsimp only at hSw); go_simp; try with_reducible rfl)
  try simp only [Act.put, List.setIfInBounds_toArray, List.set_cons_zero, List.set_cons_succ]
  refine wpAnyK_take0 6 (v := ?v14) rfl (by kernel_rfl) (fun _ _ _ h => h) (Or.inl ⟨by rfl, ?hy14⟩) (fun _ => hHeld) ?_
  case hy14 => (intro w hSw; go_simp; try with_reducible rfl)
  try simp only [Act.put, List.setIfInBounds_toArray, List.set_cons_zero, List.set_cons_succ]
  refine wpAnyK_step 1 rfl (by kernel_rfl) (fun K hK => ?_)
  go_simp
  refine (num384n _).mono ?_
  rintro e w4 ⟨r4, rfl, h⟩
  have HF4 : Hid (Fm _ _ _ _ _) := HG3d.out.step h
  clear h
  try dsimp only
  refine (fun hHeld => hK.out _ _ (fun _ => hHeld) ?_) ⟨HF4.out.cell 0 0 (Nat.le_of_ble_eq_true rfl) (Nat.le_of_ble_eq_true rfl), HF4.out.cell 0 1 (Nat.le_of_ble_eq_true rfl) (Nat.le_of_ble_eq_true rfl)⟩
  clear hK K
  try simp only [Act.put, List.setIfInBounds_toArray, List.set_cons_zero, List.set_cons_succ]
  refine wpAnyK_step 2 rfl (by kernel_rfl) (fun K hK => ?_)
  go_simp
  refine (num384x _).mono ?_
  rintro e w5 ⟨r5, rfl, h⟩
  have HF5 : Hid (Fm _ _ _ _ _) := HF4.out.step h
  clear h
  try dsimp only
  refine (fun hHeld => hK.out _ _ (fun _ => hHeld) ?_) ⟨HF5.out.cell 0 0 (Nat.le_of_ble_eq_true rfl) (Nat.le_of_ble_eq_true rfl), HF5.out.cell 0 1 (Nat.le_of_ble_eq_true rfl) (Nat.le_of_ble_eq_true rfl)⟩
  clear hK K
  try simp only [Act.put, List.setIfInBounds_toArray, List.set_cons_zero, List.set_cons_succ]
  refine wpAnyK_step 3 rfl (by kernel_rfl) (fun K hK => ?_)
  go_simp
  refine (num384y _).mono ?_
  rintro e w6 ⟨r6, rfl, h⟩
  have HF6 : Hid (Fm _ _ _ _ _) := HF5.out.step h
  clear h
  try dsimp only
  refine (fun hHeld => hK.out _ _ (fun _ => hHeld) ?_) ⟨HF6.out.cell 0 0 (Nat.le_of_ble_eq_true rfl) (Nat.le_of_ble_eq_true rfl), HF6.out.cell 0 1 (Nat.le_of_ble_eq_true rfl) (Nat.le_of_ble_eq_true rfl)⟩
  clear hK K
  try simp only [Act.put, List.setIfInBounds_toArray, List.set_cons_zero, List.set_cons_succ]
  obtain ⟨n0, n1, n2, rfl⟩ := (HF6.out.got 2 (Nat.le_of_ble_eq_true rfl)).sl
  obtain ⟨x0, x1, x2, rfl⟩ := (HF6.out.got 1 (Nat.le_of_ble_eq_true rfl)).sl
  obtain ⟨y0, y1, y2, rfl⟩ := (HF6.out.got 0 (Nat.le_of_ble_eq_true rfl)).sl
  refine wpAnyK_take0 4 (v := ?v19) rfl (by kernel_rfl) (fun _ _ _ h => h) (Or.inl ⟨by rfl, ?hy19⟩) (fun _ => hHeld) ?_
  case hy19 => (intro w hSw; go_simp; try with_reducible rfl)
  try simp only [Act.put, List.setIfInBounds_toArray, List.set_cons_zero, List.set_cons_succ]
  refine wpAnyK_take0 7 (v := ?v20) rfl (by kernel_rfl) (fun _ _ _ h => h) (Or.inl ⟨by rfl, ?hy20⟩) (fun _ => hHeld) ?_
  case hy20 => (intro w hSw; go_simp; try with_reducible rfl)
  try simp only [Act.put, List.setIfInBounds_toArray, List.set_cons_zero, List.set_cons_succ]
  have HE : Hid (Fm _ _ _ _ _) := HF2.out.below HF6.out.bel
  refine wpAnyK_step 8 rfl (by kernel_rfl) (fun K hK => ?_)
  rw [if_pos (by kernel_rfl)]
  refine wp_store_row 57 _ _ rfl w.heap.size #[.slice p0 p1 p2, .slice b0 b1 b2, .int .i64 48, .slice n0 n1 n2, .slice x0 x1 x2, .slice y0 y1 y2, .bool false, .func (.func 98) #[.agg #[.slice p0 p1 p2, .slice b0 b1 b2]] #[]] rfl rfl 57 #[.slice none 0 0, .slice none 0 0, .int .i64 0, .slice none 0 0, .slice none 0 0, .slice none 0 0, .bool false, .nilFunc] (HE.out.bx 0 (Nat.le_of_ble_eq_true rfl)) (by kernel_rfl) rfl (by simp [Value.oneCell']) ?_
  refine hK.out _ _ ?hk22 ?_
  case hk22 => exact (fun h => nomatch (h.symm.trans (show _ = true by kernel_rfl)))
  clear hK K
  try simp only [Act.put]
  refine wpAnyK_done (by kernel_rfl) ?_ _
  go_wp2
  (try simp only [Exit.inBlock, Exit.then])
  have hb := But.setRow w6 w.heap.size #[.slice p0 p1 p2, .slice b0 b1 b2, .int .i64 48, .slice n0 n1 n2, .slice x0 x1 x2, .slice y0 y1 y2, .bool false, .func (.func 98) #[.agg #[.slice p0 p1 p2, .slice b0 b1 b2]] #[]]
  have hs2 : w.heap.size + 1 ≤ w2.heap.size := HF2.out.sz
  refine bodyPost_ret (v := .agg #[.slice p0 p1 p2, .slice b0 b1 b2, .int .i64 48, .slice n0 n1 n2, .slice x0 x1 x2, .slice y0 y1 y2, .bool false, .func (.func 98) #[.agg #[.slice p0 p1 p2, .slice b0 b1 b2]] #[]]) ?_ rfl ⟨_, rfl, ⟨_, _, _, _, _, rfl, HE.out.out 0 (by simp) hb 1 (by simp), HE.out.out 0 (by simp) hb 0 (by simp), ?_, ?_, ?_, HF6.out.apt 0 1 (by simp) (by simp) (by omega)⟩, HE.out.outB 0 (by simp) hb⟩
  · exact results_cell_row rfl _ _ w.heap.size 57 _ (0, 0) _ rfl (setRow_heap _ _ _ _ _ _ (HE.out.bx 0 (Nat.le_of_ble_eq_true rfl))) Tryz.underlying57 rfl (by kernel_rfl)
  · exact ((HF6.out.made _ (List.getElem_mem (n := 2) (by simp))).but hb (by simp only [List.length_singleton]; omega)).base (by simp only [List.length_singleton]; omega)
  · exact ((HF6.out.made _ (List.getElem_mem (n := 1) (by simp))).but hb (by simp only [List.length_singleton]; omega)).base (by simp only [List.length_singleton]; omega)
  · exact ((HF6.out.made _ (List.getElem_mem (n := 0) (by simp))).but hb (by simp only [List.length_singleton]; omega)).base (by simp only [List.length_singleton]; omega)
end Go.Proofs.YtmngdaolgdhgmaaGreatDoor
