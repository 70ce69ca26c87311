import Derived.Test.YtmngdaolgdhgmaaGreatDoorCH
namespace Go.Proofs.YtmngdaolgdhgmaaGreatDoor
open Go.RowKit

set_option maxRecDepth 100000

set_option maxHeartbeats 4000000 in
theorem on_v {c s : Int} {p b n gx gy : Nat} (hk : Kv c p b n gx gy s) (x y : Value) (X Y : Nat) (inf : Bool) (w : World) (hx : Nu w x X) (hy : Nu w y Y) :
    Calls Tryz.prog 18 #[.int .i64 c, .agg #[x, y, .bool inf]] w fun e w' => e = .returned (.bool (onB p b X Y inf)) ∧ Below w.heap.size w w' := by
  obtain ⟨x0, x1, x2, rfl⟩ := hx.shape
  obtain ⟨y0, y1, y2, rfl⟩ := hy.shape
  have HN : Hid (Nu w (.slice x0 x1 x2) X ∧ Nu w (.slice y0 y1 y2) Y) := ⟨hx, hy⟩
  have HF0 : Hid (Fm w (w.alloc (.cells #[.slice x0 x1 x2, .slice y0 y1 y2, .bool inf] 26)) [(26, [.slice x0 x1 x2, .slice y0 y1 y2, .bool inf])] [] []) := ((Fm.nil (w := w) (A := []) ar_nil).push (by simp) 26 [.slice x0 x1 x2, .slice y0 y1 y2, .bool inf])
  have hs : s ≠ 0 := by rcases hk.s0 with h | h <;> omega
  have Hs : Hid (s ≠ 0) := hs
  have Hp : Hid (Pm p) := hk.pm
  clear hx hy hs
  go_enter Tryz.func18, Tryz.ntmps18
  go_wp2_with fail
  generalize (w.alloc (.cells #[.slice x0 x1 x2, .slice y0 y1 y2, .bool inf] 26)) = w0 at *
  have HFd : Hid (Fm _ _ _ _ _) := HF0.out.drew
  refine wp_region_K 3 (fun (w' : World) => w'.cell? ⟨w.heap.size, 0, none⟩ = some (.slice x0 x1 x2) ∧ w'.cell? ⟨w.heap.size, 1, none⟩ = some (.slice y0 y1 y2) ∧ w'.cell? ⟨w.heap.size, 2, none⟩ = some (.bool inf)) (by kernel_rfl) ?_
  have hHeld : ((fun (w' : World) => w'.cell? ⟨w.heap.size, 0, none⟩ = some (.slice x0 x1 x2) ∧ w'.cell? ⟨w.heap.size, 1, none⟩ = some (.slice y0 y1 y2) ∧ w'.cell? ⟨w.heap.size, 2, none⟩ = some (.bool inf))) (World.drew _) := ⟨HFd.out.cell 0 0 (Nat.le_of_ble_eq_true rfl) (Nat.le_of_ble_eq_true rfl), HFd.out.cell 0 1 (Nat.le_of_ble_eq_true rfl) (Nat.le_of_ble_eq_true rfl), HFd.out.cell 0 2 (Nat.le_of_ble_eq_true rfl) (Nat.le_of_ble_eq_true rfl)⟩
  refine wpAnyK_take0 0 (v := ?v23) rfl (by kernel_rfl) (fun _ _ _ h => h) (Or.inl ⟨by rfl, ?hy23⟩) (fun _ => hHeld) ?_
  case hy23 => (intro w hSw; go_simp; try with_reducible rfl)
  try simp only [Act.put, List.setIfInBounds_toArray, List.set_cons_zero, List.set_cons_succ]
  refine wpAnyK_take 2 [3] (v := ?v24) rfl (by kernel_rfl) (fun _ _ _ h => h) (Or.inl ⟨by rfl, ?hy24⟩) hHeld ?_
  case hy24 => (intro w hSw; (try dsimp only at hSw); go_simp; try with_reducible rfl)
  try simp only [Act.put, List.setIfInBounds_toArray, List.set_cons_zero, List.set_cons_succ]
  refine wpAnyK_step 1 rfl (by kernel_rfl) (fun K hK => ?_)
  go_simp
  refine (of_kv hk _).mono ?_
  rintro e w1 ⟨g, rfl, ⟨pv, bv, nv, xv, yv, rfl, m1, m2, m3, m4, m5, ma⟩, hB⟩
  obtain ⟨n0, n1, n2, rfl⟩ := m3.nk.sl
  obtain ⟨gx0, gx1, gx2, rfl⟩ := m4.nk.sl
  obtain ⟨gy0, gy1, gy2, rfl⟩ := m5.nk.sl
  have HF1 : Hid (Fm _ _ _ _ _) := HFd.out.below hB
  have HG : Hid (Nk w1 pv p 384 ∧ Nk w1 bv b 384) := ⟨m1.nk, m2.nk⟩
  clear m1 m2 m3 m4 m5 ma hB
  try dsimp only
  refine (fun hHeld => hK.out _ _ (fun _ => hHeld) ?_) ⟨HF1.out.cell 0 0 (Nat.le_of_ble_eq_true rfl) (Nat.le_of_ble_eq_true rfl), HF1.out.cell 0 1 (Nat.le_of_ble_eq_true rfl) (Nat.le_of_ble_eq_true rfl), HF1.out.cell 0 2 (Nat.le_of_ble_eq_true rfl) (Nat.le_of_ble_eq_true rfl)⟩
  clear hK K
  try simp only [Act.put, List.setIfInBounds_toArray, List.set_cons_zero, List.set_cons_succ]
  refine wpAnyK_step 3 rfl (by kernel_rfl) (fun K hK => ?_)
  go_simp
  refine (has_v n0 gx0 gy0 n1 n2 gx1 gx2 gy1 gy2 pv bv _ _ _ s p b X Y _ Hs.out ⟨_, _, _, rfl⟩ Hp HG.out.1 HG.out.2 (HN.out.1.below HF1.out.bel (Nat.le_refl _)) (HN.out.2.below HF1.out.bel (Nat.le_refl _)) inf).mono ?_
  rintro e w2 ⟨rfl, hB⟩
  have HF2 : Hid (Fm _ _ _ _ _) := HF1.out.below hB
  clear hB
  obtain ⟨d, Hd⟩ : ∃ d, Hid (d = onB p b X Y inf) := ⟨_, rfl⟩
  rw [← Hd.out]
  try dsimp only
  refine (fun hHeld => hK.out _ _ (fun _ => hHeld) ?_) ⟨HF2.out.cell 0 0 (Nat.le_of_ble_eq_true rfl) (Nat.le_of_ble_eq_true rfl), HF2.out.cell 0 1 (Nat.le_of_ble_eq_true rfl) (Nat.le_of_ble_eq_true rfl), HF2.out.cell 0 2 (Nat.le_of_ble_eq_true rfl) (Nat.le_of_ble_eq_true rfl)⟩
  clear hK K
  try simp only [Act.put, List.setIfInBounds_toArray, List.set_cons_zero, List.set_cons_succ]
  refine wpAnyK_take0 4 (v := ?v27) rfl (by kernel_rfl) (fun _ _ _ h => h) (Or.inl ⟨by rfl, ?hy27⟩) (fun _ => hHeld) ?_
  case hy27 => (intro w hSw; go_simp; try with_reducible rfl)
  try simp only [Act.put, List.setIfInBounds_toArray, List.set_cons_zero, List.set_cons_succ]
  refine wpAnyK_done (by kernel_rfl) ?_ _
  go_wp2
  go_ret
  exact ⟨by rw [← Hd.out]; rfl, HF2.out.bel⟩
set_option maxHeartbeats 4000000 in
theorem on_none (c : Int) (h1 : c ≠ 1) (h2 : c ≠ 2) (x y : Value) (inf : Bool) (w : World) (hx : Sl3 x) (hy : Sl3 y) :
    Calls Tryz.prog 18 #[.int .i64 c, .agg #[x, y, .bool inf]] w fun e w' => e = .returned (.bool false) ∧ Below w.heap.size w w' := by
  obtain ⟨x0, x1, x2, rfl⟩ := hx
  obtain ⟨y0, y1, y2, rfl⟩ := hy
  have HF0 : Hid (Fm w (w.alloc (.cells #[.slice x0 x1 x2, .slice y0 y1 y2, .bool inf] 26)) [(26, [.slice x0 x1 x2, .slice y0 y1 y2, .bool inf])] [] []) := ((Fm.nil (w := w) (A := []) ar_nil).push (by simp) 26 [.slice x0 x1 x2, .slice y0 y1 y2, .bool inf])
  go_enter Tryz.func18, Tryz.ntmps18
  go_wp2_with fail
  generalize (w.alloc (.cells #[.slice x0 x1 x2, .slice y0 y1 y2, .bool inf] 26)) = w0 at *
  have HFd : Hid (Fm _ _ _ _ _) := HF0.out.drew
  refine wp_region_K 3 (fun (w' : World) => w'.cell? ⟨w.heap.size, 0, none⟩ = some (.slice x0 x1 x2) ∧ w'.cell? ⟨w.heap.size, 1, none⟩ = some (.slice y0 y1 y2) ∧ w'.cell? ⟨w.heap.size, 2, none⟩ = some (.bool inf)) (by kernel_rfl) ?_
  have hHeld : ((fun (w' : World) => w'.cell? ⟨w.heap.size, 0, none⟩ = some (.slice x0 x1 x2) ∧ w'.cell? ⟨w.heap.size, 1, none⟩ = some (.slice y0 y1 y2) ∧ w'.cell? ⟨w.heap.size, 2, none⟩ = some (.bool inf))) (World.drew _) := ⟨HFd.out.cell 0 0 (Nat.le_of_ble_eq_true rfl) (Nat.le_of_ble_eq_true rfl), HFd.out.cell 0 1 (Nat.le_of_ble_eq_true rfl) (Nat.le_of_ble_eq_true rfl), HFd.out.cell 0 2 (Nat.le_of_ble_eq_true rfl) (Nat.le_of_ble_eq_true rfl)⟩
  refine wpAnyK_take0 0 (v := ?v28) rfl (by kernel_rfl) (fun _ _ _ h => h) (Or.inl ⟨by rfl, ?hy28⟩) (fun _ => hHeld) ?_
  case hy28 => (intro w hSw; go_simp; try with_reducible rfl)
  try simp only [Act.put, List.setIfInBounds_toArray, List.set_cons_zero, List.set_cons_succ]
  refine wpAnyK_take 2 [3] (v := ?v29) rfl (by kernel_rfl) (fun _ _ _ h => h) (Or.inl ⟨by rfl, ?hy29⟩) hHeld ?_
  case hy29 => (intro w hSw; (try dsimp only at hSw); go_simp; try with_reducible rfl)
  try simp only [Act.put, List.setIfInBounds_toArray, List.set_cons_zero, List.set_cons_succ]
  refine wpAnyK_step 1 rfl (by kernel_rfl) (fun K hK => ?_)
  go_simp
  refine (of_none c _ h1 h2).mono ?_
  rintro e w1 ⟨rfl, hB⟩
  have HF1 : Hid (Fm _ _ _ _ _) := HFd.out.below hB
  clear hB
  try dsimp only
  refine (fun hHeld => hK.out _ _ (fun _ => hHeld) ?_) ⟨HF1.out.cell 0 0 (Nat.le_of_ble_eq_true rfl) (Nat.le_of_ble_eq_true rfl), HF1.out.cell 0 1 (Nat.le_of_ble_eq_true rfl) (Nat.le_of_ble_eq_true rfl), HF1.out.cell 0 2 (Nat.le_of_ble_eq_true rfl) (Nat.le_of_ble_eq_true rfl)⟩
  clear hK K
  try simp only [Act.put, List.setIfInBounds_toArray, List.set_cons_zero, List.set_cons_succ]
  refine wpAnyK_step 3 rfl (by kernel_rfl) (fun K hK => ?_)
  go_simp
  refine (has_none _ _ inf _ ⟨_, _, _, rfl⟩ ⟨_, _, _, rfl⟩).mono ?_
  rintro e w2 ⟨rfl, hB⟩
  have HF2 : Hid (Fm _ _ _ _ _) := HF1.out.below hB
  clear hB
  try dsimp only
  refine (fun hHeld => hK.out _ _ (fun _ => hHeld) ?_) ⟨HF2.out.cell 0 0 (Nat.le_of_ble_eq_true rfl) (Nat.le_of_ble_eq_true rfl), HF2.out.cell 0 1 (Nat.le_of_ble_eq_true rfl) (Nat.le_of_ble_eq_true rfl), HF2.out.cell 0 2 (Nat.le_of_ble_eq_true rfl) (Nat.le_of_ble_eq_true rfl)⟩
  clear hK K
  try simp only [Act.put, List.setIfInBounds_toArray, List.set_cons_zero, List.set_cons_succ]
  refine wpAnyK_take0 4 (v := ?v32) rfl (by kernel_rfl) (fun _ _ _ h => h) (Or.inl ⟨by rfl, ?hy32⟩) (fun _ => hHeld) ?_
  case hy32 => (intro w hSw; go_simp; try with_reducible rfl)
  try simp only [Act.put, List.setIfInBounds_toArray, List.set_cons_zero, List.set_cons_succ]
  refine wpAnyK_done (by kernel_rfl) ?_ _
  go_wp2
  go_ret
  exact ⟨rfl, HF2.out.bel⟩
set_option maxHeartbeats 4000000 in
theorem field_v {c s : Int} {p b n gx gy : Nat} (hk : Kv c p b n gx gy s) (w : World) : Calls Tryz.prog 8 #[.int .i64 c] w fun e w' => ∃ r, e = .returned r ∧ Mk w' w.heap.size r p 384 ∧ Below w.heap.size w w' := by
  have hf0 : ∀ (a b c d e f g h : Value) (w : World), Sem.run Tryz.prog (Instr.field 57 (.agg #[a, b, c, d, e, f, g, h]) 0) w = .ok (.agg #[a, b]) w := fun _ _ _ _ _ _ _ _ _ => rfl
  have hf1 : ∀ (a b c d e f g h : Value) (w : World), Sem.run Tryz.prog (Instr.field 57 (.agg #[a, b, c, d, e, f, g, h]) 1) w = .ok c w := fun _ _ _ _ _ _ _ _ _ => rfl
  have hf2 : ∀ (a b c d e f g h : Value) (w : World), Sem.run Tryz.prog (Instr.field 57 (.agg #[a, b, c, d, e, f, g, h]) 2) w = .ok d w := fun _ _ _ _ _ _ _ _ _ => rfl
  have hf3 : ∀ (a b c d e f g h : Value) (w : World), Sem.run Tryz.prog (Instr.field 57 (.agg #[a, b, c, d, e, f, g, h]) 3) w = .ok (.agg #[e, f, g]) w := fun _ _ _ _ _ _ _ _ _ => rfl
  have hf4 : ∀ (a b : Value) (w : World), Sem.run Tryz.prog (Instr.field 54 (.agg #[a, b]) 0) w = .ok a w := fun _ _ _ => rfl
  go_enter Tryz.func8, Tryz.ntmps8
  go_wp2_with fail
  refine (of_kv hk _).mono ?_
  rintro e w1 ⟨g, rfl, ⟨pv, bv, nv, xv, yv, rfl, m1, m2, m3, m4, m5, ma⟩, hB⟩
  have HX : Hid (Mk w1 w.heap.size pv p 384 ∧ Below w.heap.size w w1) := ⟨m1, hB⟩
  obtain ⟨p0, p1, p2, rfl⟩ := m1.nk.sl
  obtain ⟨b0, b1, b2, rfl⟩ := m2.nk.sl
  obtain ⟨n0, n1, n2, rfl⟩ := m3.nk.sl
  obtain ⟨gx0, gx1, gx2, rfl⟩ := m4.nk.sl
  obtain ⟨gy0, gy1, gy2, rfl⟩ := m5.nk.sl
  clear m1 m2 m3 m4 m5 ma hB
  go_wp2
  go_ret
  exact ⟨_, rfl, HX.out⟩
set_option maxHeartbeats 4000000 in
theorem order_v {c s : Int} {p b n gx gy : Nat} (hk : Kv c p b n gx gy s) (w : World) : Calls Tryz.prog 9 #[.int .i64 c] w fun e w' => ∃ r, e = .returned r ∧ Mk w' w.heap.size r n 384 ∧ Below w.heap.size w w' := by
  have hf0 : ∀ (a b c d e f g h : Value) (w : World), Sem.run Tryz.prog (Instr.field 57 (.agg #[a, b, c, d, e, f, g, h]) 0) w = .ok (.agg #[a, b]) w := fun _ _ _ _ _ _ _ _ _ => rfl
  have hf1 : ∀ (a b c d e f g h : Value) (w : World), Sem.run Tryz.prog (Instr.field 57 (.agg #[a, b, c, d, e, f, g, h]) 1) w = .ok c w := fun _ _ _ _ _ _ _ _ _ => rfl
  have hf2 : ∀ (a b c d e f g h : Value) (w : World), Sem.run Tryz.prog (Instr.field 57 (.agg #[a, b, c, d, e, f, g, h]) 2) w = .ok d w := fun _ _ _ _ _ _ _ _ _ => rfl
  have hf3 : ∀ (a b c d e f g h : Value) (w : World), Sem.run Tryz.prog (Instr.field 57 (.agg #[a, b, c, d, e, f, g, h]) 3) w = .ok (.agg #[e, f, g]) w := fun _ _ _ _ _ _ _ _ _ => rfl
  have hf4 : ∀ (a b : Value) (w : World), Sem.run Tryz.prog (Instr.field 54 (.agg #[a, b]) 0) w = .ok a w := fun _ _ _ => rfl
  go_enter Tryz.func9, Tryz.ntmps9
  go_wp2_with fail
  refine (of_kv hk _).mono ?_
  rintro e w1 ⟨g, rfl, ⟨pv, bv, nv, xv, yv, rfl, m1, m2, m3, m4, m5, ma⟩, hB⟩
  have HX : Hid (Mk w1 w.heap.size nv n 384 ∧ Below w.heap.size w w1) := ⟨m3, hB⟩
  obtain ⟨p0, p1, p2, rfl⟩ := m1.nk.sl
  obtain ⟨b0, b1, b2, rfl⟩ := m2.nk.sl
  obtain ⟨n0, n1, n2, rfl⟩ := m3.nk.sl
  obtain ⟨gx0, gx1, gx2, rfl⟩ := m4.nk.sl
  obtain ⟨gy0, gy1, gy2, rfl⟩ := m5.nk.sl
  clear m1 m2 m3 m4 m5 ma hB
  go_wp2
  go_ret
  exact ⟨_, rfl, HX.out⟩
set_option maxHeartbeats 4000000 in
theorem base_v {c s : Int} {p b n gx gy : Nat} (hk : Kv c p b n gx gy s) (w : World) : Calls Tryz.prog 10 #[.int .i64 c] w fun e w' => ∃ r, e = .returned r ∧ Pa w w' r (.A gx gy) := by
  have HF0 : Hid (Fm w (w.alloc (.cells #[.slice none 0 0, .slice none 0 0, .bool false] 26)) [(26, [.slice none 0 0, .slice none 0 0, .bool false])] [] []) := (Fm.nil (w := w) (A := []) ar_nil).push (by simp) 26 [.slice none 0 0, .slice none 0 0, .bool false]
  have hf0 : ∀ (a b c d e f g h : Value) (w : World), Sem.run Tryz.prog (Instr.field 57 (.agg #[a, b, c, d, e, f, g, h]) 0) w = .ok (.agg #[a, b]) w := fun _ _ _ _ _ _ _ _ _ => rfl
  have hf1 : ∀ (a b c d e f g h : Value) (w : World), Sem.run Tryz.prog (Instr.field 57 (.agg #[a, b, c, d, e, f, g, h]) 1) w = .ok c w := fun _ _ _ _ _ _ _ _ _ => rfl
  have hf2 : ∀ (a b c d e f g h : Value) (w : World), Sem.run Tryz.prog (Instr.field 57 (.agg #[a, b, c, d, e, f, g, h]) 2) w = .ok d w := fun _ _ _ _ _ _ _ _ _ => rfl
  have hf3 : ∀ (a b c d e f g h : Value) (w : World), Sem.run Tryz.prog (Instr.field 57 (.agg #[a, b, c, d, e, f, g, h]) 3) w = .ok (.agg #[e, f, g]) w := fun _ _ _ _ _ _ _ _ _ => rfl
  have hf4 : ∀ (a b : Value) (w : World), Sem.run Tryz.prog (Instr.field 54 (.agg #[a, b]) 0) w = .ok a w := fun _ _ _ => rfl
  go_enter Tryz.func10, Tryz.ntmps10
  go_wp2_with fail
  generalize w.alloc (.cells #[.slice none 0 0, .slice none 0 0, .bool false] 26) = w0 at *
  refine (of_kv hk _).mono ?_
  rintro e w1 ⟨g, rfl, ⟨pv, bv, nv, xv, yv, rfl, m1, m2, m3, m4, m5, ma⟩, hB⟩
  obtain ⟨p0, p1, p2, rfl⟩ := m1.nk.sl
  obtain ⟨b0, b1, b2, rfl⟩ := m2.nk.sl
  obtain ⟨n0, n1, n2, rfl⟩ := m3.nk.sl
  obtain ⟨gx0, gx1, gx2, rfl⟩ := m4.nk.sl
  obtain ⟨gy0, gy1, gy2, rfl⟩ := m5.nk.sl
  have HF1 : Hid (Fm _ _ _ _ _) := HF0.out.below hB
  have hsz := HF0.out.sz
  rw [List.length_singleton] at hsz
  have HX : Hid (Mk w1 (w.heap.size + 1) (.slice gx0 gx1 gx2) gx 384 ∧ Mk w1 (w.heap.size + 1) (.slice gy0 gy1 gy2) gy 384 ∧ Apt (.slice gy0 gy1 gy2) (.slice gx0 gx1 gx2)) := ⟨m4.base hsz, m5.base hsz, ma⟩
  have c0 : w1.cell? ⟨w.heap.size, 0, none⟩ = some (.slice none 0 0) := HF1.out.cell 0 0 (by simp) (by simp)
  have c1 : w1.cell? ⟨w.heap.size, 1, none⟩ = some (.slice none 0 0) := HF1.out.cell 0 1 (by simp) (by simp)
  have c2 : w1.cell? ⟨w.heap.size, 2, none⟩ = some (.bool false) := HF1.out.cell 0 2 (by simp) (by simp)
  have f0 : w1.frozen? ⟨w.heap.size, 0, none⟩ = false := HF1.out.frozen 0 0 (by simp)
  have f1 : w1.frozen? ⟨w.heap.size, 1, none⟩ = false := HF1.out.frozen 0 1 (by simp)
  have f2 : w1.frozen? ⟨w.heap.size, 2, none⟩ = false := HF1.out.frozen 0 2 (by simp)
  clear m1 m2 m3 m4 m5 ma hB hsz HF0
  go_wp2
  (try simp only [Exit.inBlock, Exit.then])
  have hb := (((But.refl w1 w.heap.size).set 0 (.slice gx0 gx1 gx2)).set 1 (.slice gy0 gy1 gy2)).set 2 (.bool false)
  refine bodyPost_ret (v := .agg #[.slice gx0 gx1 gx2, .slice gy0 gy1 gy2, .bool false]) ?_ rfl ⟨_, rfl, ⟨_, _, rfl, (HX.out.1.but hb (by omega)).base (by omega), (HX.out.2.1.but hb (by omega)).base (by omega), HX.out.2.2⟩, HF1.out.outB 0 (by simp) hb⟩
  rw [results_cell rfl]; go_simp
end Go.Proofs.YtmngdaolgdhgmaaGreatDoor
