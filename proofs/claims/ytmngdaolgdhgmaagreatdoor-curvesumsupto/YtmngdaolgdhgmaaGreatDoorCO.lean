import Derived.Test.YtmngdaolgdhgmaaGreatDoorCQ
namespace Go.Proofs.YtmngdaolgdhgmaaGreatDoor
open Go.RowKit

set_option maxRecDepth 100000

set_option maxHeartbeats 4000000 in
theorem of_256 (w : World) : Calls Tryz.prog 41 #[.int .i64 1] w fun e w' => ∃ v, e = .returned v ∧ Gr w w' v k256p k256b k256n k256x k256y 32 := by
  have HF0 : Hid (Fm w (w.alloc (.cells #[.slice none 0 0, .slice none 0 0, .int .i64 0, .slice none 0 0, .slice none 0 0, .slice none 0 0, .bool false, .nilFunc] 57)) [(57, [.slice none 0 0, .slice none 0 0, .int .i64 0, .slice none 0 0, .slice none 0 0, .slice none 0 0, .bool false, .nilFunc])] [] []) := (Fm.nil (w := w) (A := []) ar_nil).push (by simp) 57 [.slice none 0 0, .slice none 0 0, .int .i64 0, .slice none 0 0, .slice none 0 0, .slice none 0 0, .bool false, .nilFunc]
  go_enter Tryz.func41, Tryz.ntmps41
  go_wp2_with fail
  generalize (w.alloc (.cells #[.slice none 0 0, .slice none 0 0, .int .i64 0, .slice none 0 0, .slice none 0 0, .slice none 0 0, .bool false, .nilFunc] 57)) = w0 at *
  refine (p256_v w0).mono ?_
  rintro e w1 ⟨v, rfl, ⟨pv, bv, nv, xv, yv, rfl, m1, m2, m3, m4, m5, ma⟩, hB⟩
  obtain ⟨p0, p1, p2, rfl⟩ := m1.nk.sl
  obtain ⟨b0, b1, b2, rfl⟩ := m2.nk.sl
  obtain ⟨n0, n1, n2, rfl⟩ := m3.nk.sl
  obtain ⟨x0, x1, x2, rfl⟩ := m4.nk.sl
  obtain ⟨y0, y1, y2, rfl⟩ := m5.nk.sl
  have HF1 : Hid (Fm _ _ _ _ _) := HF0.out.below hB
  have hsz := HF0.out.sz
  rw [List.length_singleton] at hsz
  dsimp only
  rename_i K0 hK0
  refine hK0 _ _ (wpList_store_row rfl 57 _ _ rfl w.heap.size #[.slice p0 p1 p2, .slice b0 b1 b2, .int .i64 32, .slice n0 n1 n2, .slice x0 x1 x2, .slice y0 y1 y2, .bool false, .func (.func 98) #[.agg #[.slice p0 p1 p2, .slice b0 b1 b2]] #[]] rfl rfl 57 #[.slice none 0 0, .slice none 0 0, .int .i64 0, .slice none 0 0, .slice none 0 0, .slice none 0 0, .bool false, .nilFunc] (HF1.out.bx 0 (Nat.le_of_ble_eq_true rfl)) (by kernel_rfl) rfl (by simp [Value.oneCell']) ?_)
  have hb := But.setRow w1 w.heap.size #[.slice p0 p1 p2, .slice b0 b1 b2, .int .i64 32, .slice n0 n1 n2, .slice x0 x1 x2, .slice y0 y1 y2, .bool false, .func (.func 98) #[.agg #[.slice p0 p1 p2, .slice b0 b1 b2]] #[]]
  have hh := setRow_heap w1 w.heap.size _ #[.slice p0 p1 p2, .slice b0 b1 b2, .int .i64 32, .slice n0 n1 n2, .slice x0 x1 x2, .slice y0 y1 y2, .bool false, .func (.func 98) #[.agg #[.slice p0 p1 p2, .slice b0 b1 b2]] #[]] _ _ (HF1.out.bx 0 (Nat.le_of_ble_eq_true rfl))
  have hbel := HF1.out.outB 0 (by simp) hb
  have HX : Hid (Gr w (w1.setRow w.heap.size #[.slice p0 p1 p2, .slice b0 b1 b2, .int .i64 32, .slice n0 n1 n2, .slice x0 x1 x2, .slice y0 y1 y2, .bool false, .func (.func 98) #[.agg #[.slice p0 p1 p2, .slice b0 b1 b2]] #[]]) (.agg #[.slice p0 p1 p2, .slice b0 b1 b2, .int .i64 32, .slice n0 n1 n2, .slice x0 x1 x2, .slice y0 y1 y2, .bool false, .func (.func 98) #[.agg #[.slice p0 p1 p2, .slice b0 b1 b2]] #[]]) k256p k256b k256n k256x k256y 32) := ⟨⟨_, _, _, _, _, rfl, (m1.but hb (by omega)).base (by omega), (m2.but hb (by omega)).base (by omega), (m3.but hb (by omega)).base (by omega), (m4.but hb (by omega)).base (by omega), (m5.but hb (by omega)).base (by omega), ma⟩, hbel⟩
  have Hh : Hid (_ = _) := hh
  generalize w1.setRow w.heap.size #[.slice p0 p1 p2, .slice b0 b1 b2, .int .i64 32, .slice n0 n1 n2, .slice x0 x1 x2, .slice y0 y1 y2, .bool false, .func (.func 98) #[.agg #[.slice p0 p1 p2, .slice b0 b1 b2]] #[]] = w2 at *
  clear m1 m2 m3 m4 m5 ma hB hsz hb hh hbel HF0 HF1
  go_wp2
  (try simp only [Exit.inBlock, Exit.then])
  refine bodyPost_ret (v := .agg #[.slice p0 p1 p2, .slice b0 b1 b2, .int .i64 32, .slice n0 n1 n2, .slice x0 x1 x2, .slice y0 y1 y2, .bool false, .func (.func 98) #[.agg #[.slice p0 p1 p2, .slice b0 b1 b2]] #[]]) ?_ rfl ⟨_, rfl, HX.out⟩
  exact results_cell_row rfl _ _ w.heap.size 57 _ (0, 0) _ rfl Hh.out Tryz.underlying57 rfl (by kernel_rfl)
set_option maxHeartbeats 4000000 in
theorem of_384 (w : World) : Calls Tryz.prog 41 #[.int .i64 2] w fun e w' => ∃ v, e = .returned v ∧ Gr w w' v k384p k384b k384n k384x k384y 48 := by
  have HF0 : Hid (Fm w (w.alloc (.cells #[.slice none 0 0, .slice none 0 0, .int .i64 0, .slice none 0 0, .slice none 0 0, .slice none 0 0, .bool false, .nilFunc] 57)) [(57, [.slice none 0 0, .slice none 0 0, .int .i64 0, .slice none 0 0, .slice none 0 0, .slice none 0 0, .bool false, .nilFunc])] [] []) := (Fm.nil (w := w) (A := []) ar_nil).push (by simp) 57 [.slice none 0 0, .slice none 0 0, .int .i64 0, .slice none 0 0, .slice none 0 0, .slice none 0 0, .bool false, .nilFunc]
  go_enter Tryz.func41, Tryz.ntmps41
  go_wp2_with fail
  generalize (w.alloc (.cells #[.slice none 0 0, .slice none 0 0, .int .i64 0, .slice none 0 0, .slice none 0 0, .slice none 0 0, .bool false, .nilFunc] 57)) = w0 at *
  refine (p384_v w0).mono ?_
  rintro e w1 ⟨v, rfl, ⟨pv, bv, nv, xv, yv, rfl, m1, m2, m3, m4, m5, ma⟩, hB⟩
  obtain ⟨p0, p1, p2, rfl⟩ := m1.nk.sl
  obtain ⟨b0, b1, b2, rfl⟩ := m2.nk.sl
  obtain ⟨n0, n1, n2, rfl⟩ := m3.nk.sl
  obtain ⟨x0, x1, x2, rfl⟩ := m4.nk.sl
  obtain ⟨y0, y1, y2, rfl⟩ := m5.nk.sl
  have HF1 : Hid (Fm _ _ _ _ _) := HF0.out.below hB
  have hsz := HF0.out.sz
  rw [List.length_singleton] at hsz
  dsimp only
  rename_i K0 hK0
  refine hK0 _ _ (wpList_store_row rfl 57 _ _ rfl w.heap.size #[.slice p0 p1 p2, .slice b0 b1 b2, .int .i64 48, .slice n0 n1 n2, .slice x0 x1 x2, .slice y0 y1 y2, .bool false, .func (.func 98) #[.agg #[.slice p0 p1 p2, .slice b0 b1 b2]] #[]] rfl rfl 57 #[.slice none 0 0, .slice none 0 0, .int .i64 0, .slice none 0 0, .slice none 0 0, .slice none 0 0, .bool false, .nilFunc] (HF1.out.bx 0 (Nat.le_of_ble_eq_true rfl)) (by kernel_rfl) rfl (by simp [Value.oneCell']) ?_)
  have hb := But.setRow w1 w.heap.size #[.slice p0 p1 p2, .slice b0 b1 b2, .int .i64 48, .slice n0 n1 n2, .slice x0 x1 x2, .slice y0 y1 y2, .bool false, .func (.func 98) #[.agg #[.slice p0 p1 p2, .slice b0 b1 b2]] #[]]
  have hh := setRow_heap w1 w.heap.size _ #[.slice p0 p1 p2, .slice b0 b1 b2, .int .i64 48, .slice n0 n1 n2, .slice x0 x1 x2, .slice y0 y1 y2, .bool false, .func (.func 98) #[.agg #[.slice p0 p1 p2, .slice b0 b1 b2]] #[]] _ _ (HF1.out.bx 0 (Nat.le_of_ble_eq_true rfl))
  have hbel := HF1.out.outB 0 (by simp) hb
  have HX : Hid (Gr w (w1.setRow w.heap.size #[.slice p0 p1 p2, .slice b0 b1 b2, .int .i64 48, .slice n0 n1 n2, .slice x0 x1 x2, .slice y0 y1 y2, .bool false, .func (.func 98) #[.agg #[.slice p0 p1 p2, .slice b0 b1 b2]] #[]]) (.agg #[.slice p0 p1 p2, .slice b0 b1 b2, .int .i64 48, .slice n0 n1 n2, .slice x0 x1 x2, .slice y0 y1 y2, .bool false, .func (.func 98) #[.agg #[.slice p0 p1 p2, .slice b0 b1 b2]] #[]]) k384p k384b k384n k384x k384y 48) := ⟨⟨_, _, _, _, _, rfl, (m1.but hb (by omega)).base (by omega), (m2.but hb (by omega)).base (by omega), (m3.but hb (by omega)).base (by omega), (m4.but hb (by omega)).base (by omega), (m5.but hb (by omega)).base (by omega), ma⟩, hbel⟩
  have Hh : Hid (_ = _) := hh
  generalize w1.setRow w.heap.size #[.slice p0 p1 p2, .slice b0 b1 b2, .int .i64 48, .slice n0 n1 n2, .slice x0 x1 x2, .slice y0 y1 y2, .bool false, .func (.func 98) #[.agg #[.slice p0 p1 p2, .slice b0 b1 b2]] #[]] = w2 at *
  clear m1 m2 m3 m4 m5 ma hB hsz hb hh hbel HF0 HF1
  go_wp2
  (try simp only [Exit.inBlock, Exit.then])
  refine bodyPost_ret (v := .agg #[.slice p0 p1 p2, .slice b0 b1 b2, .int .i64 48, .slice n0 n1 n2, .slice x0 x1 x2, .slice y0 y1 y2, .bool false, .func (.func 98) #[.agg #[.slice p0 p1 p2, .slice b0 b1 b2]] #[]]) ?_ rfl ⟨_, rfl, HX.out⟩
  exact results_cell_row rfl _ _ w.heap.size 57 _ (0, 0) _ rfl Hh.out Tryz.underlying57 rfl (by kernel_rfl)
/-- The two curves, and their numbers. -/
inductive Kv : Int → Nat → Nat → Nat → Nat → Nat → Int → Prop
  | k1 : Kv 1 k256p k256b k256n k256x k256y 32
  | k2 : Kv 2 k384p k384b k384n k384x k384y 48
theorem of_kv {c s : Int} {p b n gx gy : Nat} (h : Kv c p b n gx gy s) (w : World) : Calls Tryz.prog 41 #[.int .i64 c] w fun e w' => ∃ v, e = .returned v ∧ Gr w w' v p b n gx gy s := by
  cases h
  · exact of_256 w
  · exact of_384 w
theorem Kv.cv {c s : Int} {p b n gx gy : Nat} (h : Kv c p b n gx gy s) : Cv p b := by
  cases h
  · exact cv256
  · exact cv384
theorem Kv.pm {c s : Int} {p b n gx gy : Nat} (h : Kv c p b n gx gy s) : Pm p := by
  cases h
  · exact pm256
  · exact pm384
theorem Kv.s0 {c s : Int} {p b n gx gy : Nat} (h : Kv c p b n gx gy s) : s = 32 ∨ s = 48 := by
  cases h
  · exact .inl rfl
  · exact .inr rfl
set_option maxHeartbeats 4000000 in
theorem of_none (c : Int) (w : World) (h1 : c ≠ 1) (h2 : c ≠ 2) : Calls Tryz.prog 41 #[.int .i64 c] w fun e w' => e = .returned (.agg #[.slice none 0 0, .slice none 0 0, .int .i64 0, .slice none 0 0, .slice none 0 0, .slice none 0 0, .bool false, .nilFunc]) ∧ Below w.heap.size w w' := by
  have d1 : decide (c = 1) = false := decide_eq_false h1
  have d2 : decide (c = 2) = false := decide_eq_false h2
  have d3 : (c == 1) = false := by simpa using h1
  have d4 : (c == 2) = false := by simpa using h2
  have hsn : ∀ (w : World) (a : Addr), Sem.run Tryz.prog (store a .nilFunc) w = _ := fun w a => run_store Tryz.prog w a .nilFunc _ rfl
  go_enter Tryz.func41, Tryz.ntmps41
  go_wp2
  (try simp only [Exit.inBlock, Exit.then])
  refine bodyPost_ret (v := .agg #[.slice none 0 0, .slice none 0 0, .int .i64 0, .slice none 0 0, .slice none 0 0, .slice none 0 0, .bool false, .nilFunc]) ?_ rfl ⟨rfl, ?_⟩
  · rw [results_cell rfl]; go_simp
  · (repeat' (first | with_reducible assumption | with_reducible exact Below.refl _ _ | with_reducible exact Nat.le_refl _ | with_reducible refine Below.setCell ?_ ?_ _ | with_reducible refine Below.alloc ?_ ?_ _ | with_reducible apply Below.drew | with_reducible apply below_drewN | omega | (simp; done) | (simp; omega)))
end Go.Proofs.YtmngdaolgdhgmaaGreatDoor
