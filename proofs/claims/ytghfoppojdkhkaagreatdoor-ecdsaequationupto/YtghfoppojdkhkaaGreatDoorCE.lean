import Derived.Test.YtghfoppojdkhkaaGreatDoorCD
import Derived.Test.YtghfoppojdkhkaaGreatDoorCA
namespace Go.Proofs.YtghfoppojdkhkaaGreatDoor
open Go.RowKit

set_option maxRecDepth 100000

theorem Kv.base_on {c s : Int} {p b n gx gy : Nat} (hk : Kv c p b n gx gy s) : onB p b gx gy false = true := by
  cases hk
  · decide +kernel
  · decide +kernel
set_option maxHeartbeats 20000000 in
theorem joint_ok {c s : Int} {p b n gx gy : Nat} (hk : Kv c p b n gx gy s) (av dv u v : Value) (A B U V : Nat) (jnf : Bool) (w : World) (ha : Nu w av A) (hd : Nu w dv B) (hu : Nu w u U) (hv : Nu w v V) (ho : onB p b U V jnf = true) (hA : ¬ 1024 < bl A) (hBl : ¬ 1024 < bl B) :
    Calls Tryz.prog 47 #[.int .i64 c, av, dv, .agg #[u, v, .bool jnf]] w fun e w' => ∃ r, e = .returned (.tuple #[r, .int .i64 0]) ∧ Pa w w' r (sm p (ml p (A % n) (.A gx gy)) (ml p (B % n) (ptO U V jnf))) := by
  obtain ⟨u0, u1, u2, rfl⟩ := hu.shape
  obtain ⟨v0, v1, v2, rfl⟩ := hv.shape
  obtain ⟨a0, a1, a2, rfl⟩ := ha.shape
  obtain ⟨d0, d1, d2, rfl⟩ := hd.shape
  have HN : Hid (Nu w (.slice u0 u1 u2) U ∧ Nu w (.slice v0 v1 v2) V ∧ Nk w (.slice a0 a1 a2) A 1024 ∧ Nk w (.slice d0 d1 d2) B 1024) := ⟨hu, hv, ⟨ha, Nat.lt_of_lt_of_le (bl_lt A) (pw_mono (k := bl A) (m := 1024) (by omega))⟩, ⟨hd, Nat.lt_of_lt_of_le (bl_lt B) (pw_mono (k := bl B) (m := 1024) (by omega))⟩⟩
  have HF0 : Hid (Fm w ((w.alloc (.cells #[.slice u0 u1 u2, .slice v0 v1 v2, .bool jnf] 41)).alloc (.cells #[.slice none 0 0, .slice none 0 0, .bool false] 41)) [(41, [.slice u0 u1 u2, .slice v0 v1 v2, .bool jnf]), (41, [.slice none 0 0, .slice none 0 0, .bool false])] [] []) := (((Fm.nil (w := w) (A := []) ar_nil).push (by simp) 41 [.slice u0 u1 u2, .slice v0 v1 v2, .bool jnf]).push (by simp) 41 [.slice none 0 0, .slice none 0 0, .bool false])
  have Hs : Hid (s ≠ 0) := (by rcases hk.s0 with h | h <;> omega : s ≠ 0)
  have Hp : Hid (Pm p) := hk.pm
  have hsf : ∀ (w : World) (a : Addr) (fn : Fn) (x y : Array Value), Sem.run Tryz.prog (store a (.func fn x y)) w = _ := fun w a fn x y => run_store Tryz.prog w a (.func fn x y) _ rfl
  have hsn : ∀ (w : World) (a : Addr), Sem.run Tryz.prog (store a .nilFunc) w = _ := fun w a => run_store Tryz.prog w a .nilFunc _ rfl
  clear hu hv ha hd
  go_enter Tryz.func47, Tryz.ntmps47
  go_wp2_with fail
  generalize ((w.alloc (.cells #[.slice u0 u1 u2, .slice v0 v1 v2, .bool jnf] 41)).alloc (.cells #[.slice none 0 0, .slice none 0 0, .bool false] 41)) = w0 at *
  refine (of_kv hk _).mono ?_
  rintro e w1 ⟨g, rfl, ⟨pv, bv, nv, xv, yv, rfl, m1, m2, m3, m4, m5, ma⟩, hB⟩
  obtain ⟨n0, n1, n2, rfl⟩ := m3.nk.sl
  obtain ⟨gx0, gx1, gx2, rfl⟩ := m4.nk.sl
  obtain ⟨gy0, gy1, gy2, rfl⟩ := m5.nk.sl
  obtain ⟨p0, p1, p2, rfl⟩ := m1.nk.sl
  obtain ⟨b0, b1, b2, rfl⟩ := m2.nk.sl
  have HF1 : Hid (Fm w w1 [(41, [.slice u0 u1 u2, .slice v0 v1 v2, .bool jnf]), (41, [.slice none 0 0, .slice none 0 0, .bool false])] [] []) := HF0.out.below hB
  have HG : Hid (Nk w1 (.slice p0 p1 p2) p 384 ∧ Nk w1 (.slice b0 b1 b2) b 384 ∧ Nk w1 (.slice n0 n1 n2) n 384 ∧ Nk w1 (.slice gx0 gx1 gx2) gx 384 ∧ Nk w1 (.slice gy0 gy1 gy2) gy 384) := ⟨m1.nk, m2.nk, m3.nk, m4.nk, m5.nk⟩
  clear m1 m2 m3 m4 m5 ma hB HF0
  have a0' : ∀ o, (w1.alloc o).cell? ⟨w.heap.size, 0, none⟩ = some (.slice u0 u1 u2) := fun o => (World.cell?_alloc_lt _ _ _ (HF1.out.bx 0 (Nat.le_of_ble_eq_true rfl)).lt).trans (HF1.out.cell 0 0 (Nat.le_of_ble_eq_true rfl) (Nat.le_of_ble_eq_true rfl))
  have a1' : ∀ o, (w1.alloc o).cell? ⟨w.heap.size, 1, none⟩ = some (.slice v0 v1 v2) := fun o => (World.cell?_alloc_lt _ _ _ (HF1.out.bx 0 (Nat.le_of_ble_eq_true rfl)).lt).trans (HF1.out.cell 0 1 (Nat.le_of_ble_eq_true rfl) (Nat.le_of_ble_eq_true rfl))
  have a2' : ∀ o, (w1.alloc o).cell? ⟨w.heap.size, 2, none⟩ = some (.bool jnf) := fun o => (World.cell?_alloc_lt _ _ _ (HF1.out.bx 0 (Nat.le_of_ble_eq_true rfl)).lt).trans (HF1.out.cell 0 2 (Nat.le_of_ble_eq_true rfl) (Nat.le_of_ble_eq_true rfl))
  go_wp2_with fail
  clear a0' a1' a2'
  have HG2 : Hid (Fm w1 (w1.alloc (.cells #[.slice p0 p1 p2, .slice b0 b1 b2, .int .i64 s, .slice n0 n1 n2, .slice gx0 gx1 gx2, .slice gy0 gy1 gy2, .bool false, .func (.func 93) #[.agg #[.slice p0 p1 p2, .slice b0 b1 b2]] #[]] 68)) [(68, [.slice p0 p1 p2, .slice b0 b1 b2, .int .i64 s, .slice n0 n1 n2, .slice gx0 gx1 gx2, .slice gy0 gy1 gy2, .bool false, .func (.func 93) #[.agg #[.slice p0 p1 p2, .slice b0 b1 b2]] #[]])] [] []) := ((Fm.nil (w := w1) (A := []) ar_nil).push (by simp) 68 [.slice p0 p1 p2, .slice b0 b1 b2, .int .i64 s, .slice n0 n1 n2, .slice gx0 gx1 gx2, .slice gy0 gy1 gy2, .bool false, .func (.func 93) #[.agg #[.slice p0 p1 p2, .slice b0 b1 b2]] #[]])
  have HF2 : Hid (Fm w (w1.alloc (.cells #[.slice p0 p1 p2, .slice b0 b1 b2, .int .i64 s, .slice n0 n1 n2, .slice gx0 gx1 gx2, .slice gy0 gy1 gy2, .bool false, .func (.func 93) #[.agg #[.slice p0 p1 p2, .slice b0 b1 b2]] #[]] 68)) [(41, [.slice u0 u1 u2, .slice v0 v1 v2, .bool jnf]), (41, [.slice none 0 0, .slice none 0 0, .bool false])] [] []) := HF1.out.below HG2.out.bel
  generalize (w1.alloc (.cells #[.slice p0 p1 p2, .slice b0 b1 b2, .int .i64 s, .slice n0 n1 n2, .slice gx0 gx1 gx2, .slice gy0 gy1 gy2, .bool false, .func (.func 93) #[.agg #[.slice p0 p1 p2, .slice b0 b1 b2]] #[]] 68)) = w2 at *
  have C := has_v n0 gx0 gy0 n1 n2 gx1 gx2 gy1 gy2 (.slice p0 p1 p2) (.slice b0 b1 b2) (.func (.func 93) #[.agg #[.slice p0 p1 p2, .slice b0 b1 b2]] #[]) _ _ s p b U V w2 Hs.out ⟨_, _, _, rfl⟩ Hp (HG.out.1.below HG2.out.bel (Nat.le_refl _)) (HG.out.2.1.below HG2.out.bel (Nat.le_refl _)) (HN.out.1.below HF2.out.bel (Nat.le_refl _)) (HN.out.2.1.below HF2.out.bel (Nat.le_refl _)) jnf
  rw [ho] at C
  refine C.mono ?_
  clear C
  rintro e w3 ⟨rfl, hB⟩
  have HF3 : Hid (Fm w w3 [(41, [.slice u0 u1 u2, .slice v0 v1 v2, .bool jnf]), (41, [.slice none 0 0, .slice none 0 0, .bool false])] [] []) := HF2.out.below hB
  have HG3 : Hid (Fm w1 w3 [(68, [.slice p0 p1 p2, .slice b0 b1 b2, .int .i64 s, .slice n0 n1 n2, .slice gx0 gx1 gx2, .slice gy0 gy1 gy2, .bool false, .func (.func 93) #[.agg #[.slice p0 p1 p2, .slice b0 b1 b2]] #[]])] [] []) := HG2.out.below hB
  clear hB HF2 HG2
  have C1 := large11_v _ A w3 (HN.out.2.2.1.1.below HF3.out.bel (Nat.le_refl _))
  rw [decide_eq_false hA] at C1
  have C2 := large11_v _ B w3 (HN.out.2.2.2.1.below HF3.out.bel (Nat.le_refl _))
  rw [decide_eq_false hBl] at C2
  go_wp2_with fail
  refine C1.mono ?_
  rintro e w4 ⟨rfl, rfl⟩
  go_wp2_with fail
  refine C2.mono ?_
  rintro e w4 ⟨rfl, rfl⟩
  clear C1 C2
  go_wp2_with fail
  have HF3d : Hid (Fm w w4.drew [(41, [.slice u0 u1 u2, .slice v0 v1 v2, .bool jnf]), (41, [.slice none 0 0, .slice none 0 0, .bool false])] [] []) := HF3.out.drew
  have HG3d : Hid (Fm w1 w4.drew [(68, [.slice p0 p1 p2, .slice b0 b1 b2, .int .i64 s, .slice n0 n1 n2, .slice gx0 gx1 gx2, .slice gy0 gy1 gy2, .bool false, .func (.func 93) #[.agg #[.slice p0 p1 p2, .slice b0 b1 b2]] #[]])] [] []) := HG3.out.drew
  refine wp_region_K 12 (fun (w' : World) => w'.cell? ⟨w1.heap.size, 0, none⟩ = some (.slice p0 p1 p2) ∧ w'.cell? ⟨w1.heap.size, 1, none⟩ = some (.slice b0 b1 b2) ∧ w'.cell? ⟨w1.heap.size, 2, none⟩ = some (.int .i64 s) ∧ w'.cell? ⟨w1.heap.size, 3, none⟩ = some (.slice n0 n1 n2) ∧ w'.cell? ⟨w1.heap.size, 4, none⟩ = some (.slice gx0 gx1 gx2) ∧ w'.cell? ⟨w1.heap.size, 5, none⟩ = some (.slice gy0 gy1 gy2) ∧ w'.cell? ⟨w1.heap.size, 6, none⟩ = some (.bool false) ∧ w'.cell? ⟨w1.heap.size, 7, none⟩ = some (.func (.func 93) #[.agg #[.slice p0 p1 p2, .slice b0 b1 b2]] #[]) ∧ w'.cell? ⟨w.heap.size, 0, none⟩ = some (.slice u0 u1 u2) ∧ w'.cell? ⟨w.heap.size, 1, none⟩ = some (.slice v0 v1 v2) ∧ w'.cell? ⟨w.heap.size, 2, none⟩ = some (.bool jnf)) (by kernel_rfl) ?_
  have hHeld : ((fun (w' : World) => w'.cell? ⟨w1.heap.size, 0, none⟩ = some (.slice p0 p1 p2) ∧ w'.cell? ⟨w1.heap.size, 1, none⟩ = some (.slice b0 b1 b2) ∧ w'.cell? ⟨w1.heap.size, 2, none⟩ = some (.int .i64 s) ∧ w'.cell? ⟨w1.heap.size, 3, none⟩ = some (.slice n0 n1 n2) ∧ w'.cell? ⟨w1.heap.size, 4, none⟩ = some (.slice gx0 gx1 gx2) ∧ w'.cell? ⟨w1.heap.size, 5, none⟩ = some (.slice gy0 gy1 gy2) ∧ w'.cell? ⟨w1.heap.size, 6, none⟩ = some (.bool false) ∧ w'.cell? ⟨w1.heap.size, 7, none⟩ = some (.func (.func 93) #[.agg #[.slice p0 p1 p2, .slice b0 b1 b2]] #[]) ∧ w'.cell? ⟨w.heap.size, 0, none⟩ = some (.slice u0 u1 u2) ∧ w'.cell? ⟨w.heap.size, 1, none⟩ = some (.slice v0 v1 v2) ∧ w'.cell? ⟨w.heap.size, 2, none⟩ = some (.bool jnf))) (World.drew _) := ⟨HG3d.out.cell 0 0 (Nat.le_of_ble_eq_true rfl) (Nat.le_of_ble_eq_true rfl), HG3d.out.cell 0 1 (Nat.le_of_ble_eq_true rfl) (Nat.le_of_ble_eq_true rfl), HG3d.out.cell 0 2 (Nat.le_of_ble_eq_true rfl) (Nat.le_of_ble_eq_true rfl), HG3d.out.cell 0 3 (Nat.le_of_ble_eq_true rfl) (Nat.le_of_ble_eq_true rfl), HG3d.out.cell 0 4 (Nat.le_of_ble_eq_true rfl) (Nat.le_of_ble_eq_true rfl), HG3d.out.cell 0 5 (Nat.le_of_ble_eq_true rfl) (Nat.le_of_ble_eq_true rfl), HG3d.out.cell 0 6 (Nat.le_of_ble_eq_true rfl) (Nat.le_of_ble_eq_true rfl), HG3d.out.cell 0 7 (Nat.le_of_ble_eq_true rfl) (Nat.le_of_ble_eq_true rfl), HF3d.out.cell 0 0 (Nat.le_of_ble_eq_true rfl) (Nat.le_of_ble_eq_true rfl), HF3d.out.cell 0 1 (Nat.le_of_ble_eq_true rfl) (Nat.le_of_ble_eq_true rfl), HF3d.out.cell 0 2 (Nat.le_of_ble_eq_true rfl) (Nat.le_of_ble_eq_true rfl)⟩
  refine wpAnyK_take0 0 (v := ?v46) rfl (by kernel_rfl) (fun _ _ _ h => h) (Or.inl ⟨by rfl, ?hy46⟩) (fun _ => hHeld) ?_
  case hy46 => (intro w hSw; go_simp; try with_reducible rfl)
  try simp only [Act.put, List.setIfInBounds_toArray, List.set_cons_zero, List.set_cons_succ]
  refine wpAnyK_take 1 [11, 12] (v := ?v47) rfl (by kernel_rfl) (fun _ _ _ h => h) (Or.inl ⟨by rfl, ?hy47⟩) hHeld ?_
  case hy47 => (intro w hSw; (try dsimp only at hSw); go_simp; try with_reducible rfl)
  try simp only [Act.put, List.setIfInBounds_toArray, List.set_cons_zero, List.set_cons_succ]
  refine wpAnyK_take 2 [10, 11, 12] (v := ?v48) rfl (by kernel_rfl) (fun _ _ _ h => h) (Or.inl ⟨by rfl, ?hy48⟩) hHeld ?_
  case hy48 => (intro w hSw; (try dsimp only at hSw); go_simp; try with_reducible rfl)
  try simp only [Act.put, List.setIfInBounds_toArray, List.set_cons_zero, List.set_cons_succ]
  refine wpAnyK_take0 3 (v := ?v49) rfl (by kernel_rfl) (fun _ _ _ h => h) (Or.inl ⟨by rfl, ?hy49⟩) (fun _ => hHeld) ?_
  case hy49 => (intro w hSw; go_simp; try with_reducible rfl)
  try simp only [Act.put, List.setIfInBounds_toArray, List.set_cons_zero, List.set_cons_succ]
  refine wpAnyK_take0 4 (v := ?v50) rfl (by kernel_rfl) (fun _ _ _ h => h) (Or.inl ⟨by rfl, ?hy50⟩) (fun _ => hHeld) ?_
  case hy50 => (intro w hSw; go_simp; try with_reducible rfl)
  try simp only [Act.put, List.setIfInBounds_toArray, List.set_cons_zero, List.set_cons_succ]
  refine wpAnyK_take0 5 (v := ?v51) rfl (by kernel_rfl) (fun _ _ _ h => h) (Or.inl ⟨by rfl, ?hy51⟩) (fun _ => hHeld) ?_
  case hy51 => (intro w hSw; go_simp; try with_reducible rfl)
  try simp only [Act.put, List.setIfInBounds_toArray, List.set_cons_zero, List.set_cons_succ]
  refine wpAnyK_take 6 [7, 9, 10, 11, 12] (v := ?v52) rfl (by kernel_rfl) (fun _ _ _ h => h) (Or.inl ⟨by rfl, ?hy52⟩) hHeld ?_
  case hy52 => (intro w hSw; (try dsimp only at hSw); go_simp; try with_reducible rfl)
  try simp only [Act.put, List.setIfInBounds_toArray, List.set_cons_zero, List.set_cons_succ]
  refine wpAnyK_take 8 [9, 10, 11, 12] (v := ?v53) rfl (by kernel_rfl) (fun _ _ _ h => h) (Or.inl ⟨by rfl, ?hy53⟩) hHeld ?_
  case hy53 => (intro w hSw; (try dsimp only at hSw); go_simp; try with_reducible rfl)
  try simp only [Act.put, List.setIfInBounds_toArray, List.set_cons_zero, List.set_cons_succ]
  refine wpAnyK_step 7 rfl (by kernel_rfl) (fun K hK => ?_)
  go_simp
  refine (asRatio_P p b _ _ gx gy false _ Hp.out hk.base_on (HG.out.2.2.2.1.below HG3d.out.bel (Nat.le_refl _)).1 (HG.out.2.2.2.2.below HG3d.out.bel (Nat.le_refl _)).1).mono ?_
  rintro e w5 ⟨q1, X1, Y1, Z1, rfl, t1, hR1, hB⟩
  have HF5 : Hid (Fm w w5 [(41, [.slice u0 u1 u2, .slice v0 v1 v2, .bool jnf]), (41, [.slice none 0 0, .slice none 0 0, .bool false])] [] []) := HF3d.out.below hB
  have HG5 : Hid (Fm w1 w5 [(68, [.slice p0 p1 p2, .slice b0 b1 b2, .int .i64 s, .slice n0 n1 n2, .slice gx0 gx1 gx2, .slice gy0 gy1 gy2, .bool false, .func (.func 93) #[.agg #[.slice p0 p1 p2, .slice b0 b1 b2]] #[]])] [] []) := HG3d.out.below hB
  have HR1 : Hid (Rp p X1 Y1 Z1 (.A gx gy)) := hR1
  have HT1 : Hid (Rt w5 q1 X1 Y1 Z1) := t1
  clear hB t1 hR1
  try dsimp only
  refine hK.out _ _ ?hk54 ?_
  case hk54 => exact fun _ => ⟨HG5.out.cell 0 0 (Nat.le_of_ble_eq_true rfl) (Nat.le_of_ble_eq_true rfl), HG5.out.cell 0 1 (Nat.le_of_ble_eq_true rfl) (Nat.le_of_ble_eq_true rfl), HG5.out.cell 0 2 (Nat.le_of_ble_eq_true rfl) (Nat.le_of_ble_eq_true rfl), HG5.out.cell 0 3 (Nat.le_of_ble_eq_true rfl) (Nat.le_of_ble_eq_true rfl), HG5.out.cell 0 4 (Nat.le_of_ble_eq_true rfl) (Nat.le_of_ble_eq_true rfl), HG5.out.cell 0 5 (Nat.le_of_ble_eq_true rfl) (Nat.le_of_ble_eq_true rfl), HG5.out.cell 0 6 (Nat.le_of_ble_eq_true rfl) (Nat.le_of_ble_eq_true rfl), HG5.out.cell 0 7 (Nat.le_of_ble_eq_true rfl) (Nat.le_of_ble_eq_true rfl), HF5.out.cell 0 0 (Nat.le_of_ble_eq_true rfl) (Nat.le_of_ble_eq_true rfl), HF5.out.cell 0 1 (Nat.le_of_ble_eq_true rfl) (Nat.le_of_ble_eq_true rfl), HF5.out.cell 0 2 (Nat.le_of_ble_eq_true rfl) (Nat.le_of_ble_eq_true rfl)⟩
  have hHeld : ((fun (w' : World) => w'.cell? ⟨w1.heap.size, 0, none⟩ = some (.slice p0 p1 p2) ∧ w'.cell? ⟨w1.heap.size, 1, none⟩ = some (.slice b0 b1 b2) ∧ w'.cell? ⟨w1.heap.size, 2, none⟩ = some (.int .i64 s) ∧ w'.cell? ⟨w1.heap.size, 3, none⟩ = some (.slice n0 n1 n2) ∧ w'.cell? ⟨w1.heap.size, 4, none⟩ = some (.slice gx0 gx1 gx2) ∧ w'.cell? ⟨w1.heap.size, 5, none⟩ = some (.slice gy0 gy1 gy2) ∧ w'.cell? ⟨w1.heap.size, 6, none⟩ = some (.bool false) ∧ w'.cell? ⟨w1.heap.size, 7, none⟩ = some (.func (.func 93) #[.agg #[.slice p0 p1 p2, .slice b0 b1 b2]] #[]) ∧ w'.cell? ⟨w.heap.size, 0, none⟩ = some (.slice u0 u1 u2) ∧ w'.cell? ⟨w.heap.size, 1, none⟩ = some (.slice v0 v1 v2) ∧ w'.cell? ⟨w.heap.size, 2, none⟩ = some (.bool jnf))) _ := ⟨HG5.out.cell 0 0 (Nat.le_of_ble_eq_true rfl) (Nat.le_of_ble_eq_true rfl), HG5.out.cell 0 1 (Nat.le_of_ble_eq_true rfl) (Nat.le_of_ble_eq_true rfl), HG5.out.cell 0 2 (Nat.le_of_ble_eq_true rfl) (Nat.le_of_ble_eq_true rfl), HG5.out.cell 0 3 (Nat.le_of_ble_eq_true rfl) (Nat.le_of_ble_eq_true rfl), HG5.out.cell 0 4 (Nat.le_of_ble_eq_true rfl) (Nat.le_of_ble_eq_true rfl), HG5.out.cell 0 5 (Nat.le_of_ble_eq_true rfl) (Nat.le_of_ble_eq_true rfl), HG5.out.cell 0 6 (Nat.le_of_ble_eq_true rfl) (Nat.le_of_ble_eq_true rfl), HG5.out.cell 0 7 (Nat.le_of_ble_eq_true rfl) (Nat.le_of_ble_eq_true rfl), HF5.out.cell 0 0 (Nat.le_of_ble_eq_true rfl) (Nat.le_of_ble_eq_true rfl), HF5.out.cell 0 1 (Nat.le_of_ble_eq_true rfl) (Nat.le_of_ble_eq_true rfl), HF5.out.cell 0 2 (Nat.le_of_ble_eq_true rfl) (Nat.le_of_ble_eq_true rfl)⟩
  clear hK K
  try simp only [Act.put, List.setIfInBounds_toArray, List.set_cons_zero, List.set_cons_succ]
  refine wpAnyK_step 9 rfl (by kernel_rfl) (fun K hK => ?_)
  go_simp
  refine (asRatio_P p b _ _ U V jnf _ Hp.out ho (HN.out.1.below HF5.out.bel (Nat.le_refl _)) (HN.out.2.1.below HF5.out.bel (Nat.le_refl _))).mono ?_
  rintro e w6 ⟨q2, X2, Y2, Z2, rfl, t2, hR2, hB⟩
  have HF6 : Hid (Fm w w6 [(41, [.slice u0 u1 u2, .slice v0 v1 v2, .bool jnf]), (41, [.slice none 0 0, .slice none 0 0, .bool false])] [] []) := HF5.out.below hB
  have HG6 : Hid (Fm w1 w6 [(68, [.slice p0 p1 p2, .slice b0 b1 b2, .int .i64 s, .slice n0 n1 n2, .slice gx0 gx1 gx2, .slice gy0 gy1 gy2, .bool false, .func (.func 93) #[.agg #[.slice p0 p1 p2, .slice b0 b1 b2]] #[]])] [] []) := HG5.out.below hB
  have HR2 : Hid (Rp p X2 Y2 Z2 (ptO U V jnf)) := hR2
  have HT2 : Hid (Rt w6 q1 X1 Y1 Z1 ∧ Rt w6 q2 X2 Y2 Z2) := ⟨HT1.out.below hB (Nat.le_refl _), t2⟩
  clear hB t2 hR2
  try dsimp only
  refine hK.out _ _ ?hk55 ?_
  case hk55 => exact fun _ => ⟨HG6.out.cell 0 0 (Nat.le_of_ble_eq_true rfl) (Nat.le_of_ble_eq_true rfl), HG6.out.cell 0 1 (Nat.le_of_ble_eq_true rfl) (Nat.le_of_ble_eq_true rfl), HG6.out.cell 0 2 (Nat.le_of_ble_eq_true rfl) (Nat.le_of_ble_eq_true rfl), HG6.out.cell 0 3 (Nat.le_of_ble_eq_true rfl) (Nat.le_of_ble_eq_true rfl), HG6.out.cell 0 4 (Nat.le_of_ble_eq_true rfl) (Nat.le_of_ble_eq_true rfl), HG6.out.cell 0 5 (Nat.le_of_ble_eq_true rfl) (Nat.le_of_ble_eq_true rfl), HG6.out.cell 0 6 (Nat.le_of_ble_eq_true rfl) (Nat.le_of_ble_eq_true rfl), HG6.out.cell 0 7 (Nat.le_of_ble_eq_true rfl) (Nat.le_of_ble_eq_true rfl), HF6.out.cell 0 0 (Nat.le_of_ble_eq_true rfl) (Nat.le_of_ble_eq_true rfl), HF6.out.cell 0 1 (Nat.le_of_ble_eq_true rfl) (Nat.le_of_ble_eq_true rfl), HF6.out.cell 0 2 (Nat.le_of_ble_eq_true rfl) (Nat.le_of_ble_eq_true rfl)⟩
  have hHeld : ((fun (w' : World) => w'.cell? ⟨w1.heap.size, 0, none⟩ = some (.slice p0 p1 p2) ∧ w'.cell? ⟨w1.heap.size, 1, none⟩ = some (.slice b0 b1 b2) ∧ w'.cell? ⟨w1.heap.size, 2, none⟩ = some (.int .i64 s) ∧ w'.cell? ⟨w1.heap.size, 3, none⟩ = some (.slice n0 n1 n2) ∧ w'.cell? ⟨w1.heap.size, 4, none⟩ = some (.slice gx0 gx1 gx2) ∧ w'.cell? ⟨w1.heap.size, 5, none⟩ = some (.slice gy0 gy1 gy2) ∧ w'.cell? ⟨w1.heap.size, 6, none⟩ = some (.bool false) ∧ w'.cell? ⟨w1.heap.size, 7, none⟩ = some (.func (.func 93) #[.agg #[.slice p0 p1 p2, .slice b0 b1 b2]] #[]) ∧ w'.cell? ⟨w.heap.size, 0, none⟩ = some (.slice u0 u1 u2) ∧ w'.cell? ⟨w.heap.size, 1, none⟩ = some (.slice v0 v1 v2) ∧ w'.cell? ⟨w.heap.size, 2, none⟩ = some (.bool jnf))) _ := ⟨HG6.out.cell 0 0 (Nat.le_of_ble_eq_true rfl) (Nat.le_of_ble_eq_true rfl), HG6.out.cell 0 1 (Nat.le_of_ble_eq_true rfl) (Nat.le_of_ble_eq_true rfl), HG6.out.cell 0 2 (Nat.le_of_ble_eq_true rfl) (Nat.le_of_ble_eq_true rfl), HG6.out.cell 0 3 (Nat.le_of_ble_eq_true rfl) (Nat.le_of_ble_eq_true rfl), HG6.out.cell 0 4 (Nat.le_of_ble_eq_true rfl) (Nat.le_of_ble_eq_true rfl), HG6.out.cell 0 5 (Nat.le_of_ble_eq_true rfl) (Nat.le_of_ble_eq_true rfl), HG6.out.cell 0 6 (Nat.le_of_ble_eq_true rfl) (Nat.le_of_ble_eq_true rfl), HG6.out.cell 0 7 (Nat.le_of_ble_eq_true rfl) (Nat.le_of_ble_eq_true rfl), HF6.out.cell 0 0 (Nat.le_of_ble_eq_true rfl) (Nat.le_of_ble_eq_true rfl), HF6.out.cell 0 1 (Nat.le_of_ble_eq_true rfl) (Nat.le_of_ble_eq_true rfl), HF6.out.cell 0 2 (Nat.le_of_ble_eq_true rfl) (Nat.le_of_ble_eq_true rfl)⟩
  clear hK K
  try simp only [Act.put, List.setIfInBounds_toArray, List.set_cons_zero, List.set_cons_succ]
  refine wpAnyK_step 10 rfl (by kernel_rfl) (fun K hK => ?_)
  go_simp
  refine (ladder_v hk (.slice p0 p1 p2) (.slice b0 b1 b2) (.slice n0 n1 n2) (.slice gx0 gx1 gx2) (.slice gy0 gy1 gy2) (.slice a0 a1 a2) (.slice d0 d1 d2) q1 q2 A B X1 Y1 Z1 X2 Y2 Z2 (.A gx gy) (ptO U V jnf) _ (HG.out.1.below HG6.out.bel (Nat.le_refl _)) (HG.out.2.1.below HG6.out.bel (Nat.le_refl _)) (HG.out.2.2.1.below HG6.out.bel (Nat.le_refl _)) ⟨_, _, _, rfl⟩ ⟨_, _, _, rfl⟩ (HN.out.2.2.1.below HF6.out.bel (Nat.le_refl _)) (HN.out.2.2.2.below HF6.out.bel (Nat.le_refl _)) HT2.out.1 HT2.out.2 HR1.out HR2.out ((onB_iff Hp.out).1 hk.base_on).1 ((onB_iff Hp.out).1 ho).1).mono ?_
  rintro e w7 ⟨q3, X3, Y3, Z3, rfl, t3, hR3, hB⟩
  have HF7 : Hid (Fm w w7 [(41, [.slice u0 u1 u2, .slice v0 v1 v2, .bool jnf]), (41, [.slice none 0 0, .slice none 0 0, .bool false])] [] []) := HF6.out.below hB
  have HG7 : Hid (Fm w1 w7 [(68, [.slice p0 p1 p2, .slice b0 b1 b2, .int .i64 s, .slice n0 n1 n2, .slice gx0 gx1 gx2, .slice gy0 gy1 gy2, .bool false, .func (.func 93) #[.agg #[.slice p0 p1 p2, .slice b0 b1 b2]] #[]])] [] []) := HG6.out.below hB
  have HT3 : Hid (Rt w7 q3 X3 Y3 Z3) := t3.rt
  have HR3 : Hid (Rp p X3 Y3 Z3 (sm p (ml p (A % n) (.A gx gy)) (ml p (B % n) (ptO U V jnf)))) := hR3
  clear hB t3 hR3
  try dsimp only
  refine hK.out _ _ ?hk56 ?_
  case hk56 => exact fun _ => ⟨HG7.out.cell 0 0 (Nat.le_of_ble_eq_true rfl) (Nat.le_of_ble_eq_true rfl), HG7.out.cell 0 1 (Nat.le_of_ble_eq_true rfl) (Nat.le_of_ble_eq_true rfl), HG7.out.cell 0 2 (Nat.le_of_ble_eq_true rfl) (Nat.le_of_ble_eq_true rfl), HG7.out.cell 0 3 (Nat.le_of_ble_eq_true rfl) (Nat.le_of_ble_eq_true rfl), HG7.out.cell 0 4 (Nat.le_of_ble_eq_true rfl) (Nat.le_of_ble_eq_true rfl), HG7.out.cell 0 5 (Nat.le_of_ble_eq_true rfl) (Nat.le_of_ble_eq_true rfl), HG7.out.cell 0 6 (Nat.le_of_ble_eq_true rfl) (Nat.le_of_ble_eq_true rfl), HG7.out.cell 0 7 (Nat.le_of_ble_eq_true rfl) (Nat.le_of_ble_eq_true rfl), HF7.out.cell 0 0 (Nat.le_of_ble_eq_true rfl) (Nat.le_of_ble_eq_true rfl), HF7.out.cell 0 1 (Nat.le_of_ble_eq_true rfl) (Nat.le_of_ble_eq_true rfl), HF7.out.cell 0 2 (Nat.le_of_ble_eq_true rfl) (Nat.le_of_ble_eq_true rfl)⟩
  have hHeld : ((fun (w' : World) => w'.cell? ⟨w1.heap.size, 0, none⟩ = some (.slice p0 p1 p2) ∧ w'.cell? ⟨w1.heap.size, 1, none⟩ = some (.slice b0 b1 b2) ∧ w'.cell? ⟨w1.heap.size, 2, none⟩ = some (.int .i64 s) ∧ w'.cell? ⟨w1.heap.size, 3, none⟩ = some (.slice n0 n1 n2) ∧ w'.cell? ⟨w1.heap.size, 4, none⟩ = some (.slice gx0 gx1 gx2) ∧ w'.cell? ⟨w1.heap.size, 5, none⟩ = some (.slice gy0 gy1 gy2) ∧ w'.cell? ⟨w1.heap.size, 6, none⟩ = some (.bool false) ∧ w'.cell? ⟨w1.heap.size, 7, none⟩ = some (.func (.func 93) #[.agg #[.slice p0 p1 p2, .slice b0 b1 b2]] #[]) ∧ w'.cell? ⟨w.heap.size, 0, none⟩ = some (.slice u0 u1 u2) ∧ w'.cell? ⟨w.heap.size, 1, none⟩ = some (.slice v0 v1 v2) ∧ w'.cell? ⟨w.heap.size, 2, none⟩ = some (.bool jnf))) _ := ⟨HG7.out.cell 0 0 (Nat.le_of_ble_eq_true rfl) (Nat.le_of_ble_eq_true rfl), HG7.out.cell 0 1 (Nat.le_of_ble_eq_true rfl) (Nat.le_of_ble_eq_true rfl), HG7.out.cell 0 2 (Nat.le_of_ble_eq_true rfl) (Nat.le_of_ble_eq_true rfl), HG7.out.cell 0 3 (Nat.le_of_ble_eq_true rfl) (Nat.le_of_ble_eq_true rfl), HG7.out.cell 0 4 (Nat.le_of_ble_eq_true rfl) (Nat.le_of_ble_eq_true rfl), HG7.out.cell 0 5 (Nat.le_of_ble_eq_true rfl) (Nat.le_of_ble_eq_true rfl), HG7.out.cell 0 6 (Nat.le_of_ble_eq_true rfl) (Nat.le_of_ble_eq_true rfl), HG7.out.cell 0 7 (Nat.le_of_ble_eq_true rfl) (Nat.le_of_ble_eq_true rfl), HF7.out.cell 0 0 (Nat.le_of_ble_eq_true rfl) (Nat.le_of_ble_eq_true rfl), HF7.out.cell 0 1 (Nat.le_of_ble_eq_true rfl) (Nat.le_of_ble_eq_true rfl), HF7.out.cell 0 2 (Nat.le_of_ble_eq_true rfl) (Nat.le_of_ble_eq_true rfl)⟩
  clear hK K
  try simp only [Act.put, List.setIfInBounds_toArray, List.set_cons_zero, List.set_cons_succ]
  refine wpAnyK_step 11 rfl (by kernel_rfl) (fun K hK => ?_)
  go_simp
  refine (point_P (.slice p0 p1 p2) (.slice b0 b1 b2) q3 p b _ _ _ (sm p (ml p (A % n) (.A gx gy)) (ml p (B % n) (ptO U V jnf))) w7 hk.cv Hp.out (HG.out.1.below HG7.out.bel (Nat.le_refl _)) (HG.out.2.1.below HG7.out.bel (Nat.le_refl _)) HT3.out HR3.out (hk.cv.son (hk.cv.mon ((onB_iff Hp.out).1 hk.base_on).1 _) (hk.cv.mon ((onB_iff Hp.out).1 ho).1 _))).mono ?_
  rintro e w8 ⟨q4, rfl, hPa⟩
  have hB := hPa.bel
  have HF8 : Hid (Fm w w8 [(41, [.slice u0 u1 u2, .slice v0 v1 v2, .bool jnf]), (41, [.slice none 0 0, .slice none 0 0, .bool false])] [] []) := HF7.out.below hB
  have HG8 : Hid (Fm w1 w8 [(68, [.slice p0 p1 p2, .slice b0 b1 b2, .int .i64 s, .slice n0 n1 n2, .slice gx0 gx1 gx2, .slice gy0 gy1 gy2, .bool false, .func (.func 93) #[.agg #[.slice p0 p1 p2, .slice b0 b1 b2]] #[]])] [] []) := HG7.out.below hB
  have HPa : Hid (Pa w7 w8 q4 (sm p (ml p (A % n) (.A gx gy)) (ml p (B % n) (ptO U V jnf)))) := hPa
  clear hB hPa
  try dsimp only
  refine hK.out _ _ ?hk57 ?_
  case hk57 => exact fun _ => ⟨HG8.out.cell 0 0 (Nat.le_of_ble_eq_true rfl) (Nat.le_of_ble_eq_true rfl), HG8.out.cell 0 1 (Nat.le_of_ble_eq_true rfl) (Nat.le_of_ble_eq_true rfl), HG8.out.cell 0 2 (Nat.le_of_ble_eq_true rfl) (Nat.le_of_ble_eq_true rfl), HG8.out.cell 0 3 (Nat.le_of_ble_eq_true rfl) (Nat.le_of_ble_eq_true rfl), HG8.out.cell 0 4 (Nat.le_of_ble_eq_true rfl) (Nat.le_of_ble_eq_true rfl), HG8.out.cell 0 5 (Nat.le_of_ble_eq_true rfl) (Nat.le_of_ble_eq_true rfl), HG8.out.cell 0 6 (Nat.le_of_ble_eq_true rfl) (Nat.le_of_ble_eq_true rfl), HG8.out.cell 0 7 (Nat.le_of_ble_eq_true rfl) (Nat.le_of_ble_eq_true rfl), HF8.out.cell 0 0 (Nat.le_of_ble_eq_true rfl) (Nat.le_of_ble_eq_true rfl), HF8.out.cell 0 1 (Nat.le_of_ble_eq_true rfl) (Nat.le_of_ble_eq_true rfl), HF8.out.cell 0 2 (Nat.le_of_ble_eq_true rfl) (Nat.le_of_ble_eq_true rfl)⟩
  have hHeld : ((fun (w' : World) => w'.cell? ⟨w1.heap.size, 0, none⟩ = some (.slice p0 p1 p2) ∧ w'.cell? ⟨w1.heap.size, 1, none⟩ = some (.slice b0 b1 b2) ∧ w'.cell? ⟨w1.heap.size, 2, none⟩ = some (.int .i64 s) ∧ w'.cell? ⟨w1.heap.size, 3, none⟩ = some (.slice n0 n1 n2) ∧ w'.cell? ⟨w1.heap.size, 4, none⟩ = some (.slice gx0 gx1 gx2) ∧ w'.cell? ⟨w1.heap.size, 5, none⟩ = some (.slice gy0 gy1 gy2) ∧ w'.cell? ⟨w1.heap.size, 6, none⟩ = some (.bool false) ∧ w'.cell? ⟨w1.heap.size, 7, none⟩ = some (.func (.func 93) #[.agg #[.slice p0 p1 p2, .slice b0 b1 b2]] #[]) ∧ w'.cell? ⟨w.heap.size, 0, none⟩ = some (.slice u0 u1 u2) ∧ w'.cell? ⟨w.heap.size, 1, none⟩ = some (.slice v0 v1 v2) ∧ w'.cell? ⟨w.heap.size, 2, none⟩ = some (.bool jnf))) _ := ⟨HG8.out.cell 0 0 (Nat.le_of_ble_eq_true rfl) (Nat.le_of_ble_eq_true rfl), HG8.out.cell 0 1 (Nat.le_of_ble_eq_true rfl) (Nat.le_of_ble_eq_true rfl), HG8.out.cell 0 2 (Nat.le_of_ble_eq_true rfl) (Nat.le_of_ble_eq_true rfl), HG8.out.cell 0 3 (Nat.le_of_ble_eq_true rfl) (Nat.le_of_ble_eq_true rfl), HG8.out.cell 0 4 (Nat.le_of_ble_eq_true rfl) (Nat.le_of_ble_eq_true rfl), HG8.out.cell 0 5 (Nat.le_of_ble_eq_true rfl) (Nat.le_of_ble_eq_true rfl), HG8.out.cell 0 6 (Nat.le_of_ble_eq_true rfl) (Nat.le_of_ble_eq_true rfl), HG8.out.cell 0 7 (Nat.le_of_ble_eq_true rfl) (Nat.le_of_ble_eq_true rfl), HF8.out.cell 0 0 (Nat.le_of_ble_eq_true rfl) (Nat.le_of_ble_eq_true rfl), HF8.out.cell 0 1 (Nat.le_of_ble_eq_true rfl) (Nat.le_of_ble_eq_true rfl), HF8.out.cell 0 2 (Nat.le_of_ble_eq_true rfl) (Nat.le_of_ble_eq_true rfl)⟩
  clear hK K
  try simp only [Act.put, List.setIfInBounds_toArray, List.set_cons_zero, List.set_cons_succ]
  obtain ⟨r0, r1, r2, t0, t1, t2, jf, rfl⟩ := HPa.out.shape
  have c10 : w8.cell? ⟨w.heap.size + 1, 0, none⟩ = some (.slice none 0 0) := HF8.out.cell 1 0 (Nat.le_of_ble_eq_true rfl) (Nat.le_of_ble_eq_true rfl)
  have c11 : w8.cell? ⟨w.heap.size + 1, 1, none⟩ = some (.slice none 0 0) := HF8.out.cell 1 1 (Nat.le_of_ble_eq_true rfl) (Nat.le_of_ble_eq_true rfl)
  have c12 : w8.cell? ⟨w.heap.size + 1, 2, none⟩ = some (.bool false) := HF8.out.cell 1 2 (Nat.le_of_ble_eq_true rfl) (Nat.le_of_ble_eq_true rfl)
  have f0 : w8.frozen? ⟨w.heap.size + 1, 0, none⟩ = false := HF8.out.frozen 1 0 (Nat.le_of_ble_eq_true rfl)
  have f1 : w8.frozen? ⟨w.heap.size + 1, 1, none⟩ = false := HF8.out.frozen 1 1 (Nat.le_of_ble_eq_true rfl)
  have f2 : w8.frozen? ⟨w.heap.size + 1, 2, none⟩ = false := HF8.out.frozen 1 2 (Nat.le_of_ble_eq_true rfl)
  refine wpAnyK_step 12 rfl (by kernel_rfl) (fun K hK => ?_)
  go_simp
  refine hK.out _ _ ?hk59 ?_
  case hk59 => exact (fun h => nomatch (h.symm.trans (show _ = true by kernel_rfl)))
  clear hK K
  try simp only [Act.put, List.setIfInBounds_toArray, List.set_cons_zero, List.set_cons_succ]
  refine wpAnyK_take0 13 (v := ?v60) rfl (by kernel_rfl) (fun _ _ _ h => h) (Or.inl ⟨by rfl, ?hy60⟩) (fun h => nomatch (h.symm.trans (show _ = true by kernel_rfl))) ?_
  case hy60 => (intro w hSw; go_simp; try with_reducible rfl)
  try simp only [Act.put, List.setIfInBounds_toArray, List.set_cons_zero, List.set_cons_succ]
  refine wpAnyK_done (by kernel_rfl) ?_ _
  go_wp2
  (try simp only [Exit.inBlock, Exit.then])
  have hb := (((But.refl w8 (w.heap.size + 1)).set 0 (.slice r0 r1 r2)).set 1 (.slice t0 t1 t2)).set 2 (.bool jf)
  have hsz := HF7.out.sz
  simp only [List.length_cons, List.length_nil] at hsz
  refine bodyPost_ret (v := .tuple #[.agg #[.slice r0 r1 r2, .slice t0 t1 t2, .bool jf], .int .i64 0]) ?_ rfl ⟨_, rfl, HPa.out.later HF7.out.bel hb (by omega) (by omega)⟩
  rw [results_cell_tmp rfl]; go_simp
set_option maxHeartbeats 8000000 in
theorem mul_ok {c s : Int} {p b n gx gy : Nat} (hk : Kv c p b n gx gy s) (dv u v : Value) (B U V : Nat) (jnf : Bool) (w : World) (hd : Nu w dv B) (hu : Nu w u U) (hv : Nu w v V) (ho : onB p b U V jnf = true) (hBl : ¬ 1024 < bl B) :
    Calls Tryz.prog 23 #[.int .i64 c, dv, .agg #[u, v, .bool jnf]] w fun e w' => ∃ r, e = .returned (.tuple #[r, .int .i64 0]) ∧ Pa w w' r (ml p (B % n) (ptO U V jnf)) := by
  obtain ⟨u0, u1, u2, rfl⟩ := hu.shape
  obtain ⟨v0, v1, v2, rfl⟩ := hv.shape
  obtain ⟨d0, d1, d2, rfl⟩ := hd.shape
  have HF0 : Hid (Fm w ((w.alloc (.cells #[.slice u0 u1 u2, .slice v0 v1 v2, .bool jnf] 41)).alloc (.cells #[.slice none 0 0, .slice none 0 0, .bool false] 41)) [(41, [.slice u0 u1 u2, .slice v0 v1 v2, .bool jnf]), (41, [.slice none 0 0, .slice none 0 0, .bool false])] [] []) := (((Fm.nil (w := w) (A := []) ar_nil).push (by simp) 41 [.slice u0 u1 u2, .slice v0 v1 v2, .bool jnf]).push (by simp) 41 [.slice none 0 0, .slice none 0 0, .bool false])
  have hbl := HF0.out.bel
  have C := joint_ok hk (.slice none 0 0) (.slice d0 d1 d2) _ _ 0 B U V jnf _ (Nk.none _ 384).1 (hd.below hbl (Nat.le_refl _)) (hu.below hbl (Nat.le_refl _)) (hv.below hbl (Nat.le_refl _)) ho (by decide) hBl
  have hoP := ((onB_iff hk.pm).1 ho).1
  rw [Nat.zero_mod, show sm p (ml p 0 (.A gx gy)) (ml p (B % n) (ptO U V jnf)) = ml p (B % n) (ptO U V jnf) from hk.cv.zl (hk.cv.mon hoP _)] at C
  clear hd hu hv hbl hoP
  go_enter Tryz.func23, Tryz.ntmps23
  go_wp2_with fail
  generalize ((w.alloc (.cells #[.slice u0 u1 u2, .slice v0 v1 v2, .bool jnf] 41)).alloc (.cells #[.slice none 0 0, .slice none 0 0, .bool false] 41)) = w0 at *
  refine C.mono ?_
  clear C
  rintro e w1 ⟨r, rfl, hPa⟩
  have HF1 : Hid (Fm w w1 [(41, [.slice u0 u1 u2, .slice v0 v1 v2, .bool jnf]), (41, [.slice none 0 0, .slice none 0 0, .bool false])] [] []) := HF0.out.below hPa.bel
  have HPa : Hid (Pa w0 w1 r (ml p (B % n) (ptO U V jnf))) := hPa
  obtain ⟨r0, r1, r2, t0, t1, t2, jf, rfl⟩ := hPa.shape
  clear hPa
  have c10 : w1.cell? ⟨w.heap.size + 1, 0, none⟩ = some (.slice none 0 0) := HF1.out.cell 1 0 (Nat.le_of_ble_eq_true rfl) (Nat.le_of_ble_eq_true rfl)
  have c11 : w1.cell? ⟨w.heap.size + 1, 1, none⟩ = some (.slice none 0 0) := HF1.out.cell 1 1 (Nat.le_of_ble_eq_true rfl) (Nat.le_of_ble_eq_true rfl)
  have c12 : w1.cell? ⟨w.heap.size + 1, 2, none⟩ = some (.bool false) := HF1.out.cell 1 2 (Nat.le_of_ble_eq_true rfl) (Nat.le_of_ble_eq_true rfl)
  have f0 : w1.frozen? ⟨w.heap.size + 1, 0, none⟩ = false := HF1.out.frozen 1 0 (Nat.le_of_ble_eq_true rfl)
  have f1 : w1.frozen? ⟨w.heap.size + 1, 1, none⟩ = false := HF1.out.frozen 1 1 (Nat.le_of_ble_eq_true rfl)
  have f2 : w1.frozen? ⟨w.heap.size + 1, 2, none⟩ = false := HF1.out.frozen 1 2 (Nat.le_of_ble_eq_true rfl)
  go_wp2
  (try simp only [Exit.inBlock, Exit.then])
  have hb := (((But.refl w1 (w.heap.size + 1)).set 0 (.slice r0 r1 r2)).set 1 (.slice t0 t1 t2)).set 2 (.bool jf)
  have hsz := HF0.out.sz
  simp only [List.length_cons, List.length_nil] at hsz
  refine bodyPost_ret (v := .tuple #[.agg #[.slice r0 r1 r2, .slice t0 t1 t2, .bool jf], .int .i64 0]) ?_ rfl ⟨_, rfl, HPa.out.later HF0.out.bel hb (by omega) (by omega)⟩
  rw [results_cell_tmp rfl]; go_simp
end Go.Proofs.YtghfoppojdkhkaaGreatDoor
