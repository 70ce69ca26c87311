import Derived.Test.YtnifjhmjpbihoaaDoorCE
import Derived.Test.YtnifjhmjpbihoaaDoorCJ
namespace Go.Proofs.YtnifjhmjpbihoaaDoor
open Go.RowKit

set_option maxRecDepth 100000

set_option maxHeartbeats 8000000 in
theorem joint_none (c : Int) (h1 : c ≠ 1) (h2 : c ≠ 2) (av dv u v : Value) (A B U V : Nat) (jnf : Bool) (w : World) (ha : Nu w av A) (hd : Nu w dv B) (hu : Nu w u U) (hv : Nu w v V)  :
    Calls Tryd.prog 7 #[.int .i64 c, av, dv, .agg #[u, v, .bool jnf]] w fun e w' => e = .returned (.tuple #[.agg #[.slice none 0 0, .slice none 0 0, .bool false], .int .i64 93]) ∧ Below w.heap.size w w' := by
  obtain ⟨u0, u1, u2, rfl⟩ := hu.shape
  obtain ⟨v0, v1, v2, rfl⟩ := hv.shape
  obtain ⟨a0, a1, a2, rfl⟩ := ha.shape
  obtain ⟨d0, d1, d2, rfl⟩ := hd.shape
  have HN : Hid (Nu w (.slice u0 u1 u2) U ∧ Nu w (.slice v0 v1 v2) V ∧ Nu w (.slice a0 a1 a2) A ∧ Nu w (.slice d0 d1 d2) B) := ⟨hu, hv, ha, hd⟩
  have HF0 : Hid (Fm w ((w.alloc (.cells #[.slice u0 u1 u2, .slice v0 v1 v2, .bool jnf] 26)).alloc (.cells #[.slice none 0 0, .slice none 0 0, .bool false] 26)) [(26, [.slice u0 u1 u2, .slice v0 v1 v2, .bool jnf]), (26, [.slice none 0 0, .slice none 0 0, .bool false])] [] []) := (((Fm.nil (w := w) (A := []) ar_nil).push (by simp) 26 [.slice u0 u1 u2, .slice v0 v1 v2, .bool jnf]).push (by simp) 26 [.slice none 0 0, .slice none 0 0, .bool false])
  have hsf : ∀ (w : World) (a : Addr) (fn : Fn) (x y : Array Value), Sem.run Tryd.prog (store a (.func fn x y)) w = _ := fun w a fn x y => run_store Tryd.prog w a (.func fn x y) _ rfl
  have hsn : ∀ (w : World) (a : Addr), Sem.run Tryd.prog (store a .nilFunc) w = _ := fun w a => run_store Tryd.prog w a .nilFunc _ rfl
  clear hu hv ha hd
  go_enter Tryd.func7, Tryd.ntmps7
  go_wp2_with fail
  generalize ((w.alloc (.cells #[.slice u0 u1 u2, .slice v0 v1 v2, .bool jnf] 26)).alloc (.cells #[.slice none 0 0, .slice none 0 0, .bool false] 26)) = w0 at *
  refine (of_none c _ h1 h2).mono ?_
  rintro e w1 ⟨rfl, hB⟩
  have HF1 : Hid (Fm w w1 [(26, [.slice u0 u1 u2, .slice v0 v1 v2, .bool jnf]), (26, [.slice none 0 0, .slice none 0 0, .bool false])] [] []) := HF0.out.below hB
  clear hB HF0
  have a0' : ∀ o, (w1.alloc o).cell? ⟨w.heap.size, 0, none⟩ = some (.slice u0 u1 u2) := fun o => (World.cell?_alloc_lt _ _ _ (HF1.out.bx 0 (Nat.le_of_ble_eq_true rfl)).lt).trans (HF1.out.cell 0 0 (Nat.le_of_ble_eq_true rfl) (Nat.le_of_ble_eq_true rfl))
  have a1' : ∀ o, (w1.alloc o).cell? ⟨w.heap.size, 1, none⟩ = some (.slice v0 v1 v2) := fun o => (World.cell?_alloc_lt _ _ _ (HF1.out.bx 0 (Nat.le_of_ble_eq_true rfl)).lt).trans (HF1.out.cell 0 1 (Nat.le_of_ble_eq_true rfl) (Nat.le_of_ble_eq_true rfl))
  have a2' : ∀ o, (w1.alloc o).cell? ⟨w.heap.size, 2, none⟩ = some (.bool jnf) := fun o => (World.cell?_alloc_lt _ _ _ (HF1.out.bx 0 (Nat.le_of_ble_eq_true rfl)).lt).trans (HF1.out.cell 0 2 (Nat.le_of_ble_eq_true rfl) (Nat.le_of_ble_eq_true rfl))
  go_wp2_with fail
  clear a0' a1' a2'
  have hG2 := alloc_below w1 (.cells #[.slice none 0 0, .slice none 0 0, .int .i64 0, .slice none 0 0, .slice none 0 0, .slice none 0 0, .bool false, .nilFunc] 45)
  have HF2 : Hid (Fm w (w1.alloc (.cells #[.slice none 0 0, .slice none 0 0, .int .i64 0, .slice none 0 0, .slice none 0 0, .slice none 0 0, .bool false, .nilFunc] 45)) [(26, [.slice u0 u1 u2, .slice v0 v1 v2, .bool jnf]), (26, [.slice none 0 0, .slice none 0 0, .bool false])] [] []) := HF1.out.below hG2
  clear hG2
  generalize (w1.alloc (.cells #[.slice none 0 0, .slice none 0 0, .int .i64 0, .slice none 0 0, .slice none 0 0, .slice none 0 0, .bool false, .nilFunc] 45)) = w2 at *
  refine (has_none _ _ jnf _ ⟨_, _, _, rfl⟩ ⟨_, _, _, rfl⟩).mono ?_
  rintro e w3 ⟨rfl, hB⟩
  have HF3 : Hid (Fm w w3 [(26, [.slice u0 u1 u2, .slice v0 v1 v2, .bool jnf]), (26, [.slice none 0 0, .slice none 0 0, .bool false])] [] []) := HF2.out.below hB
  clear hB HF2
  have c10 : w3.cell? ⟨w.heap.size + 1, 0, none⟩ = some (.slice none 0 0) := HF3.out.cell 1 0 (Nat.le_of_ble_eq_true rfl) (Nat.le_of_ble_eq_true rfl)
  have c11 : w3.cell? ⟨w.heap.size + 1, 1, none⟩ = some (.slice none 0 0) := HF3.out.cell 1 1 (Nat.le_of_ble_eq_true rfl) (Nat.le_of_ble_eq_true rfl)
  have c12 : w3.cell? ⟨w.heap.size + 1, 2, none⟩ = some (.bool false) := HF3.out.cell 1 2 (Nat.le_of_ble_eq_true rfl) (Nat.le_of_ble_eq_true rfl)
  have f0 : w3.frozen? ⟨w.heap.size + 1, 0, none⟩ = false := HF3.out.frozen 1 0 (Nat.le_of_ble_eq_true rfl)
  have f1 : w3.frozen? ⟨w.heap.size + 1, 1, none⟩ = false := HF3.out.frozen 1 1 (Nat.le_of_ble_eq_true rfl)
  have f2 : w3.frozen? ⟨w.heap.size + 1, 2, none⟩ = false := HF3.out.frozen 1 2 (Nat.le_of_ble_eq_true rfl)
  go_wp2
  (try simp only [Exit.inBlock, Exit.then])
  have hb := (((But.refl w3 (w.heap.size + 1)).set 0 (.slice none 0 0)).set 1 (.slice none 0 0)).set 2 (.bool false)
  refine bodyPost_ret (v := .tuple #[.agg #[.slice none 0 0, .slice none 0 0, .bool false], .int .i64 93]) ?_ rfl ⟨rfl, HF3.out.outB 1 (by simp) hb⟩
  rw [results_cell_tmp rfl]; go_simp
set_option maxHeartbeats 8000000 in
theorem joint_bad {c s : Int} {p b n gx gy : Nat} (hk : Kv c p b n gx gy s) (av dv u v : Value) (A B U V : Nat) (jnf : Bool) (w : World) (ha : Nu w av A) (hd : Nu w dv B) (hu : Nu w u U) (hv : Nu w v V) (ho : onB p b U V jnf = false) :
    Calls Tryd.prog 7 #[.int .i64 c, av, dv, .agg #[u, v, .bool jnf]] w fun e w' => e = .returned (.tuple #[.agg #[.slice none 0 0, .slice none 0 0, .bool false], .int .i64 93]) ∧ Below w.heap.size w w' := by
  obtain ⟨u0, u1, u2, rfl⟩ := hu.shape
  obtain ⟨v0, v1, v2, rfl⟩ := hv.shape
  obtain ⟨a0, a1, a2, rfl⟩ := ha.shape
  obtain ⟨d0, d1, d2, rfl⟩ := hd.shape
  have HN : Hid (Nu w (.slice u0 u1 u2) U ∧ Nu w (.slice v0 v1 v2) V ∧ Nu w (.slice a0 a1 a2) A ∧ Nu w (.slice d0 d1 d2) B) := ⟨hu, hv, ha, hd⟩
  have HF0 : Hid (Fm w ((w.alloc (.cells #[.slice u0 u1 u2, .slice v0 v1 v2, .bool jnf] 26)).alloc (.cells #[.slice none 0 0, .slice none 0 0, .bool false] 26)) [(26, [.slice u0 u1 u2, .slice v0 v1 v2, .bool jnf]), (26, [.slice none 0 0, .slice none 0 0, .bool false])] [] []) := (((Fm.nil (w := w) (A := []) ar_nil).push (by simp) 26 [.slice u0 u1 u2, .slice v0 v1 v2, .bool jnf]).push (by simp) 26 [.slice none 0 0, .slice none 0 0, .bool false])
  have Hs : Hid (s ≠ 0) := (by rcases hk.s0 with h | h <;> omega : s ≠ 0)
  have Hp : Hid (Pm p) := hk.pm
  have hsf : ∀ (w : World) (a : Addr) (fn : Fn) (x y : Array Value), Sem.run Tryd.prog (store a (.func fn x y)) w = _ := fun w a fn x y => run_store Tryd.prog w a (.func fn x y) _ rfl
  have hsn : ∀ (w : World) (a : Addr), Sem.run Tryd.prog (store a .nilFunc) w = _ := fun w a => run_store Tryd.prog w a .nilFunc _ rfl
  clear hu hv ha hd
  go_enter Tryd.func7, Tryd.ntmps7
  go_wp2_with fail
  generalize ((w.alloc (.cells #[.slice u0 u1 u2, .slice v0 v1 v2, .bool jnf] 26)).alloc (.cells #[.slice none 0 0, .slice none 0 0, .bool false] 26)) = w0 at *
  refine (of_kv hk _).mono ?_
  rintro e w1 ⟨g, rfl, ⟨pv, bv, nv, xv, yv, rfl, m1, m2, m3, m4, m5, ma⟩, hB⟩
  obtain ⟨n0, n1, n2, rfl⟩ := m3.nk.sl
  obtain ⟨gx0, gx1, gx2, rfl⟩ := m4.nk.sl
  obtain ⟨gy0, gy1, gy2, rfl⟩ := m5.nk.sl
  obtain ⟨p0, p1, p2, rfl⟩ := m1.nk.sl
  obtain ⟨b0, b1, b2, rfl⟩ := m2.nk.sl
  have HF1 : Hid (Fm w w1 [(26, [.slice u0 u1 u2, .slice v0 v1 v2, .bool jnf]), (26, [.slice none 0 0, .slice none 0 0, .bool false])] [] []) := HF0.out.below hB
  have HG : Hid (Nk w1 (.slice p0 p1 p2) p 384 ∧ Nk w1 (.slice b0 b1 b2) b 384) := ⟨m1.nk, m2.nk⟩
  clear m1 m2 m3 m4 m5 ma hB HF0
  have a0' : ∀ o, (w1.alloc o).cell? ⟨w.heap.size, 0, none⟩ = some (.slice u0 u1 u2) := fun o => (World.cell?_alloc_lt _ _ _ (HF1.out.bx 0 (Nat.le_of_ble_eq_true rfl)).lt).trans (HF1.out.cell 0 0 (Nat.le_of_ble_eq_true rfl) (Nat.le_of_ble_eq_true rfl))
  have a1' : ∀ o, (w1.alloc o).cell? ⟨w.heap.size, 1, none⟩ = some (.slice v0 v1 v2) := fun o => (World.cell?_alloc_lt _ _ _ (HF1.out.bx 0 (Nat.le_of_ble_eq_true rfl)).lt).trans (HF1.out.cell 0 1 (Nat.le_of_ble_eq_true rfl) (Nat.le_of_ble_eq_true rfl))
  have a2' : ∀ o, (w1.alloc o).cell? ⟨w.heap.size, 2, none⟩ = some (.bool jnf) := fun o => (World.cell?_alloc_lt _ _ _ (HF1.out.bx 0 (Nat.le_of_ble_eq_true rfl)).lt).trans (HF1.out.cell 0 2 (Nat.le_of_ble_eq_true rfl) (Nat.le_of_ble_eq_true rfl))
  go_wp2_with fail
  clear a0' a1' a2'
  have hG2 := alloc_below w1 (.cells #[.slice p0 p1 p2, .slice b0 b1 b2, .int .i64 s, .slice n0 n1 n2, .slice gx0 gx1 gx2, .slice gy0 gy1 gy2, .bool false, .func (.func 43) #[.agg #[.slice p0 p1 p2, .slice b0 b1 b2]] #[]] 45)
  have HF2 : Hid (Fm w (w1.alloc (.cells #[.slice p0 p1 p2, .slice b0 b1 b2, .int .i64 s, .slice n0 n1 n2, .slice gx0 gx1 gx2, .slice gy0 gy1 gy2, .bool false, .func (.func 43) #[.agg #[.slice p0 p1 p2, .slice b0 b1 b2]] #[]] 45)) [(26, [.slice u0 u1 u2, .slice v0 v1 v2, .bool jnf]), (26, [.slice none 0 0, .slice none 0 0, .bool false])] [] []) := HF1.out.below hG2
  have HG2 : Hid (Nk (w1.alloc (.cells #[.slice p0 p1 p2, .slice b0 b1 b2, .int .i64 s, .slice n0 n1 n2, .slice gx0 gx1 gx2, .slice gy0 gy1 gy2, .bool false, .func (.func 43) #[.agg #[.slice p0 p1 p2, .slice b0 b1 b2]] #[]] 45)) (.slice p0 p1 p2) p 384 ∧ Nk (w1.alloc (.cells #[.slice p0 p1 p2, .slice b0 b1 b2, .int .i64 s, .slice n0 n1 n2, .slice gx0 gx1 gx2, .slice gy0 gy1 gy2, .bool false, .func (.func 43) #[.agg #[.slice p0 p1 p2, .slice b0 b1 b2]] #[]] 45)) (.slice b0 b1 b2) b 384) := ⟨HG.out.1.below hG2 (Nat.le_refl _), HG.out.2.below hG2 (Nat.le_refl _)⟩
  clear hG2
  generalize (w1.alloc (.cells #[.slice p0 p1 p2, .slice b0 b1 b2, .int .i64 s, .slice n0 n1 n2, .slice gx0 gx1 gx2, .slice gy0 gy1 gy2, .bool false, .func (.func 43) #[.agg #[.slice p0 p1 p2, .slice b0 b1 b2]] #[]] 45)) = w2 at *
  have C := has_v n0 gx0 gy0 n1 n2 gx1 gx2 gy1 gy2 (.slice p0 p1 p2) (.slice b0 b1 b2) (.func (.func 43) #[.agg #[.slice p0 p1 p2, .slice b0 b1 b2]] #[]) _ _ s p b U V w2 Hs.out ⟨_, _, _, rfl⟩ Hp HG2.out.1 HG2.out.2 (HN.out.1.below HF2.out.bel (Nat.le_refl _)) (HN.out.2.1.below HF2.out.bel (Nat.le_refl _)) jnf
  rw [ho] at C
  refine C.mono ?_
  clear C
  rintro e w3 ⟨rfl, hB⟩
  have HF3 : Hid (Fm w w3 [(26, [.slice u0 u1 u2, .slice v0 v1 v2, .bool jnf]), (26, [.slice none 0 0, .slice none 0 0, .bool false])] [] []) := HF2.out.below hB
  clear hB HF2
  have c10 : w3.cell? ⟨w.heap.size + 1, 0, none⟩ = some (.slice none 0 0) := HF3.out.cell 1 0 (Nat.le_of_ble_eq_true rfl) (Nat.le_of_ble_eq_true rfl)
  have c11 : w3.cell? ⟨w.heap.size + 1, 1, none⟩ = some (.slice none 0 0) := HF3.out.cell 1 1 (Nat.le_of_ble_eq_true rfl) (Nat.le_of_ble_eq_true rfl)
  have c12 : w3.cell? ⟨w.heap.size + 1, 2, none⟩ = some (.bool false) := HF3.out.cell 1 2 (Nat.le_of_ble_eq_true rfl) (Nat.le_of_ble_eq_true rfl)
  have f0 : w3.frozen? ⟨w.heap.size + 1, 0, none⟩ = false := HF3.out.frozen 1 0 (Nat.le_of_ble_eq_true rfl)
  have f1 : w3.frozen? ⟨w.heap.size + 1, 1, none⟩ = false := HF3.out.frozen 1 1 (Nat.le_of_ble_eq_true rfl)
  have f2 : w3.frozen? ⟨w.heap.size + 1, 2, none⟩ = false := HF3.out.frozen 1 2 (Nat.le_of_ble_eq_true rfl)
  go_wp2
  (try simp only [Exit.inBlock, Exit.then])
  have hb := (((But.refl w3 (w.heap.size + 1)).set 0 (.slice none 0 0)).set 1 (.slice none 0 0)).set 2 (.bool false)
  refine bodyPost_ret (v := .tuple #[.agg #[.slice none 0 0, .slice none 0 0, .bool false], .int .i64 93]) ?_ rfl ⟨rfl, HF3.out.outB 1 (by simp) hb⟩
  rw [results_cell_tmp rfl]; go_simp
set_option maxHeartbeats 8000000 in
theorem joint_large1 {c s : Int} {p b n gx gy : Nat} (hk : Kv c p b n gx gy s) (av dv u v : Value) (A B U V : Nat) (jnf : Bool) (w : World) (ha : Nu w av A) (hd : Nu w dv B) (hu : Nu w u U) (hv : Nu w v V) (ho : onB p b U V jnf = true) (hA : 1024 < bl A) :
    Calls Tryd.prog 7 #[.int .i64 c, av, dv, .agg #[u, v, .bool jnf]] w fun e w' => e = .returned (.tuple #[.agg #[.slice none 0 0, .slice none 0 0, .bool false], .int .i64 10]) ∧ Below w.heap.size w w' := by
  obtain ⟨u0, u1, u2, rfl⟩ := hu.shape
  obtain ⟨v0, v1, v2, rfl⟩ := hv.shape
  obtain ⟨a0, a1, a2, rfl⟩ := ha.shape
  obtain ⟨d0, d1, d2, rfl⟩ := hd.shape
  have HN : Hid (Nu w (.slice u0 u1 u2) U ∧ Nu w (.slice v0 v1 v2) V ∧ Nu w (.slice a0 a1 a2) A ∧ Nu w (.slice d0 d1 d2) B) := ⟨hu, hv, ha, hd⟩
  have HF0 : Hid (Fm w ((w.alloc (.cells #[.slice u0 u1 u2, .slice v0 v1 v2, .bool jnf] 26)).alloc (.cells #[.slice none 0 0, .slice none 0 0, .bool false] 26)) [(26, [.slice u0 u1 u2, .slice v0 v1 v2, .bool jnf]), (26, [.slice none 0 0, .slice none 0 0, .bool false])] [] []) := (((Fm.nil (w := w) (A := []) ar_nil).push (by simp) 26 [.slice u0 u1 u2, .slice v0 v1 v2, .bool jnf]).push (by simp) 26 [.slice none 0 0, .slice none 0 0, .bool false])
  have Hs : Hid (s ≠ 0) := (by rcases hk.s0 with h | h <;> omega : s ≠ 0)
  have Hp : Hid (Pm p) := hk.pm
  have hsf : ∀ (w : World) (a : Addr) (fn : Fn) (x y : Array Value), Sem.run Tryd.prog (store a (.func fn x y)) w = _ := fun w a fn x y => run_store Tryd.prog w a (.func fn x y) _ rfl
  have hsn : ∀ (w : World) (a : Addr), Sem.run Tryd.prog (store a .nilFunc) w = _ := fun w a => run_store Tryd.prog w a .nilFunc _ rfl
  clear hu hv ha hd
  go_enter Tryd.func7, Tryd.ntmps7
  go_wp2_with fail
  generalize ((w.alloc (.cells #[.slice u0 u1 u2, .slice v0 v1 v2, .bool jnf] 26)).alloc (.cells #[.slice none 0 0, .slice none 0 0, .bool false] 26)) = w0 at *
  refine (of_kv hk _).mono ?_
  rintro e w1 ⟨g, rfl, ⟨pv, bv, nv, xv, yv, rfl, m1, m2, m3, m4, m5, ma⟩, hB⟩
  obtain ⟨n0, n1, n2, rfl⟩ := m3.nk.sl
  obtain ⟨gx0, gx1, gx2, rfl⟩ := m4.nk.sl
  obtain ⟨gy0, gy1, gy2, rfl⟩ := m5.nk.sl
  obtain ⟨p0, p1, p2, rfl⟩ := m1.nk.sl
  obtain ⟨b0, b1, b2, rfl⟩ := m2.nk.sl
  have HF1 : Hid (Fm w w1 [(26, [.slice u0 u1 u2, .slice v0 v1 v2, .bool jnf]), (26, [.slice none 0 0, .slice none 0 0, .bool false])] [] []) := HF0.out.below hB
  have HG : Hid (Nk w1 (.slice p0 p1 p2) p 384 ∧ Nk w1 (.slice b0 b1 b2) b 384) := ⟨m1.nk, m2.nk⟩
  clear m1 m2 m3 m4 m5 ma hB HF0
  have a0' : ∀ o, (w1.alloc o).cell? ⟨w.heap.size, 0, none⟩ = some (.slice u0 u1 u2) := fun o => (World.cell?_alloc_lt _ _ _ (HF1.out.bx 0 (Nat.le_of_ble_eq_true rfl)).lt).trans (HF1.out.cell 0 0 (Nat.le_of_ble_eq_true rfl) (Nat.le_of_ble_eq_true rfl))
  have a1' : ∀ o, (w1.alloc o).cell? ⟨w.heap.size, 1, none⟩ = some (.slice v0 v1 v2) := fun o => (World.cell?_alloc_lt _ _ _ (HF1.out.bx 0 (Nat.le_of_ble_eq_true rfl)).lt).trans (HF1.out.cell 0 1 (Nat.le_of_ble_eq_true rfl) (Nat.le_of_ble_eq_true rfl))
  have a2' : ∀ o, (w1.alloc o).cell? ⟨w.heap.size, 2, none⟩ = some (.bool jnf) := fun o => (World.cell?_alloc_lt _ _ _ (HF1.out.bx 0 (Nat.le_of_ble_eq_true rfl)).lt).trans (HF1.out.cell 0 2 (Nat.le_of_ble_eq_true rfl) (Nat.le_of_ble_eq_true rfl))
  go_wp2_with fail
  clear a0' a1' a2'
  have hG2 := alloc_below w1 (.cells #[.slice p0 p1 p2, .slice b0 b1 b2, .int .i64 s, .slice n0 n1 n2, .slice gx0 gx1 gx2, .slice gy0 gy1 gy2, .bool false, .func (.func 43) #[.agg #[.slice p0 p1 p2, .slice b0 b1 b2]] #[]] 45)
  have HF2 : Hid (Fm w (w1.alloc (.cells #[.slice p0 p1 p2, .slice b0 b1 b2, .int .i64 s, .slice n0 n1 n2, .slice gx0 gx1 gx2, .slice gy0 gy1 gy2, .bool false, .func (.func 43) #[.agg #[.slice p0 p1 p2, .slice b0 b1 b2]] #[]] 45)) [(26, [.slice u0 u1 u2, .slice v0 v1 v2, .bool jnf]), (26, [.slice none 0 0, .slice none 0 0, .bool false])] [] []) := HF1.out.below hG2
  have HG2 : Hid (Nk (w1.alloc (.cells #[.slice p0 p1 p2, .slice b0 b1 b2, .int .i64 s, .slice n0 n1 n2, .slice gx0 gx1 gx2, .slice gy0 gy1 gy2, .bool false, .func (.func 43) #[.agg #[.slice p0 p1 p2, .slice b0 b1 b2]] #[]] 45)) (.slice p0 p1 p2) p 384 ∧ Nk (w1.alloc (.cells #[.slice p0 p1 p2, .slice b0 b1 b2, .int .i64 s, .slice n0 n1 n2, .slice gx0 gx1 gx2, .slice gy0 gy1 gy2, .bool false, .func (.func 43) #[.agg #[.slice p0 p1 p2, .slice b0 b1 b2]] #[]] 45)) (.slice b0 b1 b2) b 384) := ⟨HG.out.1.below hG2 (Nat.le_refl _), HG.out.2.below hG2 (Nat.le_refl _)⟩
  clear hG2
  generalize (w1.alloc (.cells #[.slice p0 p1 p2, .slice b0 b1 b2, .int .i64 s, .slice n0 n1 n2, .slice gx0 gx1 gx2, .slice gy0 gy1 gy2, .bool false, .func (.func 43) #[.agg #[.slice p0 p1 p2, .slice b0 b1 b2]] #[]] 45)) = w2 at *
  have C := has_v n0 gx0 gy0 n1 n2 gx1 gx2 gy1 gy2 (.slice p0 p1 p2) (.slice b0 b1 b2) (.func (.func 43) #[.agg #[.slice p0 p1 p2, .slice b0 b1 b2]] #[]) _ _ s p b U V w2 Hs.out ⟨_, _, _, rfl⟩ Hp HG2.out.1 HG2.out.2 (HN.out.1.below HF2.out.bel (Nat.le_refl _)) (HN.out.2.1.below HF2.out.bel (Nat.le_refl _)) jnf
  rw [ho] at C
  refine C.mono ?_
  clear C
  rintro e w3 ⟨rfl, hB⟩
  have HF3 : Hid (Fm w w3 [(26, [.slice u0 u1 u2, .slice v0 v1 v2, .bool jnf]), (26, [.slice none 0 0, .slice none 0 0, .bool false])] [] []) := HF2.out.below hB
  clear hB HF2
  have C1 := large11_v _ A w3 (HN.out.2.2.1.below HF3.out.bel (Nat.le_refl _))
  rw [decide_eq_true hA] at C1
  go_wp2_with fail
  refine C1.mono ?_
  rintro e w4 ⟨rfl, rfl⟩
  clear C1
  have c10 : w4.cell? ⟨w.heap.size + 1, 0, none⟩ = some (.slice none 0 0) := HF3.out.cell 1 0 (Nat.le_of_ble_eq_true rfl) (Nat.le_of_ble_eq_true rfl)
  have c11 : w4.cell? ⟨w.heap.size + 1, 1, none⟩ = some (.slice none 0 0) := HF3.out.cell 1 1 (Nat.le_of_ble_eq_true rfl) (Nat.le_of_ble_eq_true rfl)
  have c12 : w4.cell? ⟨w.heap.size + 1, 2, none⟩ = some (.bool false) := HF3.out.cell 1 2 (Nat.le_of_ble_eq_true rfl) (Nat.le_of_ble_eq_true rfl)
  have f0 : w4.frozen? ⟨w.heap.size + 1, 0, none⟩ = false := HF3.out.frozen 1 0 (Nat.le_of_ble_eq_true rfl)
  have f1 : w4.frozen? ⟨w.heap.size + 1, 1, none⟩ = false := HF3.out.frozen 1 1 (Nat.le_of_ble_eq_true rfl)
  have f2 : w4.frozen? ⟨w.heap.size + 1, 2, none⟩ = false := HF3.out.frozen 1 2 (Nat.le_of_ble_eq_true rfl)
  go_wp2
  (try simp only [Exit.inBlock, Exit.then])
  have hb := (((But.refl w4 (w.heap.size + 1)).set 0 (.slice none 0 0)).set 1 (.slice none 0 0)).set 2 (.bool false)
  refine bodyPost_ret (v := .tuple #[.agg #[.slice none 0 0, .slice none 0 0, .bool false], .int .i64 10]) ?_ rfl ⟨rfl, HF3.out.outB 1 (by simp) hb⟩
  rw [results_cell_tmp rfl]; go_simp
set_option maxHeartbeats 8000000 in
theorem joint_large2 {c s : Int} {p b n gx gy : Nat} (hk : Kv c p b n gx gy s) (av dv u v : Value) (A B U V : Nat) (jnf : Bool) (w : World) (ha : Nu w av A) (hd : Nu w dv B) (hu : Nu w u U) (hv : Nu w v V) (ho : onB p b U V jnf = true) (hA : ¬ 1024 < bl A) (hBl : 1024 < bl B) :
    Calls Tryd.prog 7 #[.int .i64 c, av, dv, .agg #[u, v, .bool jnf]] w fun e w' => e = .returned (.tuple #[.agg #[.slice none 0 0, .slice none 0 0, .bool false], .int .i64 10]) ∧ Below w.heap.size w w' := by
  obtain ⟨u0, u1, u2, rfl⟩ := hu.shape
  obtain ⟨v0, v1, v2, rfl⟩ := hv.shape
  obtain ⟨a0, a1, a2, rfl⟩ := ha.shape
  obtain ⟨d0, d1, d2, rfl⟩ := hd.shape
  have HN : Hid (Nu w (.slice u0 u1 u2) U ∧ Nu w (.slice v0 v1 v2) V ∧ Nu w (.slice a0 a1 a2) A ∧ Nu w (.slice d0 d1 d2) B) := ⟨hu, hv, ha, hd⟩
  have HF0 : Hid (Fm w ((w.alloc (.cells #[.slice u0 u1 u2, .slice v0 v1 v2, .bool jnf] 26)).alloc (.cells #[.slice none 0 0, .slice none 0 0, .bool false] 26)) [(26, [.slice u0 u1 u2, .slice v0 v1 v2, .bool jnf]), (26, [.slice none 0 0, .slice none 0 0, .bool false])] [] []) := (((Fm.nil (w := w) (A := []) ar_nil).push (by simp) 26 [.slice u0 u1 u2, .slice v0 v1 v2, .bool jnf]).push (by simp) 26 [.slice none 0 0, .slice none 0 0, .bool false])
  have Hs : Hid (s ≠ 0) := (by rcases hk.s0 with h | h <;> omega : s ≠ 0)
  have Hp : Hid (Pm p) := hk.pm
  have hsf : ∀ (w : World) (a : Addr) (fn : Fn) (x y : Array Value), Sem.run Tryd.prog (store a (.func fn x y)) w = _ := fun w a fn x y => run_store Tryd.prog w a (.func fn x y) _ rfl
  have hsn : ∀ (w : World) (a : Addr), Sem.run Tryd.prog (store a .nilFunc) w = _ := fun w a => run_store Tryd.prog w a .nilFunc _ rfl
  clear hu hv ha hd
  go_enter Tryd.func7, Tryd.ntmps7
  go_wp2_with fail
  generalize ((w.alloc (.cells #[.slice u0 u1 u2, .slice v0 v1 v2, .bool jnf] 26)).alloc (.cells #[.slice none 0 0, .slice none 0 0, .bool false] 26)) = w0 at *
  refine (of_kv hk _).mono ?_
  rintro e w1 ⟨g, rfl, ⟨pv, bv, nv, xv, yv, rfl, m1, m2, m3, m4, m5, ma⟩, hB⟩
  obtain ⟨n0, n1, n2, rfl⟩ := m3.nk.sl
  obtain ⟨gx0, gx1, gx2, rfl⟩ := m4.nk.sl
  obtain ⟨gy0, gy1, gy2, rfl⟩ := m5.nk.sl
  obtain ⟨p0, p1, p2, rfl⟩ := m1.nk.sl
  obtain ⟨b0, b1, b2, rfl⟩ := m2.nk.sl
  have HF1 : Hid (Fm w w1 [(26, [.slice u0 u1 u2, .slice v0 v1 v2, .bool jnf]), (26, [.slice none 0 0, .slice none 0 0, .bool false])] [] []) := HF0.out.below hB
  have HG : Hid (Nk w1 (.slice p0 p1 p2) p 384 ∧ Nk w1 (.slice b0 b1 b2) b 384) := ⟨m1.nk, m2.nk⟩
  clear m1 m2 m3 m4 m5 ma hB HF0
  have a0' : ∀ o, (w1.alloc o).cell? ⟨w.heap.size, 0, none⟩ = some (.slice u0 u1 u2) := fun o => (World.cell?_alloc_lt _ _ _ (HF1.out.bx 0 (Nat.le_of_ble_eq_true rfl)).lt).trans (HF1.out.cell 0 0 (Nat.le_of_ble_eq_true rfl) (Nat.le_of_ble_eq_true rfl))
  have a1' : ∀ o, (w1.alloc o).cell? ⟨w.heap.size, 1, none⟩ = some (.slice v0 v1 v2) := fun o => (World.cell?_alloc_lt _ _ _ (HF1.out.bx 0 (Nat.le_of_ble_eq_true rfl)).lt).trans (HF1.out.cell 0 1 (Nat.le_of_ble_eq_true rfl) (Nat.le_of_ble_eq_true rfl))
  have a2' : ∀ o, (w1.alloc o).cell? ⟨w.heap.size, 2, none⟩ = some (.bool jnf) := fun o => (World.cell?_alloc_lt _ _ _ (HF1.out.bx 0 (Nat.le_of_ble_eq_true rfl)).lt).trans (HF1.out.cell 0 2 (Nat.le_of_ble_eq_true rfl) (Nat.le_of_ble_eq_true rfl))
  go_wp2_with fail
  clear a0' a1' a2'
  have hG2 := alloc_below w1 (.cells #[.slice p0 p1 p2, .slice b0 b1 b2, .int .i64 s, .slice n0 n1 n2, .slice gx0 gx1 gx2, .slice gy0 gy1 gy2, .bool false, .func (.func 43) #[.agg #[.slice p0 p1 p2, .slice b0 b1 b2]] #[]] 45)
  have HF2 : Hid (Fm w (w1.alloc (.cells #[.slice p0 p1 p2, .slice b0 b1 b2, .int .i64 s, .slice n0 n1 n2, .slice gx0 gx1 gx2, .slice gy0 gy1 gy2, .bool false, .func (.func 43) #[.agg #[.slice p0 p1 p2, .slice b0 b1 b2]] #[]] 45)) [(26, [.slice u0 u1 u2, .slice v0 v1 v2, .bool jnf]), (26, [.slice none 0 0, .slice none 0 0, .bool false])] [] []) := HF1.out.below hG2
  have HG2 : Hid (Nk (w1.alloc (.cells #[.slice p0 p1 p2, .slice b0 b1 b2, .int .i64 s, .slice n0 n1 n2, .slice gx0 gx1 gx2, .slice gy0 gy1 gy2, .bool false, .func (.func 43) #[.agg #[.slice p0 p1 p2, .slice b0 b1 b2]] #[]] 45)) (.slice p0 p1 p2) p 384 ∧ Nk (w1.alloc (.cells #[.slice p0 p1 p2, .slice b0 b1 b2, .int .i64 s, .slice n0 n1 n2, .slice gx0 gx1 gx2, .slice gy0 gy1 gy2, .bool false, .func (.func 43) #[.agg #[.slice p0 p1 p2, .slice b0 b1 b2]] #[]] 45)) (.slice b0 b1 b2) b 384) := ⟨HG.out.1.below hG2 (Nat.le_refl _), HG.out.2.below hG2 (Nat.le_refl _)⟩
  clear hG2
  generalize (w1.alloc (.cells #[.slice p0 p1 p2, .slice b0 b1 b2, .int .i64 s, .slice n0 n1 n2, .slice gx0 gx1 gx2, .slice gy0 gy1 gy2, .bool false, .func (.func 43) #[.agg #[.slice p0 p1 p2, .slice b0 b1 b2]] #[]] 45)) = w2 at *
  have C := has_v n0 gx0 gy0 n1 n2 gx1 gx2 gy1 gy2 (.slice p0 p1 p2) (.slice b0 b1 b2) (.func (.func 43) #[.agg #[.slice p0 p1 p2, .slice b0 b1 b2]] #[]) _ _ s p b U V w2 Hs.out ⟨_, _, _, rfl⟩ Hp HG2.out.1 HG2.out.2 (HN.out.1.below HF2.out.bel (Nat.le_refl _)) (HN.out.2.1.below HF2.out.bel (Nat.le_refl _)) jnf
  rw [ho] at C
  refine C.mono ?_
  clear C
  rintro e w3 ⟨rfl, hB⟩
  have HF3 : Hid (Fm w w3 [(26, [.slice u0 u1 u2, .slice v0 v1 v2, .bool jnf]), (26, [.slice none 0 0, .slice none 0 0, .bool false])] [] []) := HF2.out.below hB
  clear hB HF2
  have C1 := large11_v _ A w3 (HN.out.2.2.1.below HF3.out.bel (Nat.le_refl _))
  rw [decide_eq_false hA] at C1
  go_wp2_with fail
  refine C1.mono ?_
  rintro e w4 ⟨rfl, rfl⟩
  clear C1
  have C2 := large11_v _ B w4 (HN.out.2.2.2.below HF3.out.bel (Nat.le_refl _))
  rw [decide_eq_true hBl] at C2
  go_wp2_with fail
  refine C2.mono ?_
  rintro e w5 ⟨rfl, rfl⟩
  clear C2
  have c10 : w5.cell? ⟨w.heap.size + 1, 0, none⟩ = some (.slice none 0 0) := HF3.out.cell 1 0 (Nat.le_of_ble_eq_true rfl) (Nat.le_of_ble_eq_true rfl)
  have c11 : w5.cell? ⟨w.heap.size + 1, 1, none⟩ = some (.slice none 0 0) := HF3.out.cell 1 1 (Nat.le_of_ble_eq_true rfl) (Nat.le_of_ble_eq_true rfl)
  have c12 : w5.cell? ⟨w.heap.size + 1, 2, none⟩ = some (.bool false) := HF3.out.cell 1 2 (Nat.le_of_ble_eq_true rfl) (Nat.le_of_ble_eq_true rfl)
  have f0 : w5.frozen? ⟨w.heap.size + 1, 0, none⟩ = false := HF3.out.frozen 1 0 (Nat.le_of_ble_eq_true rfl)
  have f1 : w5.frozen? ⟨w.heap.size + 1, 1, none⟩ = false := HF3.out.frozen 1 1 (Nat.le_of_ble_eq_true rfl)
  have f2 : w5.frozen? ⟨w.heap.size + 1, 2, none⟩ = false := HF3.out.frozen 1 2 (Nat.le_of_ble_eq_true rfl)
  go_wp2
  (try simp only [Exit.inBlock, Exit.then])
  have hb := (((But.refl w5 (w.heap.size + 1)).set 0 (.slice none 0 0)).set 1 (.slice none 0 0)).set 2 (.bool false)
  refine bodyPost_ret (v := .tuple #[.agg #[.slice none 0 0, .slice none 0 0, .bool false], .int .i64 10]) ?_ rfl ⟨rfl, HF3.out.outB 1 (by simp) hb⟩
  rw [results_cell_tmp rfl]; go_simp
set_option maxHeartbeats 4000000 in
theorem mul_none (c : Int) (h1 : c ≠ 1) (h2 : c ≠ 2) (dv u v : Value) (B U V : Nat) (jnf : Bool) (w : World) (hd : Nu w dv B) (hu : Nu w u U) (hv : Nu w v V)  :
    Calls Tryd.prog 6 #[.int .i64 c, dv, .agg #[u, v, .bool jnf]] w fun e w' => e = .returned (.tuple #[.agg #[.slice none 0 0, .slice none 0 0, .bool false], .int .i64 93]) ∧ Below w.heap.size w w' := by
  obtain ⟨u0, u1, u2, rfl⟩ := hu.shape
  obtain ⟨v0, v1, v2, rfl⟩ := hv.shape
  obtain ⟨d0, d1, d2, rfl⟩ := hd.shape
  have HF0 : Hid (Fm w ((w.alloc (.cells #[.slice u0 u1 u2, .slice v0 v1 v2, .bool jnf] 26)).alloc (.cells #[.slice none 0 0, .slice none 0 0, .bool false] 26)) [(26, [.slice u0 u1 u2, .slice v0 v1 v2, .bool jnf]), (26, [.slice none 0 0, .slice none 0 0, .bool false])] [] []) := (((Fm.nil (w := w) (A := []) ar_nil).push (by simp) 26 [.slice u0 u1 u2, .slice v0 v1 v2, .bool jnf]).push (by simp) 26 [.slice none 0 0, .slice none 0 0, .bool false])
  have hbl := HF0.out.bel
  have C := joint_none c h1 h2 (.slice none 0 0) (.slice d0 d1 d2) _ _ 0 B U V jnf _ (Nk.none _ 384).1 (hd.below hbl (Nat.le_refl _)) (hu.below hbl (Nat.le_refl _)) (hv.below hbl (Nat.le_refl _))
  clear hd hu hv hbl
  go_enter Tryd.func6, Tryd.ntmps6
  go_wp2_with fail
  generalize ((w.alloc (.cells #[.slice u0 u1 u2, .slice v0 v1 v2, .bool jnf] 26)).alloc (.cells #[.slice none 0 0, .slice none 0 0, .bool false] 26)) = w0 at *
  refine C.mono ?_
  clear C
  rintro e w1 ⟨rfl, hB⟩
  have HF3 : Hid (Fm w w1 [(26, [.slice u0 u1 u2, .slice v0 v1 v2, .bool jnf]), (26, [.slice none 0 0, .slice none 0 0, .bool false])] [] []) := HF0.out.below hB
  clear hB
  have c10 : w1.cell? ⟨w.heap.size + 1, 0, none⟩ = some (.slice none 0 0) := HF3.out.cell 1 0 (Nat.le_of_ble_eq_true rfl) (Nat.le_of_ble_eq_true rfl)
  have c11 : w1.cell? ⟨w.heap.size + 1, 1, none⟩ = some (.slice none 0 0) := HF3.out.cell 1 1 (Nat.le_of_ble_eq_true rfl) (Nat.le_of_ble_eq_true rfl)
  have c12 : w1.cell? ⟨w.heap.size + 1, 2, none⟩ = some (.bool false) := HF3.out.cell 1 2 (Nat.le_of_ble_eq_true rfl) (Nat.le_of_ble_eq_true rfl)
  have f0 : w1.frozen? ⟨w.heap.size + 1, 0, none⟩ = false := HF3.out.frozen 1 0 (Nat.le_of_ble_eq_true rfl)
  have f1 : w1.frozen? ⟨w.heap.size + 1, 1, none⟩ = false := HF3.out.frozen 1 1 (Nat.le_of_ble_eq_true rfl)
  have f2 : w1.frozen? ⟨w.heap.size + 1, 2, none⟩ = false := HF3.out.frozen 1 2 (Nat.le_of_ble_eq_true rfl)
  go_wp2
  (try simp only [Exit.inBlock, Exit.then])
  have hb := (((But.refl w1 (w.heap.size + 1)).set 0 (.slice none 0 0)).set 1 (.slice none 0 0)).set 2 (.bool false)
  refine bodyPost_ret (v := .tuple #[.agg #[.slice none 0 0, .slice none 0 0, .bool false], .int .i64 93]) ?_ rfl ⟨rfl, HF3.out.outB 1 (by simp) hb⟩
  rw [results_cell_tmp rfl]; go_simp
set_option maxHeartbeats 4000000 in
theorem mul_bad {c s : Int} {p b n gx gy : Nat} (hk : Kv c p b n gx gy s) (dv u v : Value) (B U V : Nat) (jnf : Bool) (w : World) (hd : Nu w dv B) (hu : Nu w u U) (hv : Nu w v V) (ho : onB p b U V jnf = false) :
    Calls Tryd.prog 6 #[.int .i64 c, dv, .agg #[u, v, .bool jnf]] w fun e w' => e = .returned (.tuple #[.agg #[.slice none 0 0, .slice none 0 0, .bool false], .int .i64 93]) ∧ Below w.heap.size w w' := by
  obtain ⟨u0, u1, u2, rfl⟩ := hu.shape
  obtain ⟨v0, v1, v2, rfl⟩ := hv.shape
  obtain ⟨d0, d1, d2, rfl⟩ := hd.shape
  have HF0 : Hid (Fm w ((w.alloc (.cells #[.slice u0 u1 u2, .slice v0 v1 v2, .bool jnf] 26)).alloc (.cells #[.slice none 0 0, .slice none 0 0, .bool false] 26)) [(26, [.slice u0 u1 u2, .slice v0 v1 v2, .bool jnf]), (26, [.slice none 0 0, .slice none 0 0, .bool false])] [] []) := (((Fm.nil (w := w) (A := []) ar_nil).push (by simp) 26 [.slice u0 u1 u2, .slice v0 v1 v2, .bool jnf]).push (by simp) 26 [.slice none 0 0, .slice none 0 0, .bool false])
  have hbl := HF0.out.bel
  have C := joint_bad hk (.slice none 0 0) (.slice d0 d1 d2) _ _ 0 B U V jnf _ (Nk.none _ 384).1 (hd.below hbl (Nat.le_refl _)) (hu.below hbl (Nat.le_refl _)) (hv.below hbl (Nat.le_refl _)) ho
  clear hd hu hv hbl
  go_enter Tryd.func6, Tryd.ntmps6
  go_wp2_with fail
  generalize ((w.alloc (.cells #[.slice u0 u1 u2, .slice v0 v1 v2, .bool jnf] 26)).alloc (.cells #[.slice none 0 0, .slice none 0 0, .bool false] 26)) = w0 at *
  refine C.mono ?_
  clear C
  rintro e w1 ⟨rfl, hB⟩
  have HF3 : Hid (Fm w w1 [(26, [.slice u0 u1 u2, .slice v0 v1 v2, .bool jnf]), (26, [.slice none 0 0, .slice none 0 0, .bool false])] [] []) := HF0.out.below hB
  clear hB
  have c10 : w1.cell? ⟨w.heap.size + 1, 0, none⟩ = some (.slice none 0 0) := HF3.out.cell 1 0 (Nat.le_of_ble_eq_true rfl) (Nat.le_of_ble_eq_true rfl)
  have c11 : w1.cell? ⟨w.heap.size + 1, 1, none⟩ = some (.slice none 0 0) := HF3.out.cell 1 1 (Nat.le_of_ble_eq_true rfl) (Nat.le_of_ble_eq_true rfl)
  have c12 : w1.cell? ⟨w.heap.size + 1, 2, none⟩ = some (.bool false) := HF3.out.cell 1 2 (Nat.le_of_ble_eq_true rfl) (Nat.le_of_ble_eq_true rfl)
  have f0 : w1.frozen? ⟨w.heap.size + 1, 0, none⟩ = false := HF3.out.frozen 1 0 (Nat.le_of_ble_eq_true rfl)
  have f1 : w1.frozen? ⟨w.heap.size + 1, 1, none⟩ = false := HF3.out.frozen 1 1 (Nat.le_of_ble_eq_true rfl)
  have f2 : w1.frozen? ⟨w.heap.size + 1, 2, none⟩ = false := HF3.out.frozen 1 2 (Nat.le_of_ble_eq_true rfl)
  go_wp2
  (try simp only [Exit.inBlock, Exit.then])
  have hb := (((But.refl w1 (w.heap.size + 1)).set 0 (.slice none 0 0)).set 1 (.slice none 0 0)).set 2 (.bool false)
  refine bodyPost_ret (v := .tuple #[.agg #[.slice none 0 0, .slice none 0 0, .bool false], .int .i64 93]) ?_ rfl ⟨rfl, HF3.out.outB 1 (by simp) hb⟩
  rw [results_cell_tmp rfl]; go_simp
set_option maxHeartbeats 4000000 in
theorem mul_large {c s : Int} {p b n gx gy : Nat} (hk : Kv c p b n gx gy s) (dv u v : Value) (B U V : Nat) (jnf : Bool) (w : World) (hd : Nu w dv B) (hu : Nu w u U) (hv : Nu w v V) (ho : onB p b U V jnf = true) (hBl : 1024 < bl B) :
    Calls Tryd.prog 6 #[.int .i64 c, dv, .agg #[u, v, .bool jnf]] w fun e w' => e = .returned (.tuple #[.agg #[.slice none 0 0, .slice none 0 0, .bool false], .int .i64 10]) ∧ Below w.heap.size w w' := by
  obtain ⟨u0, u1, u2, rfl⟩ := hu.shape
  obtain ⟨v0, v1, v2, rfl⟩ := hv.shape
  obtain ⟨d0, d1, d2, rfl⟩ := hd.shape
  have HF0 : Hid (Fm w ((w.alloc (.cells #[.slice u0 u1 u2, .slice v0 v1 v2, .bool jnf] 26)).alloc (.cells #[.slice none 0 0, .slice none 0 0, .bool false] 26)) [(26, [.slice u0 u1 u2, .slice v0 v1 v2, .bool jnf]), (26, [.slice none 0 0, .slice none 0 0, .bool false])] [] []) := (((Fm.nil (w := w) (A := []) ar_nil).push (by simp) 26 [.slice u0 u1 u2, .slice v0 v1 v2, .bool jnf]).push (by simp) 26 [.slice none 0 0, .slice none 0 0, .bool false])
  have hbl := HF0.out.bel
  have C := joint_large2 hk (.slice none 0 0) (.slice d0 d1 d2) _ _ 0 B U V jnf _ (Nk.none _ 384).1 (hd.below hbl (Nat.le_refl _)) (hu.below hbl (Nat.le_refl _)) (hv.below hbl (Nat.le_refl _)) ho (by decide) hBl
  clear hd hu hv hbl
  go_enter Tryd.func6, Tryd.ntmps6
  go_wp2_with fail
  generalize ((w.alloc (.cells #[.slice u0 u1 u2, .slice v0 v1 v2, .bool jnf] 26)).alloc (.cells #[.slice none 0 0, .slice none 0 0, .bool false] 26)) = w0 at *
  refine C.mono ?_
  clear C
  rintro e w1 ⟨rfl, hB⟩
  have HF3 : Hid (Fm w w1 [(26, [.slice u0 u1 u2, .slice v0 v1 v2, .bool jnf]), (26, [.slice none 0 0, .slice none 0 0, .bool false])] [] []) := HF0.out.below hB
  clear hB
  have c10 : w1.cell? ⟨w.heap.size + 1, 0, none⟩ = some (.slice none 0 0) := HF3.out.cell 1 0 (Nat.le_of_ble_eq_true rfl) (Nat.le_of_ble_eq_true rfl)
  have c11 : w1.cell? ⟨w.heap.size + 1, 1, none⟩ = some (.slice none 0 0) := HF3.out.cell 1 1 (Nat.le_of_ble_eq_true rfl) (Nat.le_of_ble_eq_true rfl)
  have c12 : w1.cell? ⟨w.heap.size + 1, 2, none⟩ = some (.bool false) := HF3.out.cell 1 2 (Nat.le_of_ble_eq_true rfl) (Nat.le_of_ble_eq_true rfl)
  have f0 : w1.frozen? ⟨w.heap.size + 1, 0, none⟩ = false := HF3.out.frozen 1 0 (Nat.le_of_ble_eq_true rfl)
  have f1 : w1.frozen? ⟨w.heap.size + 1, 1, none⟩ = false := HF3.out.frozen 1 1 (Nat.le_of_ble_eq_true rfl)
  have f2 : w1.frozen? ⟨w.heap.size + 1, 2, none⟩ = false := HF3.out.frozen 1 2 (Nat.le_of_ble_eq_true rfl)
  go_wp2
  (try simp only [Exit.inBlock, Exit.then])
  have hb := (((But.refl w1 (w.heap.size + 1)).set 0 (.slice none 0 0)).set 1 (.slice none 0 0)).set 2 (.bool false)
  refine bodyPost_ret (v := .tuple #[.agg #[.slice none 0 0, .slice none 0 0, .bool false], .int .i64 10]) ?_ rfl ⟨rfl, HF3.out.outB 1 (by simp) hb⟩
  rw [results_cell_tmp rfl]; go_simp
end Go.Proofs.YtnifjhmjpbihoaaDoor
