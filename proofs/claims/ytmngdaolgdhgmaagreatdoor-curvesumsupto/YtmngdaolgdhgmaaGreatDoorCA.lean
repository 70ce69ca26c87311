import Derived.Test.YtmngdaolgdhgmaaGreatDoorCH
import Derived.Test.YtmngdaolgdhgmaaGreatDoorCY
import Derived.Laws.ResultCell
namespace Go.Proofs.YtmngdaolgdhgmaaGreatDoor
open Go.RowKit

set_option maxRecDepth 100000

theorem Pa.bel {w w' : World} {v : Value} {P : Pt} (h : Pa w w' v P) : Below w.heap.size w w' := by cases P <;> exact h.2
theorem Pa.shape {w w' : World} {v : Value} {P : Pt} (h : Pa w w' v P) : ∃ r0 r1 r2 t0 t1 t2 f, v = .agg #[.slice r0 r1 r2, .slice t0 t1 t2, .bool f] := by
  cases P with
  | O => exact ⟨_, _, _, _, _, _, _, h.1⟩
  | A a c =>
    obtain ⟨⟨x, y, rfl, m1, m2, _⟩, _⟩ := h
    obtain ⟨r0, r1, r2, rfl⟩ := m1.nk.sl
    obtain ⟨t0, t1, t2, rfl⟩ := m2.nk.sl
    exact ⟨_, _, _, _, _, _, _, rfl⟩
theorem Pa.later {w w1 w2 w3 : World} {b : Nat} {v : Value} {P : Pt} (h : Pa w1 w2 v P) (hb : Below w.heap.size w w1) (hB : But w2 w3 b) (h1 : w.heap.size ≤ b) (h2 : b < w1.heap.size) : Pa w w3 v P := by
  have hbel : Below w.heap.size w w3 := (hb.trans (h.bel.mono hb.size)).trans (hB.below (Nat.le_trans hb.size h.bel.size) h1)
  cases P with
  | O => exact ⟨h.1, hbel⟩
  | A a c =>
    obtain ⟨⟨x, y, rfl, m1, m2, ma⟩, _⟩ := h
    exact ⟨⟨x, y, rfl, (m1.but hB h2).base hb.size, (m2.but hB h2).base hb.size, ma⟩, hbel⟩
set_option maxHeartbeats 8000000 in
theorem add_bad1 {c s : Int} {p b n gx gy : Nat} (hk : Kv c p b n gx gy s) (x y u v : Value) (X Y U V : Nat) (inf jnf : Bool) (w : World) (hx : Nu w x X) (hy : Nu w y Y) (hu : Nu w u U) (hv : Nu w v V) (ho1 : onB p b X Y inf = false) :
    Calls Tryz.prog 23 #[.int .i64 c, .agg #[x, y, .bool inf], .agg #[u, v, .bool jnf]] w fun e w' => e = .returned (.tuple #[.agg #[.slice none 0 0, .slice none 0 0, .bool false], .int .i64 93]) ∧ Below w.heap.size w w' := by
  obtain ⟨x0, x1, x2, rfl⟩ := hx.shape
  obtain ⟨y0, y1, y2, rfl⟩ := hy.shape
  obtain ⟨u0, u1, u2, rfl⟩ := hu.shape
  obtain ⟨v0, v1, v2, rfl⟩ := hv.shape
  have HN : Hid (Nu w (.slice x0 x1 x2) X ∧ Nu w (.slice y0 y1 y2) Y ∧ Nu w (.slice u0 u1 u2) U ∧ Nu w (.slice v0 v1 v2) V) := ⟨hx, hy, hu, hv⟩
  have HF0 : Hid (Fm w (((w.alloc (.cells #[.slice x0 x1 x2, .slice y0 y1 y2, .bool inf] 26)).alloc (.cells #[.slice u0 u1 u2, .slice v0 v1 v2, .bool jnf] 26)).alloc (.cells #[.slice none 0 0, .slice none 0 0, .bool false] 26)) [(26, [.slice x0 x1 x2, .slice y0 y1 y2, .bool inf]), (26, [.slice u0 u1 u2, .slice v0 v1 v2, .bool jnf]), (26, [.slice none 0 0, .slice none 0 0, .bool false])] [] []) := ((((Fm.nil (w := w) (A := []) ar_nil).push (by simp) 26 [.slice x0 x1 x2, .slice y0 y1 y2, .bool inf]).push (by simp) 26 [.slice u0 u1 u2, .slice v0 v1 v2, .bool jnf]).push (by simp) 26 [.slice none 0 0, .slice none 0 0, .bool false])
  have Hs : Hid (s ≠ 0) := (by rcases hk.s0 with h | h <;> omega : s ≠ 0)
  have Hp : Hid (Pm p) := hk.pm
  have hsf : ∀ (w : World) (a : Addr) (fn : Fn) (x y : Array Value), Sem.run Tryz.prog (store a (.func fn x y)) w = _ := fun w a fn x y => run_store Tryz.prog w a (.func fn x y) _ rfl
  have hsn : ∀ (w : World) (a : Addr), Sem.run Tryz.prog (store a .nilFunc) w = _ := fun w a => run_store Tryz.prog w a .nilFunc _ rfl
  clear hx hy hu hv
  go_enter Tryz.func23, Tryz.ntmps23
  go_wp2_with fail
  generalize (((w.alloc (.cells #[.slice x0 x1 x2, .slice y0 y1 y2, .bool inf] 26)).alloc (.cells #[.slice u0 u1 u2, .slice v0 v1 v2, .bool jnf] 26)).alloc (.cells #[.slice none 0 0, .slice none 0 0, .bool false] 26)) = w0 at *
  refine (of_kv hk _).mono ?_
  rintro e w1 ⟨g, rfl, ⟨pv, bv, nv, xv, yv, rfl, m1, m2, m3, m4, m5, ma⟩, hB⟩
  obtain ⟨n0, n1, n2, rfl⟩ := m3.nk.sl
  obtain ⟨gx0, gx1, gx2, rfl⟩ := m4.nk.sl
  obtain ⟨gy0, gy1, gy2, rfl⟩ := m5.nk.sl
  obtain ⟨p0, p1, p2, rfl⟩ := m1.nk.sl
  obtain ⟨b0, b1, b2, rfl⟩ := m2.nk.sl
  have HF1 : Hid (Fm _ _ _ _ _) := HF0.out.below hB
  have HG : Hid (Nk w1 (.slice p0 p1 p2) p 384 ∧ Nk w1 (.slice b0 b1 b2) b 384) := ⟨m1.nk, m2.nk⟩
  clear m1 m2 m3 m4 m5 ma hB HF0
  have a0 : ∀ o, (w1.alloc o).cell? ⟨w.heap.size, 0, none⟩ = some (.slice x0 x1 x2) := fun o => (World.cell?_alloc_lt _ _ _ (HF1.out.bx 0 (Nat.le_of_ble_eq_true rfl)).lt).trans (HF1.out.cell 0 0 (Nat.le_of_ble_eq_true rfl) (Nat.le_of_ble_eq_true rfl))
  have a1 : ∀ o, (w1.alloc o).cell? ⟨w.heap.size, 1, none⟩ = some (.slice y0 y1 y2) := fun o => (World.cell?_alloc_lt _ _ _ (HF1.out.bx 0 (Nat.le_of_ble_eq_true rfl)).lt).trans (HF1.out.cell 0 1 (Nat.le_of_ble_eq_true rfl) (Nat.le_of_ble_eq_true rfl))
  have a2 : ∀ o, (w1.alloc o).cell? ⟨w.heap.size, 2, none⟩ = some (.bool inf) := fun o => (World.cell?_alloc_lt _ _ _ (HF1.out.bx 0 (Nat.le_of_ble_eq_true rfl)).lt).trans (HF1.out.cell 0 2 (Nat.le_of_ble_eq_true rfl) (Nat.le_of_ble_eq_true rfl))
  go_wp2_with fail
  clear a0 a1 a2
  have HG2 : Hid (Fm w1 (w1.alloc (.cells #[.slice p0 p1 p2, .slice b0 b1 b2, .int .i64 s, .slice n0 n1 n2, .slice gx0 gx1 gx2, .slice gy0 gy1 gy2, .bool false, .func (.func 98) #[.agg #[.slice p0 p1 p2, .slice b0 b1 b2]] #[]] 57)) [(57, [.slice p0 p1 p2, .slice b0 b1 b2, .int .i64 s, .slice n0 n1 n2, .slice gx0 gx1 gx2, .slice gy0 gy1 gy2, .bool false, .func (.func 98) #[.agg #[.slice p0 p1 p2, .slice b0 b1 b2]] #[]])] [] []) := ((Fm.nil (w := w1) (A := []) ar_nil).push (by simp) 57 [.slice p0 p1 p2, .slice b0 b1 b2, .int .i64 s, .slice n0 n1 n2, .slice gx0 gx1 gx2, .slice gy0 gy1 gy2, .bool false, .func (.func 98) #[.agg #[.slice p0 p1 p2, .slice b0 b1 b2]] #[]])
  have HF2 : Hid (Fm _ _ _ _ _) := HF1.out.below HG2.out.bel
  generalize (w1.alloc (.cells #[.slice p0 p1 p2, .slice b0 b1 b2, .int .i64 s, .slice n0 n1 n2, .slice gx0 gx1 gx2, .slice gy0 gy1 gy2, .bool false, .func (.func 98) #[.agg #[.slice p0 p1 p2, .slice b0 b1 b2]] #[]] 57)) = w2 at *
  have C := has_v n0 gx0 gy0 n1 n2 gx1 gx2 gy1 gy2 (.slice p0 p1 p2) (.slice b0 b1 b2) (.func (.func 98) #[.agg #[.slice p0 p1 p2, .slice b0 b1 b2]] #[]) _ _ s p b X Y w2 Hs.out ⟨_, _, _, rfl⟩ Hp (HG.out.1.below HG2.out.bel (Nat.le_refl _)) (HG.out.2.below HG2.out.bel (Nat.le_refl _)) (HN.out.1.below HF2.out.bel (Nat.le_refl _)) (HN.out.2.1.below HF2.out.bel (Nat.le_refl _)) inf
  rw [ho1] at C
  refine C.mono ?_
  clear C
  rintro e w3 ⟨rfl, hB⟩
  have HF3 : Hid (Fm _ _ _ _ _) := HF2.out.below hB
  have HG3 : Hid (Fm _ _ _ _ _) := HG2.out.below hB
  clear hB HF2 HG2
  have c20 : w3.cell? ⟨w.heap.size + 2, 0, none⟩ = some (.slice none 0 0) := HF3.out.cell 2 0 (Nat.le_of_ble_eq_true rfl) (Nat.le_of_ble_eq_true rfl)
  have c21 : w3.cell? ⟨w.heap.size + 2, 1, none⟩ = some (.slice none 0 0) := HF3.out.cell 2 1 (Nat.le_of_ble_eq_true rfl) (Nat.le_of_ble_eq_true rfl)
  have c22 : w3.cell? ⟨w.heap.size + 2, 2, none⟩ = some (.bool false) := HF3.out.cell 2 2 (Nat.le_of_ble_eq_true rfl) (Nat.le_of_ble_eq_true rfl)
  have f0 : w3.frozen? ⟨w.heap.size + 2, 0, none⟩ = false := HF3.out.frozen 2 0 (Nat.le_of_ble_eq_true rfl)
  have f1 : w3.frozen? ⟨w.heap.size + 2, 1, none⟩ = false := HF3.out.frozen 2 1 (Nat.le_of_ble_eq_true rfl)
  have f2 : w3.frozen? ⟨w.heap.size + 2, 2, none⟩ = false := HF3.out.frozen 2 2 (Nat.le_of_ble_eq_true rfl)
  go_wp2
  (try simp only [Exit.inBlock, Exit.then])
  have hb := (((But.refl w3 (w.heap.size + 2)).set 0 (.slice none 0 0)).set 1 (.slice none 0 0)).set 2 (.bool false)
  refine bodyPost_ret (v := .tuple #[.agg #[.slice none 0 0, .slice none 0 0, .bool false], .int .i64 93]) ?_ rfl ⟨rfl, HF3.out.outB 2 (by simp) hb⟩
  rw [results_cell_tmp rfl]; go_simp
set_option maxHeartbeats 8000000 in
theorem add_bad2 {c s : Int} {p b n gx gy : Nat} (hk : Kv c p b n gx gy s) (x y u v : Value) (X Y U V : Nat) (inf jnf : Bool) (w : World) (hx : Nu w x X) (hy : Nu w y Y) (hu : Nu w u U) (hv : Nu w v V) (ho1 : onB p b X Y inf = true) (ho2 : onB p b U V jnf = false) :
    Calls Tryz.prog 23 #[.int .i64 c, .agg #[x, y, .bool inf], .agg #[u, v, .bool jnf]] w fun e w' => e = .returned (.tuple #[.agg #[.slice none 0 0, .slice none 0 0, .bool false], .int .i64 93]) ∧ Below w.heap.size w w' := by
  obtain ⟨x0, x1, x2, rfl⟩ := hx.shape
  obtain ⟨y0, y1, y2, rfl⟩ := hy.shape
  obtain ⟨u0, u1, u2, rfl⟩ := hu.shape
  obtain ⟨v0, v1, v2, rfl⟩ := hv.shape
  have HN : Hid (Nu w (.slice x0 x1 x2) X ∧ Nu w (.slice y0 y1 y2) Y ∧ Nu w (.slice u0 u1 u2) U ∧ Nu w (.slice v0 v1 v2) V) := ⟨hx, hy, hu, hv⟩
  have HF0 : Hid (Fm w (((w.alloc (.cells #[.slice x0 x1 x2, .slice y0 y1 y2, .bool inf] 26)).alloc (.cells #[.slice u0 u1 u2, .slice v0 v1 v2, .bool jnf] 26)).alloc (.cells #[.slice none 0 0, .slice none 0 0, .bool false] 26)) [(26, [.slice x0 x1 x2, .slice y0 y1 y2, .bool inf]), (26, [.slice u0 u1 u2, .slice v0 v1 v2, .bool jnf]), (26, [.slice none 0 0, .slice none 0 0, .bool false])] [] []) := ((((Fm.nil (w := w) (A := []) ar_nil).push (by simp) 26 [.slice x0 x1 x2, .slice y0 y1 y2, .bool inf]).push (by simp) 26 [.slice u0 u1 u2, .slice v0 v1 v2, .bool jnf]).push (by simp) 26 [.slice none 0 0, .slice none 0 0, .bool false])
  have Hs : Hid (s ≠ 0) := (by rcases hk.s0 with h | h <;> omega : s ≠ 0)
  have Hp : Hid (Pm p) := hk.pm
  have hsf : ∀ (w : World) (a : Addr) (fn : Fn) (x y : Array Value), Sem.run Tryz.prog (store a (.func fn x y)) w = _ := fun w a fn x y => run_store Tryz.prog w a (.func fn x y) _ rfl
  have hsn : ∀ (w : World) (a : Addr), Sem.run Tryz.prog (store a .nilFunc) w = _ := fun w a => run_store Tryz.prog w a .nilFunc _ rfl
  clear hx hy hu hv
  go_enter Tryz.func23, Tryz.ntmps23
  go_wp2_with fail
  generalize (((w.alloc (.cells #[.slice x0 x1 x2, .slice y0 y1 y2, .bool inf] 26)).alloc (.cells #[.slice u0 u1 u2, .slice v0 v1 v2, .bool jnf] 26)).alloc (.cells #[.slice none 0 0, .slice none 0 0, .bool false] 26)) = w0 at *
  refine (of_kv hk _).mono ?_
  rintro e w1 ⟨g, rfl, ⟨pv, bv, nv, xv, yv, rfl, m1, m2, m3, m4, m5, ma⟩, hB⟩
  obtain ⟨n0, n1, n2, rfl⟩ := m3.nk.sl
  obtain ⟨gx0, gx1, gx2, rfl⟩ := m4.nk.sl
  obtain ⟨gy0, gy1, gy2, rfl⟩ := m5.nk.sl
  obtain ⟨p0, p1, p2, rfl⟩ := m1.nk.sl
  obtain ⟨b0, b1, b2, rfl⟩ := m2.nk.sl
  have HF1 : Hid (Fm _ _ _ _ _) := HF0.out.below hB
  have HG : Hid (Nk w1 (.slice p0 p1 p2) p 384 ∧ Nk w1 (.slice b0 b1 b2) b 384) := ⟨m1.nk, m2.nk⟩
  clear m1 m2 m3 m4 m5 ma hB HF0
  have a0 : ∀ o, (w1.alloc o).cell? ⟨w.heap.size, 0, none⟩ = some (.slice x0 x1 x2) := fun o => (World.cell?_alloc_lt _ _ _ (HF1.out.bx 0 (Nat.le_of_ble_eq_true rfl)).lt).trans (HF1.out.cell 0 0 (Nat.le_of_ble_eq_true rfl) (Nat.le_of_ble_eq_true rfl))
  have a1 : ∀ o, (w1.alloc o).cell? ⟨w.heap.size, 1, none⟩ = some (.slice y0 y1 y2) := fun o => (World.cell?_alloc_lt _ _ _ (HF1.out.bx 0 (Nat.le_of_ble_eq_true rfl)).lt).trans (HF1.out.cell 0 1 (Nat.le_of_ble_eq_true rfl) (Nat.le_of_ble_eq_true rfl))
  have a2 : ∀ o, (w1.alloc o).cell? ⟨w.heap.size, 2, none⟩ = some (.bool inf) := fun o => (World.cell?_alloc_lt _ _ _ (HF1.out.bx 0 (Nat.le_of_ble_eq_true rfl)).lt).trans (HF1.out.cell 0 2 (Nat.le_of_ble_eq_true rfl) (Nat.le_of_ble_eq_true rfl))
  go_wp2_with fail
  clear a0 a1 a2
  have HG2 : Hid (Fm w1 (w1.alloc (.cells #[.slice p0 p1 p2, .slice b0 b1 b2, .int .i64 s, .slice n0 n1 n2, .slice gx0 gx1 gx2, .slice gy0 gy1 gy2, .bool false, .func (.func 98) #[.agg #[.slice p0 p1 p2, .slice b0 b1 b2]] #[]] 57)) [(57, [.slice p0 p1 p2, .slice b0 b1 b2, .int .i64 s, .slice n0 n1 n2, .slice gx0 gx1 gx2, .slice gy0 gy1 gy2, .bool false, .func (.func 98) #[.agg #[.slice p0 p1 p2, .slice b0 b1 b2]] #[]])] [] []) := ((Fm.nil (w := w1) (A := []) ar_nil).push (by simp) 57 [.slice p0 p1 p2, .slice b0 b1 b2, .int .i64 s, .slice n0 n1 n2, .slice gx0 gx1 gx2, .slice gy0 gy1 gy2, .bool false, .func (.func 98) #[.agg #[.slice p0 p1 p2, .slice b0 b1 b2]] #[]])
  have HF2 : Hid (Fm _ _ _ _ _) := HF1.out.below HG2.out.bel
  generalize (w1.alloc (.cells #[.slice p0 p1 p2, .slice b0 b1 b2, .int .i64 s, .slice n0 n1 n2, .slice gx0 gx1 gx2, .slice gy0 gy1 gy2, .bool false, .func (.func 98) #[.agg #[.slice p0 p1 p2, .slice b0 b1 b2]] #[]] 57)) = w2 at *
  have C := has_v n0 gx0 gy0 n1 n2 gx1 gx2 gy1 gy2 (.slice p0 p1 p2) (.slice b0 b1 b2) (.func (.func 98) #[.agg #[.slice p0 p1 p2, .slice b0 b1 b2]] #[]) _ _ s p b X Y w2 Hs.out ⟨_, _, _, rfl⟩ Hp (HG.out.1.below HG2.out.bel (Nat.le_refl _)) (HG.out.2.below HG2.out.bel (Nat.le_refl _)) (HN.out.1.below HF2.out.bel (Nat.le_refl _)) (HN.out.2.1.below HF2.out.bel (Nat.le_refl _)) inf
  rw [ho1] at C
  refine C.mono ?_
  clear C
  rintro e w3 ⟨rfl, hB⟩
  have HF3 : Hid (Fm _ _ _ _ _) := HF2.out.below hB
  have HG3 : Hid (Fm _ _ _ _ _) := HG2.out.below hB
  clear hB HF2 HG2
  have c10 : w3.cell? ⟨w.heap.size + 1, 0, none⟩ = some (.slice u0 u1 u2) := HF3.out.cell 1 0 (Nat.le_of_ble_eq_true rfl) (Nat.le_of_ble_eq_true rfl)
  have c11 : w3.cell? ⟨w.heap.size + 1, 1, none⟩ = some (.slice v0 v1 v2) := HF3.out.cell 1 1 (Nat.le_of_ble_eq_true rfl) (Nat.le_of_ble_eq_true rfl)
  have c12 : w3.cell? ⟨w.heap.size + 1, 2, none⟩ = some (.bool jnf) := HF3.out.cell 1 2 (Nat.le_of_ble_eq_true rfl) (Nat.le_of_ble_eq_true rfl)
  have g0 : w3.cell? ⟨w1.heap.size, 0, none⟩ = some (.slice p0 p1 p2) := HG3.out.cell 0 0 (Nat.le_of_ble_eq_true rfl) (Nat.le_of_ble_eq_true rfl)
  have g1 : w3.cell? ⟨w1.heap.size, 1, none⟩ = some (.slice b0 b1 b2) := HG3.out.cell 0 1 (Nat.le_of_ble_eq_true rfl) (Nat.le_of_ble_eq_true rfl)
  have g2 : w3.cell? ⟨w1.heap.size, 2, none⟩ = some (.int .i64 s) := HG3.out.cell 0 2 (Nat.le_of_ble_eq_true rfl) (Nat.le_of_ble_eq_true rfl)
  have g3 : w3.cell? ⟨w1.heap.size, 3, none⟩ = some (.slice n0 n1 n2) := HG3.out.cell 0 3 (Nat.le_of_ble_eq_true rfl) (Nat.le_of_ble_eq_true rfl)
  have g4 : w3.cell? ⟨w1.heap.size, 4, none⟩ = some (.slice gx0 gx1 gx2) := HG3.out.cell 0 4 (Nat.le_of_ble_eq_true rfl) (Nat.le_of_ble_eq_true rfl)
  have g5 : w3.cell? ⟨w1.heap.size, 5, none⟩ = some (.slice gy0 gy1 gy2) := HG3.out.cell 0 5 (Nat.le_of_ble_eq_true rfl) (Nat.le_of_ble_eq_true rfl)
  have g6 : w3.cell? ⟨w1.heap.size, 6, none⟩ = some (.bool false) := HG3.out.cell 0 6 (Nat.le_of_ble_eq_true rfl) (Nat.le_of_ble_eq_true rfl)
  have g7 : w3.cell? ⟨w1.heap.size, 7, none⟩ = some (.func (.func 98) #[.agg #[.slice p0 p1 p2, .slice b0 b1 b2]] #[]) := HG3.out.cell 0 7 (Nat.le_of_ble_eq_true rfl) (Nat.le_of_ble_eq_true rfl)
  go_wp2_with fail
  clear g0 g1 g2 g3 g4 g5 g6 g7 c10 c11 c12
  have C := has_v n0 gx0 gy0 n1 n2 gx1 gx2 gy1 gy2 (.slice p0 p1 p2) (.slice b0 b1 b2) (.func (.func 98) #[.agg #[.slice p0 p1 p2, .slice b0 b1 b2]] #[]) _ _ s p b U V w3 Hs.out ⟨_, _, _, rfl⟩ Hp (HG.out.1.below HG3.out.bel (Nat.le_refl _)) (HG.out.2.below HG3.out.bel (Nat.le_refl _)) (HN.out.2.2.1.below HF3.out.bel (Nat.le_refl _)) (HN.out.2.2.2.below HF3.out.bel (Nat.le_refl _)) jnf
  rw [ho2] at C
  refine C.mono ?_
  clear C
  rintro e w4 ⟨rfl, hB⟩
  have HF4 : Hid (Fm _ _ _ _ _) := HF3.out.below hB
  have HG4 : Hid (Fm _ _ _ _ _) := HG3.out.below hB
  clear hB HF3 HG3
  have c20 : w4.cell? ⟨w.heap.size + 2, 0, none⟩ = some (.slice none 0 0) := HF4.out.cell 2 0 (Nat.le_of_ble_eq_true rfl) (Nat.le_of_ble_eq_true rfl)
  have c21 : w4.cell? ⟨w.heap.size + 2, 1, none⟩ = some (.slice none 0 0) := HF4.out.cell 2 1 (Nat.le_of_ble_eq_true rfl) (Nat.le_of_ble_eq_true rfl)
  have c22 : w4.cell? ⟨w.heap.size + 2, 2, none⟩ = some (.bool false) := HF4.out.cell 2 2 (Nat.le_of_ble_eq_true rfl) (Nat.le_of_ble_eq_true rfl)
  have f0 : w4.frozen? ⟨w.heap.size + 2, 0, none⟩ = false := HF4.out.frozen 2 0 (Nat.le_of_ble_eq_true rfl)
  have f1 : w4.frozen? ⟨w.heap.size + 2, 1, none⟩ = false := HF4.out.frozen 2 1 (Nat.le_of_ble_eq_true rfl)
  have f2 : w4.frozen? ⟨w.heap.size + 2, 2, none⟩ = false := HF4.out.frozen 2 2 (Nat.le_of_ble_eq_true rfl)
  go_wp2
  (try simp only [Exit.inBlock, Exit.then])
  have hb := (((But.refl w4 (w.heap.size + 2)).set 0 (.slice none 0 0)).set 1 (.slice none 0 0)).set 2 (.bool false)
  refine bodyPost_ret (v := .tuple #[.agg #[.slice none 0 0, .slice none 0 0, .bool false], .int .i64 93]) ?_ rfl ⟨rfl, HF4.out.outB 2 (by simp) hb⟩
  rw [results_cell_tmp rfl]; go_simp
set_option maxHeartbeats 8000000 in
theorem add_ok {c s : Int} {p b n gx gy : Nat} (hk : Kv c p b n gx gy s) (x y u v : Value) (X Y U V : Nat) (inf jnf : Bool) (w : World) (hx : Nu w x X) (hy : Nu w y Y) (hu : Nu w u U) (hv : Nu w v V) (ho1 : onB p b X Y inf = true) (ho2 : onB p b U V jnf = true) :
    Calls Tryz.prog 23 #[.int .i64 c, .agg #[x, y, .bool inf], .agg #[u, v, .bool jnf]] w fun e w' => ∃ r, e = .returned (.tuple #[r, .int .i64 0]) ∧ Pa w w' r (sm p (ptO X Y inf) (ptO U V jnf)) := by
  obtain ⟨x0, x1, x2, rfl⟩ := hx.shape
  obtain ⟨y0, y1, y2, rfl⟩ := hy.shape
  obtain ⟨u0, u1, u2, rfl⟩ := hu.shape
  obtain ⟨v0, v1, v2, rfl⟩ := hv.shape
  have HN : Hid (Nu w (.slice x0 x1 x2) X ∧ Nu w (.slice y0 y1 y2) Y ∧ Nu w (.slice u0 u1 u2) U ∧ Nu w (.slice v0 v1 v2) V) := ⟨hx, hy, hu, hv⟩
  have HF0 : Hid (Fm w (((w.alloc (.cells #[.slice x0 x1 x2, .slice y0 y1 y2, .bool inf] 26)).alloc (.cells #[.slice u0 u1 u2, .slice v0 v1 v2, .bool jnf] 26)).alloc (.cells #[.slice none 0 0, .slice none 0 0, .bool false] 26)) [(26, [.slice x0 x1 x2, .slice y0 y1 y2, .bool inf]), (26, [.slice u0 u1 u2, .slice v0 v1 v2, .bool jnf]), (26, [.slice none 0 0, .slice none 0 0, .bool false])] [] []) := ((((Fm.nil (w := w) (A := []) ar_nil).push (by simp) 26 [.slice x0 x1 x2, .slice y0 y1 y2, .bool inf]).push (by simp) 26 [.slice u0 u1 u2, .slice v0 v1 v2, .bool jnf]).push (by simp) 26 [.slice none 0 0, .slice none 0 0, .bool false])
  have Hs : Hid (s ≠ 0) := (by rcases hk.s0 with h | h <;> omega : s ≠ 0)
  have Hp : Hid (Pm p) := hk.pm
  have hsf : ∀ (w : World) (a : Addr) (fn : Fn) (x y : Array Value), Sem.run Tryz.prog (store a (.func fn x y)) w = _ := fun w a fn x y => run_store Tryz.prog w a (.func fn x y) _ rfl
  have hsn : ∀ (w : World) (a : Addr), Sem.run Tryz.prog (store a .nilFunc) w = _ := fun w a => run_store Tryz.prog w a .nilFunc _ rfl
  clear hx hy hu hv
  go_enter Tryz.func23, Tryz.ntmps23
  go_wp2_with fail
  generalize (((w.alloc (.cells #[.slice x0 x1 x2, .slice y0 y1 y2, .bool inf] 26)).alloc (.cells #[.slice u0 u1 u2, .slice v0 v1 v2, .bool jnf] 26)).alloc (.cells #[.slice none 0 0, .slice none 0 0, .bool false] 26)) = w0 at *
  refine (of_kv hk _).mono ?_
  rintro e w1 ⟨g, rfl, ⟨pv, bv, nv, xv, yv, rfl, m1, m2, m3, m4, m5, ma⟩, hB⟩
  obtain ⟨n0, n1, n2, rfl⟩ := m3.nk.sl
  obtain ⟨gx0, gx1, gx2, rfl⟩ := m4.nk.sl
  obtain ⟨gy0, gy1, gy2, rfl⟩ := m5.nk.sl
  obtain ⟨p0, p1, p2, rfl⟩ := m1.nk.sl
  obtain ⟨b0, b1, b2, rfl⟩ := m2.nk.sl
  have HF1 : Hid (Fm _ _ _ _ _) := HF0.out.below hB
  have HG : Hid (Nk w1 (.slice p0 p1 p2) p 384 ∧ Nk w1 (.slice b0 b1 b2) b 384) := ⟨m1.nk, m2.nk⟩
  clear m1 m2 m3 m4 m5 ma hB HF0
  have a0 : ∀ o, (w1.alloc o).cell? ⟨w.heap.size, 0, none⟩ = some (.slice x0 x1 x2) := fun o => (World.cell?_alloc_lt _ _ _ (HF1.out.bx 0 (Nat.le_of_ble_eq_true rfl)).lt).trans (HF1.out.cell 0 0 (Nat.le_of_ble_eq_true rfl) (Nat.le_of_ble_eq_true rfl))
  have a1 : ∀ o, (w1.alloc o).cell? ⟨w.heap.size, 1, none⟩ = some (.slice y0 y1 y2) := fun o => (World.cell?_alloc_lt _ _ _ (HF1.out.bx 0 (Nat.le_of_ble_eq_true rfl)).lt).trans (HF1.out.cell 0 1 (Nat.le_of_ble_eq_true rfl) (Nat.le_of_ble_eq_true rfl))
  have a2 : ∀ o, (w1.alloc o).cell? ⟨w.heap.size, 2, none⟩ = some (.bool inf) := fun o => (World.cell?_alloc_lt _ _ _ (HF1.out.bx 0 (Nat.le_of_ble_eq_true rfl)).lt).trans (HF1.out.cell 0 2 (Nat.le_of_ble_eq_true rfl) (Nat.le_of_ble_eq_true rfl))
  go_wp2_with fail
  clear a0 a1 a2
  have HG2 : Hid (Fm w1 (w1.alloc (.cells #[.slice p0 p1 p2, .slice b0 b1 b2, .int .i64 s, .slice n0 n1 n2, .slice gx0 gx1 gx2, .slice gy0 gy1 gy2, .bool false, .func (.func 98) #[.agg #[.slice p0 p1 p2, .slice b0 b1 b2]] #[]] 57)) [(57, [.slice p0 p1 p2, .slice b0 b1 b2, .int .i64 s, .slice n0 n1 n2, .slice gx0 gx1 gx2, .slice gy0 gy1 gy2, .bool false, .func (.func 98) #[.agg #[.slice p0 p1 p2, .slice b0 b1 b2]] #[]])] [] []) := ((Fm.nil (w := w1) (A := []) ar_nil).push (by simp) 57 [.slice p0 p1 p2, .slice b0 b1 b2, .int .i64 s, .slice n0 n1 n2, .slice gx0 gx1 gx2, .slice gy0 gy1 gy2, .bool false, .func (.func 98) #[.agg #[.slice p0 p1 p2, .slice b0 b1 b2]] #[]])
  have HF2 : Hid (Fm _ _ _ _ _) := HF1.out.below HG2.out.bel
  generalize (w1.alloc (.cells #[.slice p0 p1 p2, .slice b0 b1 b2, .int .i64 s, .slice n0 n1 n2, .slice gx0 gx1 gx2, .slice gy0 gy1 gy2, .bool false, .func (.func 98) #[.agg #[.slice p0 p1 p2, .slice b0 b1 b2]] #[]] 57)) = w2 at *
  have C := has_v n0 gx0 gy0 n1 n2 gx1 gx2 gy1 gy2 (.slice p0 p1 p2) (.slice b0 b1 b2) (.func (.func 98) #[.agg #[.slice p0 p1 p2, .slice b0 b1 b2]] #[]) _ _ s p b X Y w2 Hs.out ⟨_, _, _, rfl⟩ Hp (HG.out.1.below HG2.out.bel (Nat.le_refl _)) (HG.out.2.below HG2.out.bel (Nat.le_refl _)) (HN.out.1.below HF2.out.bel (Nat.le_refl _)) (HN.out.2.1.below HF2.out.bel (Nat.le_refl _)) inf
  rw [ho1] at C
  refine C.mono ?_
  clear C
  rintro e w3 ⟨rfl, hB⟩
  have HF3 : Hid (Fm _ _ _ _ _) := HF2.out.below hB
  have HG3 : Hid (Fm _ _ _ _ _) := HG2.out.below hB
  clear hB HF2 HG2
  have c10 : w3.cell? ⟨w.heap.size + 1, 0, none⟩ = some (.slice u0 u1 u2) := HF3.out.cell 1 0 (Nat.le_of_ble_eq_true rfl) (Nat.le_of_ble_eq_true rfl)
  have c11 : w3.cell? ⟨w.heap.size + 1, 1, none⟩ = some (.slice v0 v1 v2) := HF3.out.cell 1 1 (Nat.le_of_ble_eq_true rfl) (Nat.le_of_ble_eq_true rfl)
  have c12 : w3.cell? ⟨w.heap.size + 1, 2, none⟩ = some (.bool jnf) := HF3.out.cell 1 2 (Nat.le_of_ble_eq_true rfl) (Nat.le_of_ble_eq_true rfl)
  have g0 : w3.cell? ⟨w1.heap.size, 0, none⟩ = some (.slice p0 p1 p2) := HG3.out.cell 0 0 (Nat.le_of_ble_eq_true rfl) (Nat.le_of_ble_eq_true rfl)
  have g1 : w3.cell? ⟨w1.heap.size, 1, none⟩ = some (.slice b0 b1 b2) := HG3.out.cell 0 1 (Nat.le_of_ble_eq_true rfl) (Nat.le_of_ble_eq_true rfl)
  have g2 : w3.cell? ⟨w1.heap.size, 2, none⟩ = some (.int .i64 s) := HG3.out.cell 0 2 (Nat.le_of_ble_eq_true rfl) (Nat.le_of_ble_eq_true rfl)
  have g3 : w3.cell? ⟨w1.heap.size, 3, none⟩ = some (.slice n0 n1 n2) := HG3.out.cell 0 3 (Nat.le_of_ble_eq_true rfl) (Nat.le_of_ble_eq_true rfl)
  have g4 : w3.cell? ⟨w1.heap.size, 4, none⟩ = some (.slice gx0 gx1 gx2) := HG3.out.cell 0 4 (Nat.le_of_ble_eq_true rfl) (Nat.le_of_ble_eq_true rfl)
  have g5 : w3.cell? ⟨w1.heap.size, 5, none⟩ = some (.slice gy0 gy1 gy2) := HG3.out.cell 0 5 (Nat.le_of_ble_eq_true rfl) (Nat.le_of_ble_eq_true rfl)
  have g6 : w3.cell? ⟨w1.heap.size, 6, none⟩ = some (.bool false) := HG3.out.cell 0 6 (Nat.le_of_ble_eq_true rfl) (Nat.le_of_ble_eq_true rfl)
  have g7 : w3.cell? ⟨w1.heap.size, 7, none⟩ = some (.func (.func 98) #[.agg #[.slice p0 p1 p2, .slice b0 b1 b2]] #[]) := HG3.out.cell 0 7 (Nat.le_of_ble_eq_true rfl) (Nat.le_of_ble_eq_true rfl)
  go_wp2_with fail
  clear g0 g1 g2 g3 g4 g5 g6 g7 c10 c11 c12
  have C := has_v n0 gx0 gy0 n1 n2 gx1 gx2 gy1 gy2 (.slice p0 p1 p2) (.slice b0 b1 b2) (.func (.func 98) #[.agg #[.slice p0 p1 p2, .slice b0 b1 b2]] #[]) _ _ s p b U V w3 Hs.out ⟨_, _, _, rfl⟩ Hp (HG.out.1.below HG3.out.bel (Nat.le_refl _)) (HG.out.2.below HG3.out.bel (Nat.le_refl _)) (HN.out.2.2.1.below HF3.out.bel (Nat.le_refl _)) (HN.out.2.2.2.below HF3.out.bel (Nat.le_refl _)) jnf
  rw [ho2] at C
  refine C.mono ?_
  clear C
  rintro e w4 ⟨rfl, hB⟩
  have HF4 : Hid (Fm _ _ _ _ _) := HF3.out.below hB
  have HG4 : Hid (Fm _ _ _ _ _) := HG3.out.below hB
  clear hB HF3 HG3
  go_wp2_with fail
  have HF4d : Hid (Fm _ _ _ _ _) := HF4.out.drew
  have HG4d : Hid (Fm _ _ _ _ _) := HG4.out.drew
  refine wp_region_K 10 (fun (w' : World) => w'.cell? ⟨w1.heap.size, 0, none⟩ = some (.slice p0 p1 p2) ∧ w'.cell? ⟨w1.heap.size, 1, none⟩ = some (.slice b0 b1 b2) ∧ w'.cell? ⟨w.heap.size, 0, none⟩ = some (.slice x0 x1 x2) ∧ w'.cell? ⟨w.heap.size, 1, none⟩ = some (.slice y0 y1 y2) ∧ w'.cell? ⟨w.heap.size, 2, none⟩ = some (.bool inf) ∧ w'.cell? ⟨w.heap.size + 1, 0, none⟩ = some (.slice u0 u1 u2) ∧ w'.cell? ⟨w.heap.size + 1, 1, none⟩ = some (.slice v0 v1 v2) ∧ w'.cell? ⟨w.heap.size + 1, 2, none⟩ = some (.bool jnf)) (by kernel_rfl) ?_
  have hHeld : ((fun (w' : World) => w'.cell? ⟨w1.heap.size, 0, none⟩ = some (.slice p0 p1 p2) ∧ w'.cell? ⟨w1.heap.size, 1, none⟩ = some (.slice b0 b1 b2) ∧ w'.cell? ⟨w.heap.size, 0, none⟩ = some (.slice x0 x1 x2) ∧ w'.cell? ⟨w.heap.size, 1, none⟩ = some (.slice y0 y1 y2) ∧ w'.cell? ⟨w.heap.size, 2, none⟩ = some (.bool inf) ∧ w'.cell? ⟨w.heap.size + 1, 0, none⟩ = some (.slice u0 u1 u2) ∧ w'.cell? ⟨w.heap.size + 1, 1, none⟩ = some (.slice v0 v1 v2) ∧ w'.cell? ⟨w.heap.size + 1, 2, none⟩ = some (.bool jnf))) (World.drew _) := ⟨HG4d.out.cell 0 0 (Nat.le_of_ble_eq_true rfl) (Nat.le_of_ble_eq_true rfl), HG4d.out.cell 0 1 (Nat.le_of_ble_eq_true rfl) (Nat.le_of_ble_eq_true rfl), HF4d.out.cell 0 0 (Nat.le_of_ble_eq_true rfl) (Nat.le_of_ble_eq_true rfl), HF4d.out.cell 0 1 (Nat.le_of_ble_eq_true rfl) (Nat.le_of_ble_eq_true rfl), HF4d.out.cell 0 2 (Nat.le_of_ble_eq_true rfl) (Nat.le_of_ble_eq_true rfl), HF4d.out.cell 1 0 (Nat.le_of_ble_eq_true rfl) (Nat.le_of_ble_eq_true rfl), HF4d.out.cell 1 1 (Nat.le_of_ble_eq_true rfl) (Nat.le_of_ble_eq_true rfl), HF4d.out.cell 1 2 (Nat.le_of_ble_eq_true rfl) (Nat.le_of_ble_eq_true rfl)⟩
  refine wpAnyK_take0 0 (v := ?v33) rfl (by kernel_rfl) (fun _ _ _ h => h) (Or.inl ⟨by rfl, ?hy33⟩) (fun _ => hHeld) ?_
  case hy33 => (intro w hSw; go_simp; try with_reducible rfl)
  try simp only [Act.put, List.setIfInBounds_toArray, List.set_cons_zero, List.set_cons_succ]
  refine wpAnyK_take 1 [9, 10] (v := ?v34) rfl (by kernel_rfl) (fun _ _ _ h => h) (Or.inl ⟨by rfl, ?hy34⟩) hHeld ?_
  case hy34 => (intro w hSw; (try dsimp only at hSw); go_simp; try with_reducible rfl)
  try simp only [Act.put, List.setIfInBounds_toArray, List.set_cons_zero, List.set_cons_succ]
  refine wpAnyK_take0 2 (v := ?v35) rfl (by kernel_rfl) (fun _ _ _ h => h) (Or.inl ⟨by rfl, ?hy35⟩) (fun _ => hHeld) ?_
  case hy35 => (intro w hSw; go_simp; try with_reducible rfl)
  try simp only [Act.put, List.setIfInBounds_toArray, List.set_cons_zero, List.set_cons_succ]
  refine wpAnyK_take 3 [8, 9, 10] (v := ?v36) rfl (by kernel_rfl) (fun _ _ _ h => h) (Or.inl ⟨by rfl, ?hy36⟩) hHeld ?_
  case hy36 => (intro w hSw; (try dsimp only at hSw); go_simp; try with_reducible rfl)
  try simp only [Act.put, List.setIfInBounds_toArray, List.set_cons_zero, List.set_cons_succ]
  refine wpAnyK_take 4 [5, 7, 8, 9, 10] (v := ?v37) rfl (by kernel_rfl) (fun _ _ _ h => h) (Or.inl ⟨by rfl, ?hy37⟩) hHeld ?_
  case hy37 => (intro w hSw; (try dsimp only at hSw); go_simp; try with_reducible rfl)
  try simp only [Act.put, List.setIfInBounds_toArray, List.set_cons_zero, List.set_cons_succ]
  refine wpAnyK_take 6 [7, 8, 9, 10] (v := ?v38) rfl (by kernel_rfl) (fun _ _ _ h => h) (Or.inl ⟨by rfl, ?hy38⟩) hHeld ?_
  case hy38 => (intro w hSw; (try dsimp only at hSw); go_simp; try with_reducible rfl)
  try simp only [Act.put, List.setIfInBounds_toArray, List.set_cons_zero, List.set_cons_succ]
  refine wpAnyK_step 5 rfl (by kernel_rfl) (fun K hK => ?_)
  go_simp
  refine (asRatio_P p b _ _ X Y inf _ Hp.out ho1 (HN.out.1.below HF4d.out.bel (Nat.le_refl _)) (HN.out.2.1.below HF4d.out.bel (Nat.le_refl _))).mono ?_
  rintro e w5 ⟨q1, X1, Y1, Z1, rfl, t1, hR1, hB⟩
  have HF5 : Hid (Fm _ _ _ _ _) := HF4d.out.below hB
  have HG5 : Hid (Fm _ _ _ _ _) := HG4d.out.below hB
  have HR1 : Hid (Rp p X1 Y1 Z1 (ptO X Y inf)) := hR1
  have HT1 : Hid (Rt w5 q1 X1 Y1 Z1) := t1
  clear hB t1 hR1
  try dsimp only
  refine (fun hHeld => hK.out _ _ (fun _ => hHeld) ?_) ⟨HG5.out.cell 0 0 (Nat.le_of_ble_eq_true rfl) (Nat.le_of_ble_eq_true rfl), HG5.out.cell 0 1 (Nat.le_of_ble_eq_true rfl) (Nat.le_of_ble_eq_true rfl), HF5.out.cell 0 0 (Nat.le_of_ble_eq_true rfl) (Nat.le_of_ble_eq_true rfl), HF5.out.cell 0 1 (Nat.le_of_ble_eq_true rfl) (Nat.le_of_ble_eq_true rfl), HF5.out.cell 0 2 (Nat.le_of_ble_eq_true rfl) (Nat.le_of_ble_eq_true rfl), HF5.out.cell 1 0 (Nat.le_of_ble_eq_true rfl) (Nat.le_of_ble_eq_true rfl), HF5.out.cell 1 1 (Nat.le_of_ble_eq_true rfl) (Nat.le_of_ble_eq_true rfl), HF5.out.cell 1 2 (Nat.le_of_ble_eq_true rfl) (Nat.le_of_ble_eq_true rfl)⟩
  clear hK K
  try simp only [Act.put, List.setIfInBounds_toArray, List.set_cons_zero, List.set_cons_succ]
  refine wpAnyK_step 7 rfl (by kernel_rfl) (fun K hK => ?_)
  go_simp
  refine (asRatio_P p b _ _ U V jnf _ Hp.out ho2 (HN.out.2.2.1.below HF5.out.bel (Nat.le_refl _)) (HN.out.2.2.2.below HF5.out.bel (Nat.le_refl _))).mono ?_
  rintro e w6 ⟨q2, X2, Y2, Z2, rfl, t2, hR2, hB⟩
  have HF6 : Hid (Fm _ _ _ _ _) := HF5.out.below hB
  have HG6 : Hid (Fm _ _ _ _ _) := HG5.out.below hB
  have HR2 : Hid (Rp p X2 Y2 Z2 (ptO U V jnf)) := hR2
  have HT2 : Hid (Rt w6 q1 X1 Y1 Z1 ∧ Rt w6 q2 X2 Y2 Z2) := ⟨HT1.out.below hB (Nat.le_refl _), t2⟩
  clear hB t2 hR2
  try dsimp only
  refine (fun hHeld => hK.out _ _ (fun _ => hHeld) ?_) ⟨HG6.out.cell 0 0 (Nat.le_of_ble_eq_true rfl) (Nat.le_of_ble_eq_true rfl), HG6.out.cell 0 1 (Nat.le_of_ble_eq_true rfl) (Nat.le_of_ble_eq_true rfl), HF6.out.cell 0 0 (Nat.le_of_ble_eq_true rfl) (Nat.le_of_ble_eq_true rfl), HF6.out.cell 0 1 (Nat.le_of_ble_eq_true rfl) (Nat.le_of_ble_eq_true rfl), HF6.out.cell 0 2 (Nat.le_of_ble_eq_true rfl) (Nat.le_of_ble_eq_true rfl), HF6.out.cell 1 0 (Nat.le_of_ble_eq_true rfl) (Nat.le_of_ble_eq_true rfl), HF6.out.cell 1 1 (Nat.le_of_ble_eq_true rfl) (Nat.le_of_ble_eq_true rfl), HF6.out.cell 1 2 (Nat.le_of_ble_eq_true rfl) (Nat.le_of_ble_eq_true rfl)⟩
  clear hK K
  try simp only [Act.put, List.setIfInBounds_toArray, List.set_cons_zero, List.set_cons_succ]
  refine wpAnyK_step 8 rfl (by kernel_rfl) (fun K hK => ?_)
  go_simp
  refine (plus_v (.slice p0 p1 p2) (.slice b0 b1 b2) q1 q2 p b X1 Y1 Z1 X2 Y2 Z2 _ Hp (HG.out.1.below HG6.out.bel (Nat.le_refl _)) (HG.out.2.below HG6.out.bel (Nat.le_refl _)) HT2.out.1 HT2.out.2).mono ?_
  rintro e w7 ⟨q3, rfl, t3, hB⟩
  have HF7 : Hid (Fm _ _ _ _ _) := HF6.out.below hB
  have HG7 : Hid (Fm _ _ _ _ _) := HG6.out.below hB
  have HT3 : Hid (Rt w7 q3 _ _ _) := t3.rt
  clear hB t3
  try dsimp only
  refine (fun hHeld => hK.out _ _ (fun _ => hHeld) ?_) ⟨HG7.out.cell 0 0 (Nat.le_of_ble_eq_true rfl) (Nat.le_of_ble_eq_true rfl), HG7.out.cell 0 1 (Nat.le_of_ble_eq_true rfl) (Nat.le_of_ble_eq_true rfl), HF7.out.cell 0 0 (Nat.le_of_ble_eq_true rfl) (Nat.le_of_ble_eq_true rfl), HF7.out.cell 0 1 (Nat.le_of_ble_eq_true rfl) (Nat.le_of_ble_eq_true rfl), HF7.out.cell 0 2 (Nat.le_of_ble_eq_true rfl) (Nat.le_of_ble_eq_true rfl), HF7.out.cell 1 0 (Nat.le_of_ble_eq_true rfl) (Nat.le_of_ble_eq_true rfl), HF7.out.cell 1 1 (Nat.le_of_ble_eq_true rfl) (Nat.le_of_ble_eq_true rfl), HF7.out.cell 1 2 (Nat.le_of_ble_eq_true rfl) (Nat.le_of_ble_eq_true rfl)⟩
  clear hK K
  try simp only [Act.put, List.setIfInBounds_toArray, List.set_cons_zero, List.set_cons_succ]
  refine wpAnyK_step 9 rfl (by kernel_rfl) (fun K hK => ?_)
  go_simp
  refine (point_P (.slice p0 p1 p2) (.slice b0 b1 b2) q3 p b _ _ _ (sm p (ptO X Y inf) (ptO U V jnf)) w7 hk.cv Hp.out (HG.out.1.below HG7.out.bel (Nat.le_refl _)) (HG.out.2.below HG7.out.bel (Nat.le_refl _)) HT3.out (hk.cv.plusR Hp.out HR1.out HR2.out ((onB_iff Hp.out).1 ho1).1 ((onB_iff Hp.out).1 ho2).1) (hk.cv.son ((onB_iff Hp.out).1 ho1).1 ((onB_iff Hp.out).1 ho2).1)).mono ?_
  rintro e w8 ⟨q4, rfl, hPa⟩
  have hB := hPa.bel
  have HF8 : Hid (Fm _ _ _ _ _) := HF7.out.below hB
  have HG8 : Hid (Fm _ _ _ _ _) := HG7.out.below hB
  have HPa : Hid (Pa w7 w8 q4 (sm p (ptO X Y inf) (ptO U V jnf))) := hPa
  clear hB hPa
  try dsimp only
  refine (fun hHeld => hK.out _ _ (fun _ => hHeld) ?_) ⟨HG8.out.cell 0 0 (Nat.le_of_ble_eq_true rfl) (Nat.le_of_ble_eq_true rfl), HG8.out.cell 0 1 (Nat.le_of_ble_eq_true rfl) (Nat.le_of_ble_eq_true rfl), HF8.out.cell 0 0 (Nat.le_of_ble_eq_true rfl) (Nat.le_of_ble_eq_true rfl), HF8.out.cell 0 1 (Nat.le_of_ble_eq_true rfl) (Nat.le_of_ble_eq_true rfl), HF8.out.cell 0 2 (Nat.le_of_ble_eq_true rfl) (Nat.le_of_ble_eq_true rfl), HF8.out.cell 1 0 (Nat.le_of_ble_eq_true rfl) (Nat.le_of_ble_eq_true rfl), HF8.out.cell 1 1 (Nat.le_of_ble_eq_true rfl) (Nat.le_of_ble_eq_true rfl), HF8.out.cell 1 2 (Nat.le_of_ble_eq_true rfl) (Nat.le_of_ble_eq_true rfl)⟩
  clear hK K
  try simp only [Act.put, List.setIfInBounds_toArray, List.set_cons_zero, List.set_cons_succ]
  obtain ⟨r0, r1, r2, t0, t1, t2, jf, rfl⟩ := HPa.out.shape
  have c20 : w8.cell? ⟨w.heap.size + 2, 0, none⟩ = some (.slice none 0 0) := HF8.out.cell 2 0 (Nat.le_of_ble_eq_true rfl) (Nat.le_of_ble_eq_true rfl)
  have c21 : w8.cell? ⟨w.heap.size + 2, 1, none⟩ = some (.slice none 0 0) := HF8.out.cell 2 1 (Nat.le_of_ble_eq_true rfl) (Nat.le_of_ble_eq_true rfl)
  have c22 : w8.cell? ⟨w.heap.size + 2, 2, none⟩ = some (.bool false) := HF8.out.cell 2 2 (Nat.le_of_ble_eq_true rfl) (Nat.le_of_ble_eq_true rfl)
  have f0 : w8.frozen? ⟨w.heap.size + 2, 0, none⟩ = false := HF8.out.frozen 2 0 (Nat.le_of_ble_eq_true rfl)
  have f1 : w8.frozen? ⟨w.heap.size + 2, 1, none⟩ = false := HF8.out.frozen 2 1 (Nat.le_of_ble_eq_true rfl)
  have f2 : w8.frozen? ⟨w.heap.size + 2, 2, none⟩ = false := HF8.out.frozen 2 2 (Nat.le_of_ble_eq_true rfl)
  refine wpAnyK_step 10 rfl (by kernel_rfl) (fun K hK => ?_)
  go_simp
  refine hK.out _ _ ?hk44 ?_
  case hk44 => exact (fun h => nomatch (h.symm.trans (show _ = true by kernel_rfl)))
  clear hK K
  try simp only [Act.put, List.setIfInBounds_toArray, List.set_cons_zero, List.set_cons_succ]
  refine wpAnyK_take0 11 (v := ?v45) rfl (by kernel_rfl) (fun _ _ _ h => h) (Or.inl ⟨by rfl, ?hy45⟩) (fun h => nomatch (h.symm.trans (show _ = true by kernel_rfl))) ?_
  case hy45 => (intro w hSw; go_simp; try with_reducible rfl)
  try simp only [Act.put, List.setIfInBounds_toArray, List.set_cons_zero, List.set_cons_succ]
  refine wpAnyK_done (by kernel_rfl) ?_ _
  go_wp2
  (try simp only [Exit.inBlock, Exit.then])
  have hb := (((But.refl w8 (w.heap.size + 2)).set 0 (.slice r0 r1 r2)).set 1 (.slice t0 t1 t2)).set 2 (.bool jf)
  have hsz := HF7.out.sz
  simp only [List.length_cons, List.length_nil] at hsz
  refine bodyPost_ret (v := .tuple #[.agg #[.slice r0 r1 r2, .slice t0 t1 t2, .bool jf], .int .i64 0]) ?_ rfl ⟨_, rfl, HPa.out.later HF7.out.bel hb (by omega) (by omega)⟩
  rw [results_cell_tmp rfl]; go_simp
end Go.Proofs.YtmngdaolgdhgmaaGreatDoor
