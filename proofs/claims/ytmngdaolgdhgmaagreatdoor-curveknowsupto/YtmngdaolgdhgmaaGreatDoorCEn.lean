import Derived.Test.YtmngdaolgdhgmaaGreatDoorCNg
import Derived.Test.YtmngdaolgdhgmaaGreatDoorCA
import Derived.Test.YtmngdaolgdhgmaaGreatDoorNtZ2
import Derived.Test.YtmngdaolgdhgmaaGreatDoorNtZ6
import Derived.Laws.ResultCell
namespace Go.Proofs.YtmngdaolgdhgmaaGreatDoor
open Go.RowKit

set_option maxRecDepth 100000

theorem bv_up (l : List UInt8) : ∀ a, l.foldl (fun a c => a * 256 + c.toNat) a < (a + 1) * 256 ^ l.length := by
  induction l with
  | nil => intro a; simp
  | cons c l ih =>
    intro a
    have h1 := ih (a * 256 + c.toNat)
    have h2 : c.toNat < 256 := UInt8.toNat_lt c
    have h3 : (a * 256 + c.toNat + 1) * 256 ^ l.length ≤ ((a + 1) * 256) * 256 ^ l.length := Nat.mul_le_mul_right _ (by omega)
    have h4 : ((a + 1) * 256) * 256 ^ l.length = (a + 1) * 256 ^ (l.length + 1) := by rw [Nat.pow_succ, Nat.mul_assoc, Nat.mul_comm 256]
    simp only [List.foldl_cons, List.length_cons]
    omega
theorem bv_pw {l : List UInt8} (h : l.length ≤ 48) : bv l < pw 384 := by
  have h1 := bv_up l 0
  have h2 : 256 ^ l.length ≤ 256 ^ 48 := Nat.pow_le_pow_right (by decide) h
  have h3 : (256 : Nat) ^ 48 = pw 384 := by decide +kernel
  unfold bv
  omega
/-- Are they the coordinates of a point? -/
def decB (p b : Nat) (s : Int) (lx ly : List UInt8) : Bool := decide ((lx.length : Int) = s) && (decide ((ly.length : Int) = s) && onB p b (bv lx) (bv ly) false)
set_option maxHeartbeats 4000000 in
theorem size_v {c s : Int} {p b n gx gy : Nat} (hk : Kv c p b n gx gy s) (w : World) : Calls Tryz.prog 16 #[.int .i64 c] w fun e w' => e = .returned (.int .i64 s) ∧ Below w.heap.size w w' := by
  have hf0 : ∀ (a b c d e f g h : Value) (w : World), Sem.run Tryz.prog (Instr.field 57 (.agg #[a, b, c, d, e, f, g, h]) 0) w = .ok (.agg #[a, b]) w := fun _ _ _ _ _ _ _ _ _ => rfl
  have hf1 : ∀ (a b c d e f g h : Value) (w : World), Sem.run Tryz.prog (Instr.field 57 (.agg #[a, b, c, d, e, f, g, h]) 1) w = .ok c w := fun _ _ _ _ _ _ _ _ _ => rfl
  go_enter Tryz.func16, Tryz.ntmps16
  go_wp2_with fail
  refine (of_kv hk _).mono ?_
  rintro e w1 ⟨g, rfl, ⟨pv, bv, nv, xv, yv, rfl, m1, m2, m3, m4, m5, ma⟩, hB⟩
  have HX : Hid (Below w.heap.size w w1) := hB
  obtain ⟨p0, p1, p2, rfl⟩ := m1.nk.sl
  obtain ⟨b0, b1, b2, rfl⟩ := m2.nk.sl
  obtain ⟨n0, n1, n2, rfl⟩ := m3.nk.sl
  obtain ⟨gx0, gx1, gx2, rfl⟩ := m4.nk.sl
  obtain ⟨gy0, gy1, gy2, rfl⟩ := m5.nk.sl
  clear m1 m2 m3 m4 m5 ma hB
  go_wp2
  go_ret
  exact ⟨rfl, HX.out⟩
set_option maxHeartbeats 4000000 in
theorem size_none (c : Int) (h1 : c ≠ 1) (h2 : c ≠ 2) (w : World) : Calls Tryz.prog 16 #[.int .i64 c] w fun e w' => e = .returned (.int .i64 0) ∧ Below w.heap.size w w' := by
  have hf0 : ∀ (a b c d e f g h : Value) (w : World), Sem.run Tryz.prog (Instr.field 57 (.agg #[a, b, c, d, e, f, g, h]) 0) w = .ok (.agg #[a, b]) w := fun _ _ _ _ _ _ _ _ _ => rfl
  have hf1 : ∀ (a b c d e f g h : Value) (w : World), Sem.run Tryz.prog (Instr.field 57 (.agg #[a, b, c, d, e, f, g, h]) 1) w = .ok c w := fun _ _ _ _ _ _ _ _ _ => rfl
  go_enter Tryz.func16, Tryz.ntmps16
  go_wp2_with fail
  refine (of_none c _ h1 h2).mono ?_
  rintro e w1 ⟨rfl, hB⟩
  have HX : Hid (Below w.heap.size w w1) := hB
  clear hB
  go_wp2
  go_ret
  exact ⟨rfl, HX.out⟩
set_option maxHeartbeats 8000000 in
theorem decode_ok {c s : Int} {p b n gx gy : Nat} (hk : Kv c p b n gx gy s) (ax ay : Option Addr) (cx cy : Nat) (lx ly : List UInt8) (w : World) (hx : Rd w ax lx) (hy : Rd w ay ly) (l1 : lx.length ≤ 100000000) (l2 : ly.length ≤ 100000000) (e1 : (lx.length : Int) = s) (e2 : (ly.length : Int) = s) (ho : onB p b (bv lx) (bv ly) false = true) :
    Calls Tryz.prog 29 #[.int .i64 c, .slice ax lx.length cx, .slice ay ly.length cy] w fun e w' => ∃ r, e = .returned (.tuple #[r, .int .i64 0]) ∧ Pa w w' r (.A (bv lx) (bv ly)) := by
  have HF0 : Hid (Fm w (w.alloc (.cells #[.slice none 0 0, .slice none 0 0, .bool false] 26)) [(26, [.slice none 0 0, .slice none 0 0, .bool false])] [] []) := ((Fm.nil (w := w) (A := []) ar_nil).push (by simp) 26 [.slice none 0 0, .slice none 0 0, .bool false])
  have Hs : Hid (s ≠ 0) := (by rcases hk.s0 with h | h <;> omega : s ≠ 0)
  have Hp : Hid (Pm p) := hk.pm
  have hsf : ∀ (w : World) (a : Addr) (fn : Fn) (x y : Array Value), Sem.run Tryz.prog (store a (.func fn x y)) w = _ := fun w a fn x y => run_store Tryz.prog w a (.func fn x y) _ rfl
  have hsn : ∀ (w : World) (a : Addr), Sem.run Tryz.prog (store a .nilFunc) w = _ := fun w a => run_store Tryz.prog w a .nilFunc _ rfl
  have HR : Hid (Rd w ax lx ∧ Rd w ay ly) := ⟨hx, hy⟩
  have HL : Hid (lx.length ≤ 48 ∧ ly.length ≤ 48) := (by rcases hk.s0 with h | h <;> omega : lx.length ≤ 48 ∧ ly.length ≤ 48)
  have d1 : (((lx.length : Nat) : Int) != s) = false := by simp; omega
  have d2 : (((ly.length : Nat) : Int) != s) = false := by simp; omega
  have l1' : Hid (lx.length ≤ 100000000) := l1
  have l2' : Hid (ly.length ≤ 100000000) := l2
  clear hx hy l1 l2
  go_enter Tryz.func29, Tryz.ntmps29
  go_wp2_with fail
  generalize (w.alloc (.cells #[.slice none 0 0, .slice none 0 0, .bool false] 26)) = w0 at *
  refine (of_kv hk _).mono ?_
  rintro e w1 ⟨g, rfl, ⟨pv, bv, nv, xv, yv, rfl, m1, m2, m3, m4, m5, ma⟩, hB⟩
  obtain ⟨n0, n1, n2, rfl⟩ := m3.nk.sl
  obtain ⟨gx0, gx1, gx2, rfl⟩ := m4.nk.sl
  obtain ⟨gy0, gy1, gy2, rfl⟩ := m5.nk.sl
  obtain ⟨p0, p1, p2, rfl⟩ := m1.nk.sl
  obtain ⟨b0, b1, b2, rfl⟩ := m2.nk.sl
  have HF1 : Hid (Fm w w1 [(26, [.slice none 0 0, .slice none 0 0, .bool false])] [] []) := HF0.out.below hB
  have HG : Hid (Nk w1 (.slice p0 p1 p2) p 384 ∧ Nk w1 (.slice b0 b1 b2) b 384) := ⟨m1.nk, m2.nk⟩
  clear m1 m2 m3 m4 m5 ma hB HF0
  go_wp2_with fail
  have HG2 : Hid (Fm w1 (w1.alloc (.cells #[.slice p0 p1 p2, .slice b0 b1 b2, .int .i64 s, .slice n0 n1 n2, .slice gx0 gx1 gx2, .slice gy0 gy1 gy2, .bool false, .func (.func 98) #[.agg #[.slice p0 p1 p2, .slice b0 b1 b2]] #[]] 57)) [(57, [.slice p0 p1 p2, .slice b0 b1 b2, .int .i64 s, .slice n0 n1 n2, .slice gx0 gx1 gx2, .slice gy0 gy1 gy2, .bool false, .func (.func 98) #[.agg #[.slice p0 p1 p2, .slice b0 b1 b2]] #[]])] [] []) := (Fm.nil (w := w1) (A := []) ar_nil).push (by simp) 57 [.slice p0 p1 p2, .slice b0 b1 b2, .int .i64 s, .slice n0 n1 n2, .slice gx0 gx1 gx2, .slice gy0 gy1 gy2, .bool false, .func (.func 98) #[.agg #[.slice p0 p1 p2, .slice b0 b1 b2]] #[]]
  have HF2 : Hid (Fm w (w1.alloc (.cells #[.slice p0 p1 p2, .slice b0 b1 b2, .int .i64 s, .slice n0 n1 n2, .slice gx0 gx1 gx2, .slice gy0 gy1 gy2, .bool false, .func (.func 98) #[.agg #[.slice p0 p1 p2, .slice b0 b1 b2]] #[]] 57)) [(26, [.slice none 0 0, .slice none 0 0, .bool false])] [] []) := HF1.out.below HG2.out.bel
  generalize (w1.alloc (.cells #[.slice p0 p1 p2, .slice b0 b1 b2, .int .i64 s, .slice n0 n1 n2, .slice gx0 gx1 gx2, .slice gy0 gy1 gy2, .bool false, .func (.func 98) #[.agg #[.slice p0 p1 p2, .slice b0 b1 b2]] #[]] 57)) = w2 at *
  refine (fromBytes_any ax cx lx w2 (HR.out.1.below HF2.out.bel (Nat.le_refl _)) l1'.out).mono ?_
  rintro e w3 ⟨r, rfl, hO, hB⟩
  obtain ⟨r0, r1, r2, rfl⟩ : Sl3 r := (by obtain ⟨a, c, e, _⟩ := hO.nm (dg_sm Bs_two _); exact ⟨_, _, _, e⟩)
  have HF3 : Hid (Fm w w3 [(26, [.slice none 0 0, .slice none 0 0, .bool false])] [] [(.slice r0 r1 r2, bv lx, 384)]) := HF2.out.step ⟨⟨hO, Nat.le_trans (dgl_pw (bv_pw HL.out.1) (by decide)) (by decide), hB⟩, bv_pw HL.out.1⟩
  have HG3 : Hid (Fm w1 w3 [(57, [.slice p0 p1 p2, .slice b0 b1 b2, .int .i64 s, .slice n0 n1 n2, .slice gx0 gx1 gx2, .slice gy0 gy1 gy2, .bool false, .func (.func 98) #[.agg #[.slice p0 p1 p2, .slice b0 b1 b2]] #[]])] [] []) := HG2.out.below hB
  clear hO hB
  go_wp2_with fail
  refine (fromBytes_any ay cy ly w3 (HR.out.2.below HF3.out.bel (Nat.le_refl _)) l2'.out).mono ?_
  rintro e w4 ⟨t, rfl, hO, hB⟩
  obtain ⟨t0, t1, t2, rfl⟩ : Sl3 t := (by obtain ⟨a, c, e, _⟩ := hO.nm (dg_sm Bs_two _); exact ⟨_, _, _, e⟩)
  have HF4 : Hid (Fm w w4 [(26, [.slice none 0 0, .slice none 0 0, .bool false])] [] [(.slice t0 t1 t2, bv ly, 384), (.slice r0 r1 r2, bv lx, 384)]) := HF3.out.step ⟨⟨hO, Nat.le_trans (dgl_pw (bv_pw HL.out.2) (by decide)) (by decide), hB⟩, bv_pw HL.out.2⟩
  have HG4 : Hid (Fm w1 w4 [(57, [.slice p0 p1 p2, .slice b0 b1 b2, .int .i64 s, .slice n0 n1 n2, .slice gx0 gx1 gx2, .slice gy0 gy1 gy2, .bool false, .func (.func 98) #[.agg #[.slice p0 p1 p2, .slice b0 b1 b2]] #[]])] [] []) := HG3.out.below hB
  clear hO hB
  have HF5 : Hid (Fm w (w4.alloc (.cells #[.slice r0 r1 r2, .slice t0 t1 t2, .bool false] 26)) [(26, [.slice none 0 0, .slice none 0 0, .bool false])] [] [(.slice t0 t1 t2, bv ly, 384), (.slice r0 r1 r2, bv lx, 384)]) := HF4.out.below (alloc_below _ _)
  have HG5 : Hid (Fm w1 (w4.alloc (.cells #[.slice r0 r1 r2, .slice t0 t1 t2, .bool false] 26)) [(57, [.slice p0 p1 p2, .slice b0 b1 b2, .int .i64 s, .slice n0 n1 n2, .slice gx0 gx1 gx2, .slice gy0 gy1 gy2, .bool false, .func (.func 98) #[.agg #[.slice p0 p1 p2, .slice b0 b1 b2]] #[]])] [] []) := HG4.out.below (alloc_below _ _)
  have HP5 : Hid (Fm w4 (w4.alloc (.cells #[.slice r0 r1 r2, .slice t0 t1 t2, .bool false] 26)) [(26, [.slice r0 r1 r2, .slice t0 t1 t2, .bool false])] [] []) := (Fm.nil (w := w4) (A := []) ar_nil).push (by simp) 26 [.slice r0 r1 r2, .slice t0 t1 t2, .bool false]
  have q0 : (w4.alloc (.cells #[.slice r0 r1 r2, .slice t0 t1 t2, .bool false] 26)).cell? ⟨w1.heap.size, 0, none⟩ = some (.slice p0 p1 p2) := HG5.out.cell 0 0 (Nat.le_of_ble_eq_true rfl) (Nat.le_of_ble_eq_true rfl)
  have q1 : (w4.alloc (.cells #[.slice r0 r1 r2, .slice t0 t1 t2, .bool false] 26)).cell? ⟨w1.heap.size, 1, none⟩ = some (.slice b0 b1 b2) := HG5.out.cell 0 1 (Nat.le_of_ble_eq_true rfl) (Nat.le_of_ble_eq_true rfl)
  have q2 : (w4.alloc (.cells #[.slice r0 r1 r2, .slice t0 t1 t2, .bool false] 26)).cell? ⟨w1.heap.size, 2, none⟩ = some (.int .i64 s) := HG5.out.cell 0 2 (Nat.le_of_ble_eq_true rfl) (Nat.le_of_ble_eq_true rfl)
  have q3 : (w4.alloc (.cells #[.slice r0 r1 r2, .slice t0 t1 t2, .bool false] 26)).cell? ⟨w1.heap.size, 3, none⟩ = some (.slice n0 n1 n2) := HG5.out.cell 0 3 (Nat.le_of_ble_eq_true rfl) (Nat.le_of_ble_eq_true rfl)
  have q4 : (w4.alloc (.cells #[.slice r0 r1 r2, .slice t0 t1 t2, .bool false] 26)).cell? ⟨w1.heap.size, 4, none⟩ = some (.slice gx0 gx1 gx2) := HG5.out.cell 0 4 (Nat.le_of_ble_eq_true rfl) (Nat.le_of_ble_eq_true rfl)
  have q5 : (w4.alloc (.cells #[.slice r0 r1 r2, .slice t0 t1 t2, .bool false] 26)).cell? ⟨w1.heap.size, 5, none⟩ = some (.slice gy0 gy1 gy2) := HG5.out.cell 0 5 (Nat.le_of_ble_eq_true rfl) (Nat.le_of_ble_eq_true rfl)
  have q6 : (w4.alloc (.cells #[.slice r0 r1 r2, .slice t0 t1 t2, .bool false] 26)).cell? ⟨w1.heap.size, 6, none⟩ = some (.bool false) := HG5.out.cell 0 6 (Nat.le_of_ble_eq_true rfl) (Nat.le_of_ble_eq_true rfl)
  have q7 : (w4.alloc (.cells #[.slice r0 r1 r2, .slice t0 t1 t2, .bool false] 26)).cell? ⟨w1.heap.size, 7, none⟩ = some (.func (.func 98) #[.agg #[.slice p0 p1 p2, .slice b0 b1 b2]] #[]) := HG5.out.cell 0 7 (Nat.le_of_ble_eq_true rfl) (Nat.le_of_ble_eq_true rfl)
  go_wp2_with fail
  clear q0 q1 q2 q3 q4 q5 q6 q7
  generalize (w4.alloc (.cells #[.slice r0 r1 r2, .slice t0 t1 t2, .bool false] 26)) = w5 at *
  have C := has_v n0 gx0 gy0 n1 n2 gx1 gx2 gy1 gy2 (.slice p0 p1 p2) (.slice b0 b1 b2) (.func (.func 98) #[.agg #[.slice p0 p1 p2, .slice b0 b1 b2]] #[]) _ _ s p b (bv lx) (bv ly) w5 Hs.out ⟨_, _, _, rfl⟩ Hp (HG.out.1.below HG5.out.bel (Nat.le_refl _)) (HG.out.2.below HG5.out.bel (Nat.le_refl _)) (HF5.out.got 1 (Nat.le_of_ble_eq_true rfl)).1 (HF5.out.got 0 (Nat.le_of_ble_eq_true rfl)).1 false
  rw [ho] at C
  refine C.mono ?_
  clear C
  rintro e w6 ⟨rfl, hB⟩
  have HF6 : Hid (Fm w w6 [(26, [.slice none 0 0, .slice none 0 0, .bool false])] [] [(.slice t0 t1 t2, bv ly, 384), (.slice r0 r1 r2, bv lx, 384)]) := HF5.out.below hB
  have HP6 : Hid (Fm w4 w6 [(26, [.slice r0 r1 r2, .slice t0 t1 t2, .bool false])] [] []) := HP5.out.below hB
  clear hB
  have c0 : w6.cell? ⟨w.heap.size, 0, none⟩ = some (.slice none 0 0) := HF6.out.cell 0 0 (Nat.le_of_ble_eq_true rfl) (Nat.le_of_ble_eq_true rfl)
  have c1 : w6.cell? ⟨w.heap.size, 1, none⟩ = some (.slice none 0 0) := HF6.out.cell 0 1 (Nat.le_of_ble_eq_true rfl) (Nat.le_of_ble_eq_true rfl)
  have c2 : w6.cell? ⟨w.heap.size, 2, none⟩ = some (.bool false) := HF6.out.cell 0 2 (Nat.le_of_ble_eq_true rfl) (Nat.le_of_ble_eq_true rfl)
  have f0 : w6.frozen? ⟨w.heap.size, 0, none⟩ = false := HF6.out.frozen 0 0 (Nat.le_of_ble_eq_true rfl)
  have f1 : w6.frozen? ⟨w.heap.size, 1, none⟩ = false := HF6.out.frozen 0 1 (Nat.le_of_ble_eq_true rfl)
  have f2 : w6.frozen? ⟨w.heap.size, 2, none⟩ = false := HF6.out.frozen 0 2 (Nat.le_of_ble_eq_true rfl)
  have k0 : w6.cell? ⟨w4.heap.size, 0, none⟩ = some (.slice r0 r1 r2) := HP6.out.cell 0 0 (Nat.le_of_ble_eq_true rfl) (Nat.le_of_ble_eq_true rfl)
  have k1 : w6.cell? ⟨w4.heap.size, 1, none⟩ = some (.slice t0 t1 t2) := HP6.out.cell 0 1 (Nat.le_of_ble_eq_true rfl) (Nat.le_of_ble_eq_true rfl)
  have k2 : w6.cell? ⟨w4.heap.size, 2, none⟩ = some (.bool false) := HP6.out.cell 0 2 (Nat.le_of_ble_eq_true rfl) (Nat.le_of_ble_eq_true rfl)
  go_wp2
  (try simp only [Exit.inBlock, Exit.then])
  have hb := (((But.refl w6 w.heap.size).set 0 (.slice r0 r1 r2)).set 1 (.slice t0 t1 t2)).set 2 (.bool false)
  refine bodyPost_ret (v := .tuple #[.agg #[.slice r0 r1 r2, .slice t0 t1 t2, .bool false], .int .i64 0]) ?_ rfl ⟨_, rfl, ⟨_, _, rfl, HF6.out.out 0 (by simp) hb 1 (by simp), HF6.out.out 0 (by simp) hb 0 (by simp), HF6.out.apt 0 1 (by simp) (by simp) (by decide)⟩, HF6.out.outB 0 (by simp) hb⟩
  rw [results_cell_tmp rfl]; go_simp
set_option maxHeartbeats 8000000 in
theorem decode_off {c s : Int} {p b n gx gy : Nat} (hk : Kv c p b n gx gy s) (ax ay : Option Addr) (cx cy : Nat) (lx ly : List UInt8) (w : World) (hx : Rd w ax lx) (hy : Rd w ay ly) (l1 : lx.length ≤ 100000000) (l2 : ly.length ≤ 100000000) (e1 : (lx.length : Int) = s) (e2 : (ly.length : Int) = s) (ho : onB p b (bv lx) (bv ly) false = false) :
    Calls Tryz.prog 29 #[.int .i64 c, .slice ax lx.length cx, .slice ay ly.length cy] w fun e w' => e = .returned (.tuple #[.agg #[.slice none 0 0, .slice none 0 0, .bool false], .int .i64 93]) ∧ Below w.heap.size w w' := by
  have HF0 : Hid (Fm w (w.alloc (.cells #[.slice none 0 0, .slice none 0 0, .bool false] 26)) [(26, [.slice none 0 0, .slice none 0 0, .bool false])] [] []) := ((Fm.nil (w := w) (A := []) ar_nil).push (by simp) 26 [.slice none 0 0, .slice none 0 0, .bool false])
  have Hs : Hid (s ≠ 0) := (by rcases hk.s0 with h | h <;> omega : s ≠ 0)
  have Hp : Hid (Pm p) := hk.pm
  have hsf : ∀ (w : World) (a : Addr) (fn : Fn) (x y : Array Value), Sem.run Tryz.prog (store a (.func fn x y)) w = _ := fun w a fn x y => run_store Tryz.prog w a (.func fn x y) _ rfl
  have hsn : ∀ (w : World) (a : Addr), Sem.run Tryz.prog (store a .nilFunc) w = _ := fun w a => run_store Tryz.prog w a .nilFunc _ rfl
  have HR : Hid (Rd w ax lx ∧ Rd w ay ly) := ⟨hx, hy⟩
  have HL : Hid (lx.length ≤ 48 ∧ ly.length ≤ 48) := (by rcases hk.s0 with h | h <;> omega : lx.length ≤ 48 ∧ ly.length ≤ 48)
  have d1 : (((lx.length : Nat) : Int) != s) = false := by simp; omega
  have d2 : (((ly.length : Nat) : Int) != s) = false := by simp; omega
  have l1' : Hid (lx.length ≤ 100000000) := l1
  have l2' : Hid (ly.length ≤ 100000000) := l2
  clear hx hy l1 l2
  go_enter Tryz.func29, Tryz.ntmps29
  go_wp2_with fail
  generalize (w.alloc (.cells #[.slice none 0 0, .slice none 0 0, .bool false] 26)) = w0 at *
  refine (of_kv hk _).mono ?_
  rintro e w1 ⟨g, rfl, ⟨pv, bv, nv, xv, yv, rfl, m1, m2, m3, m4, m5, ma⟩, hB⟩
  obtain ⟨n0, n1, n2, rfl⟩ := m3.nk.sl
  obtain ⟨gx0, gx1, gx2, rfl⟩ := m4.nk.sl
  obtain ⟨gy0, gy1, gy2, rfl⟩ := m5.nk.sl
  obtain ⟨p0, p1, p2, rfl⟩ := m1.nk.sl
  obtain ⟨b0, b1, b2, rfl⟩ := m2.nk.sl
  have HF1 : Hid (Fm w w1 [(26, [.slice none 0 0, .slice none 0 0, .bool false])] [] []) := HF0.out.below hB
  have HG : Hid (Nk w1 (.slice p0 p1 p2) p 384 ∧ Nk w1 (.slice b0 b1 b2) b 384) := ⟨m1.nk, m2.nk⟩
  clear m1 m2 m3 m4 m5 ma hB HF0
  go_wp2_with fail
  have HG2 : Hid (Fm w1 (w1.alloc (.cells #[.slice p0 p1 p2, .slice b0 b1 b2, .int .i64 s, .slice n0 n1 n2, .slice gx0 gx1 gx2, .slice gy0 gy1 gy2, .bool false, .func (.func 98) #[.agg #[.slice p0 p1 p2, .slice b0 b1 b2]] #[]] 57)) [(57, [.slice p0 p1 p2, .slice b0 b1 b2, .int .i64 s, .slice n0 n1 n2, .slice gx0 gx1 gx2, .slice gy0 gy1 gy2, .bool false, .func (.func 98) #[.agg #[.slice p0 p1 p2, .slice b0 b1 b2]] #[]])] [] []) := (Fm.nil (w := w1) (A := []) ar_nil).push (by simp) 57 [.slice p0 p1 p2, .slice b0 b1 b2, .int .i64 s, .slice n0 n1 n2, .slice gx0 gx1 gx2, .slice gy0 gy1 gy2, .bool false, .func (.func 98) #[.agg #[.slice p0 p1 p2, .slice b0 b1 b2]] #[]]
  have HF2 : Hid (Fm w (w1.alloc (.cells #[.slice p0 p1 p2, .slice b0 b1 b2, .int .i64 s, .slice n0 n1 n2, .slice gx0 gx1 gx2, .slice gy0 gy1 gy2, .bool false, .func (.func 98) #[.agg #[.slice p0 p1 p2, .slice b0 b1 b2]] #[]] 57)) [(26, [.slice none 0 0, .slice none 0 0, .bool false])] [] []) := HF1.out.below HG2.out.bel
  generalize (w1.alloc (.cells #[.slice p0 p1 p2, .slice b0 b1 b2, .int .i64 s, .slice n0 n1 n2, .slice gx0 gx1 gx2, .slice gy0 gy1 gy2, .bool false, .func (.func 98) #[.agg #[.slice p0 p1 p2, .slice b0 b1 b2]] #[]] 57)) = w2 at *
  refine (fromBytes_any ax cx lx w2 (HR.out.1.below HF2.out.bel (Nat.le_refl _)) l1'.out).mono ?_
  rintro e w3 ⟨r, rfl, hO, hB⟩
  obtain ⟨r0, r1, r2, rfl⟩ : Sl3 r := (by obtain ⟨a, c, e, _⟩ := hO.nm (dg_sm Bs_two _); exact ⟨_, _, _, e⟩)
  have HF3 : Hid (Fm w w3 [(26, [.slice none 0 0, .slice none 0 0, .bool false])] [] [(.slice r0 r1 r2, bv lx, 384)]) := HF2.out.step ⟨⟨hO, Nat.le_trans (dgl_pw (bv_pw HL.out.1) (by decide)) (by decide), hB⟩, bv_pw HL.out.1⟩
  have HG3 : Hid (Fm w1 w3 [(57, [.slice p0 p1 p2, .slice b0 b1 b2, .int .i64 s, .slice n0 n1 n2, .slice gx0 gx1 gx2, .slice gy0 gy1 gy2, .bool false, .func (.func 98) #[.agg #[.slice p0 p1 p2, .slice b0 b1 b2]] #[]])] [] []) := HG2.out.below hB
  clear hO hB
  go_wp2_with fail
  refine (fromBytes_any ay cy ly w3 (HR.out.2.below HF3.out.bel (Nat.le_refl _)) l2'.out).mono ?_
  rintro e w4 ⟨t, rfl, hO, hB⟩
  obtain ⟨t0, t1, t2, rfl⟩ : Sl3 t := (by obtain ⟨a, c, e, _⟩ := hO.nm (dg_sm Bs_two _); exact ⟨_, _, _, e⟩)
  have HF4 : Hid (Fm w w4 [(26, [.slice none 0 0, .slice none 0 0, .bool false])] [] [(.slice t0 t1 t2, bv ly, 384), (.slice r0 r1 r2, bv lx, 384)]) := HF3.out.step ⟨⟨hO, Nat.le_trans (dgl_pw (bv_pw HL.out.2) (by decide)) (by decide), hB⟩, bv_pw HL.out.2⟩
  have HG4 : Hid (Fm w1 w4 [(57, [.slice p0 p1 p2, .slice b0 b1 b2, .int .i64 s, .slice n0 n1 n2, .slice gx0 gx1 gx2, .slice gy0 gy1 gy2, .bool false, .func (.func 98) #[.agg #[.slice p0 p1 p2, .slice b0 b1 b2]] #[]])] [] []) := HG3.out.below hB
  clear hO hB
  have HF5 : Hid (Fm w (w4.alloc (.cells #[.slice r0 r1 r2, .slice t0 t1 t2, .bool false] 26)) [(26, [.slice none 0 0, .slice none 0 0, .bool false])] [] [(.slice t0 t1 t2, bv ly, 384), (.slice r0 r1 r2, bv lx, 384)]) := HF4.out.below (alloc_below _ _)
  have HG5 : Hid (Fm w1 (w4.alloc (.cells #[.slice r0 r1 r2, .slice t0 t1 t2, .bool false] 26)) [(57, [.slice p0 p1 p2, .slice b0 b1 b2, .int .i64 s, .slice n0 n1 n2, .slice gx0 gx1 gx2, .slice gy0 gy1 gy2, .bool false, .func (.func 98) #[.agg #[.slice p0 p1 p2, .slice b0 b1 b2]] #[]])] [] []) := HG4.out.below (alloc_below _ _)
  have HP5 : Hid (Fm w4 (w4.alloc (.cells #[.slice r0 r1 r2, .slice t0 t1 t2, .bool false] 26)) [(26, [.slice r0 r1 r2, .slice t0 t1 t2, .bool false])] [] []) := (Fm.nil (w := w4) (A := []) ar_nil).push (by simp) 26 [.slice r0 r1 r2, .slice t0 t1 t2, .bool false]
  have q0 : (w4.alloc (.cells #[.slice r0 r1 r2, .slice t0 t1 t2, .bool false] 26)).cell? ⟨w1.heap.size, 0, none⟩ = some (.slice p0 p1 p2) := HG5.out.cell 0 0 (Nat.le_of_ble_eq_true rfl) (Nat.le_of_ble_eq_true rfl)
  have q1 : (w4.alloc (.cells #[.slice r0 r1 r2, .slice t0 t1 t2, .bool false] 26)).cell? ⟨w1.heap.size, 1, none⟩ = some (.slice b0 b1 b2) := HG5.out.cell 0 1 (Nat.le_of_ble_eq_true rfl) (Nat.le_of_ble_eq_true rfl)
  have q2 : (w4.alloc (.cells #[.slice r0 r1 r2, .slice t0 t1 t2, .bool false] 26)).cell? ⟨w1.heap.size, 2, none⟩ = some (.int .i64 s) := HG5.out.cell 0 2 (Nat.le_of_ble_eq_true rfl) (Nat.le_of_ble_eq_true rfl)
  have q3 : (w4.alloc (.cells #[.slice r0 r1 r2, .slice t0 t1 t2, .bool false] 26)).cell? ⟨w1.heap.size, 3, none⟩ = some (.slice n0 n1 n2) := HG5.out.cell 0 3 (Nat.le_of_ble_eq_true rfl) (Nat.le_of_ble_eq_true rfl)
  have q4 : (w4.alloc (.cells #[.slice r0 r1 r2, .slice t0 t1 t2, .bool false] 26)).cell? ⟨w1.heap.size, 4, none⟩ = some (.slice gx0 gx1 gx2) := HG5.out.cell 0 4 (Nat.le_of_ble_eq_true rfl) (Nat.le_of_ble_eq_true rfl)
  have q5 : (w4.alloc (.cells #[.slice r0 r1 r2, .slice t0 t1 t2, .bool false] 26)).cell? ⟨w1.heap.size, 5, none⟩ = some (.slice gy0 gy1 gy2) := HG5.out.cell 0 5 (Nat.le_of_ble_eq_true rfl) (Nat.le_of_ble_eq_true rfl)
  have q6 : (w4.alloc (.cells #[.slice r0 r1 r2, .slice t0 t1 t2, .bool false] 26)).cell? ⟨w1.heap.size, 6, none⟩ = some (.bool false) := HG5.out.cell 0 6 (Nat.le_of_ble_eq_true rfl) (Nat.le_of_ble_eq_true rfl)
  have q7 : (w4.alloc (.cells #[.slice r0 r1 r2, .slice t0 t1 t2, .bool false] 26)).cell? ⟨w1.heap.size, 7, none⟩ = some (.func (.func 98) #[.agg #[.slice p0 p1 p2, .slice b0 b1 b2]] #[]) := HG5.out.cell 0 7 (Nat.le_of_ble_eq_true rfl) (Nat.le_of_ble_eq_true rfl)
  go_wp2_with fail
  clear q0 q1 q2 q3 q4 q5 q6 q7
  generalize (w4.alloc (.cells #[.slice r0 r1 r2, .slice t0 t1 t2, .bool false] 26)) = w5 at *
  have C := has_v n0 gx0 gy0 n1 n2 gx1 gx2 gy1 gy2 (.slice p0 p1 p2) (.slice b0 b1 b2) (.func (.func 98) #[.agg #[.slice p0 p1 p2, .slice b0 b1 b2]] #[]) _ _ s p b (bv lx) (bv ly) w5 Hs.out ⟨_, _, _, rfl⟩ Hp (HG.out.1.below HG5.out.bel (Nat.le_refl _)) (HG.out.2.below HG5.out.bel (Nat.le_refl _)) (HF5.out.got 1 (Nat.le_of_ble_eq_true rfl)).1 (HF5.out.got 0 (Nat.le_of_ble_eq_true rfl)).1 false
  rw [ho] at C
  refine C.mono ?_
  clear C
  rintro e w6 ⟨rfl, hB⟩
  have HF6 : Hid (Fm w w6 [(26, [.slice none 0 0, .slice none 0 0, .bool false])] [] [(.slice t0 t1 t2, bv ly, 384), (.slice r0 r1 r2, bv lx, 384)]) := HF5.out.below hB
  have HP6 : Hid (Fm w4 w6 [(26, [.slice r0 r1 r2, .slice t0 t1 t2, .bool false])] [] []) := HP5.out.below hB
  clear hB
  have c0 : w6.cell? ⟨w.heap.size, 0, none⟩ = some (.slice none 0 0) := HF6.out.cell 0 0 (Nat.le_of_ble_eq_true rfl) (Nat.le_of_ble_eq_true rfl)
  have c1 : w6.cell? ⟨w.heap.size, 1, none⟩ = some (.slice none 0 0) := HF6.out.cell 0 1 (Nat.le_of_ble_eq_true rfl) (Nat.le_of_ble_eq_true rfl)
  have c2 : w6.cell? ⟨w.heap.size, 2, none⟩ = some (.bool false) := HF6.out.cell 0 2 (Nat.le_of_ble_eq_true rfl) (Nat.le_of_ble_eq_true rfl)
  have f0 : w6.frozen? ⟨w.heap.size, 0, none⟩ = false := HF6.out.frozen 0 0 (Nat.le_of_ble_eq_true rfl)
  have f1 : w6.frozen? ⟨w.heap.size, 1, none⟩ = false := HF6.out.frozen 0 1 (Nat.le_of_ble_eq_true rfl)
  have f2 : w6.frozen? ⟨w.heap.size, 2, none⟩ = false := HF6.out.frozen 0 2 (Nat.le_of_ble_eq_true rfl)
  go_wp2
  (try simp only [Exit.inBlock, Exit.then])
  have hb := (((But.refl w6 w.heap.size).set 0 (.slice none 0 0)).set 1 (.slice none 0 0)).set 2 (.bool false)
  refine bodyPost_ret (v := .tuple #[.agg #[.slice none 0 0, .slice none 0 0, .bool false], .int .i64 93]) ?_ rfl ⟨rfl, HF6.out.outB 0 (by simp) hb⟩
  rw [results_cell_tmp rfl]; go_simp
set_option maxHeartbeats 8000000 in
theorem decode_len1 {c s : Int} {p b n gx gy : Nat} (hk : Kv c p b n gx gy s) (ax ay : Option Addr) (cx cy : Nat) (lx ly : List UInt8) (w : World) (hx : Rd w ax lx) (hy : Rd w ay ly) (l1 : lx.length ≤ 100000000) (l2 : ly.length ≤ 100000000) (e1 : (lx.length : Int) ≠ s) :
    Calls Tryz.prog 29 #[.int .i64 c, .slice ax lx.length cx, .slice ay ly.length cy] w fun e w' => e = .returned (.tuple #[.agg #[.slice none 0 0, .slice none 0 0, .bool false], .int .i64 93]) ∧ Below w.heap.size w w' := by
  have HF0 : Hid (Fm w (w.alloc (.cells #[.slice none 0 0, .slice none 0 0, .bool false] 26)) [(26, [.slice none 0 0, .slice none 0 0, .bool false])] [] []) := ((Fm.nil (w := w) (A := []) ar_nil).push (by simp) 26 [.slice none 0 0, .slice none 0 0, .bool false])
  have Hs : Hid (s ≠ 0) := (by rcases hk.s0 with h | h <;> omega : s ≠ 0)
  have Hp : Hid (Pm p) := hk.pm
  have hsf : ∀ (w : World) (a : Addr) (fn : Fn) (x y : Array Value), Sem.run Tryz.prog (store a (.func fn x y)) w = _ := fun w a fn x y => run_store Tryz.prog w a (.func fn x y) _ rfl
  have hsn : ∀ (w : World) (a : Addr), Sem.run Tryz.prog (store a .nilFunc) w = _ := fun w a => run_store Tryz.prog w a .nilFunc _ rfl
  have HR : Hid (Rd w ax lx ∧ Rd w ay ly) := ⟨hx, hy⟩
  have d1 : (((lx.length : Nat) : Int) != s) = true := by simp; omega
  have l1' : Hid (lx.length ≤ 100000000) := l1
  have l2' : Hid (ly.length ≤ 100000000) := l2
  clear hx hy l1 l2
  go_enter Tryz.func29, Tryz.ntmps29
  go_wp2_with fail
  generalize (w.alloc (.cells #[.slice none 0 0, .slice none 0 0, .bool false] 26)) = w0 at *
  refine (of_kv hk _).mono ?_
  rintro e w1 ⟨g, rfl, ⟨pv, bv, nv, xv, yv, rfl, m1, m2, m3, m4, m5, ma⟩, hB⟩
  obtain ⟨n0, n1, n2, rfl⟩ := m3.nk.sl
  obtain ⟨gx0, gx1, gx2, rfl⟩ := m4.nk.sl
  obtain ⟨gy0, gy1, gy2, rfl⟩ := m5.nk.sl
  obtain ⟨p0, p1, p2, rfl⟩ := m1.nk.sl
  obtain ⟨b0, b1, b2, rfl⟩ := m2.nk.sl
  have HF1 : Hid (Fm w w1 [(26, [.slice none 0 0, .slice none 0 0, .bool false])] [] []) := HF0.out.below hB
  have HG : Hid (Nk w1 (.slice p0 p1 p2) p 384 ∧ Nk w1 (.slice b0 b1 b2) b 384) := ⟨m1.nk, m2.nk⟩
  clear m1 m2 m3 m4 m5 ma hB HF0
  go_wp2_with fail
  have HG2 : Hid (Fm w1 (w1.alloc (.cells #[.slice p0 p1 p2, .slice b0 b1 b2, .int .i64 s, .slice n0 n1 n2, .slice gx0 gx1 gx2, .slice gy0 gy1 gy2, .bool false, .func (.func 98) #[.agg #[.slice p0 p1 p2, .slice b0 b1 b2]] #[]] 57)) [(57, [.slice p0 p1 p2, .slice b0 b1 b2, .int .i64 s, .slice n0 n1 n2, .slice gx0 gx1 gx2, .slice gy0 gy1 gy2, .bool false, .func (.func 98) #[.agg #[.slice p0 p1 p2, .slice b0 b1 b2]] #[]])] [] []) := (Fm.nil (w := w1) (A := []) ar_nil).push (by simp) 57 [.slice p0 p1 p2, .slice b0 b1 b2, .int .i64 s, .slice n0 n1 n2, .slice gx0 gx1 gx2, .slice gy0 gy1 gy2, .bool false, .func (.func 98) #[.agg #[.slice p0 p1 p2, .slice b0 b1 b2]] #[]]
  have HF2 : Hid (Fm w (w1.alloc (.cells #[.slice p0 p1 p2, .slice b0 b1 b2, .int .i64 s, .slice n0 n1 n2, .slice gx0 gx1 gx2, .slice gy0 gy1 gy2, .bool false, .func (.func 98) #[.agg #[.slice p0 p1 p2, .slice b0 b1 b2]] #[]] 57)) [(26, [.slice none 0 0, .slice none 0 0, .bool false])] [] []) := HF1.out.below HG2.out.bel
  generalize (w1.alloc (.cells #[.slice p0 p1 p2, .slice b0 b1 b2, .int .i64 s, .slice n0 n1 n2, .slice gx0 gx1 gx2, .slice gy0 gy1 gy2, .bool false, .func (.func 98) #[.agg #[.slice p0 p1 p2, .slice b0 b1 b2]] #[]] 57)) = w2 at *
  refine (fromBytes_any ax cx lx w2 (HR.out.1.below HF2.out.bel (Nat.le_refl _)) l1'.out).mono ?_
  rintro e w3 ⟨r, rfl, hO, hB⟩
  obtain ⟨r0, r1, r2, rfl⟩ : Sl3 r := (by obtain ⟨a, c, e, _⟩ := hO.nm (dg_sm Bs_two _); exact ⟨_, _, _, e⟩)
  have HF3 : Hid (Fm w w3 [(26, [.slice none 0 0, .slice none 0 0, .bool false])] [] []) := HF2.out.below hB
  have HG3 : Hid (Fm w1 w3 [(57, [.slice p0 p1 p2, .slice b0 b1 b2, .int .i64 s, .slice n0 n1 n2, .slice gx0 gx1 gx2, .slice gy0 gy1 gy2, .bool false, .func (.func 98) #[.agg #[.slice p0 p1 p2, .slice b0 b1 b2]] #[]])] [] []) := HG2.out.below hB
  clear hO hB
  go_wp2_with fail
  refine (fromBytes_any ay cy ly w3 (HR.out.2.below HF3.out.bel (Nat.le_refl _)) l2'.out).mono ?_
  rintro e w4 ⟨t, rfl, hO, hB⟩
  obtain ⟨t0, t1, t2, rfl⟩ : Sl3 t := (by obtain ⟨a, c, e, _⟩ := hO.nm (dg_sm Bs_two _); exact ⟨_, _, _, e⟩)
  have HF4 : Hid (Fm w w4 [(26, [.slice none 0 0, .slice none 0 0, .bool false])] [] []) := HF3.out.below hB
  have HG4 : Hid (Fm w1 w4 [(57, [.slice p0 p1 p2, .slice b0 b1 b2, .int .i64 s, .slice n0 n1 n2, .slice gx0 gx1 gx2, .slice gy0 gy1 gy2, .bool false, .func (.func 98) #[.agg #[.slice p0 p1 p2, .slice b0 b1 b2]] #[]])] [] []) := HG3.out.below hB
  clear hO hB
  have HF5 : Hid (Fm w (w4.alloc (.cells #[.slice r0 r1 r2, .slice t0 t1 t2, .bool false] 26)) [(26, [.slice none 0 0, .slice none 0 0, .bool false])] [] []) := HF4.out.below (alloc_below _ _)
  have HG5 : Hid (Fm w1 (w4.alloc (.cells #[.slice r0 r1 r2, .slice t0 t1 t2, .bool false] 26)) [(57, [.slice p0 p1 p2, .slice b0 b1 b2, .int .i64 s, .slice n0 n1 n2, .slice gx0 gx1 gx2, .slice gy0 gy1 gy2, .bool false, .func (.func 98) #[.agg #[.slice p0 p1 p2, .slice b0 b1 b2]] #[]])] [] []) := HG4.out.below (alloc_below _ _)
  have HP5 : Hid (Fm w4 (w4.alloc (.cells #[.slice r0 r1 r2, .slice t0 t1 t2, .bool false] 26)) [(26, [.slice r0 r1 r2, .slice t0 t1 t2, .bool false])] [] []) := (Fm.nil (w := w4) (A := []) ar_nil).push (by simp) 26 [.slice r0 r1 r2, .slice t0 t1 t2, .bool false]
  have q2 : (w4.alloc (.cells #[.slice r0 r1 r2, .slice t0 t1 t2, .bool false] 26)).cell? ⟨w1.heap.size, 2, none⟩ = some (.int .i64 s) := HG5.out.cell 0 2 (Nat.le_of_ble_eq_true rfl) (Nat.le_of_ble_eq_true rfl)
  have c0 : (w4.alloc (.cells #[.slice r0 r1 r2, .slice t0 t1 t2, .bool false] 26)).cell? ⟨w.heap.size, 0, none⟩ = some (.slice none 0 0) := HF5.out.cell 0 0 (Nat.le_of_ble_eq_true rfl) (Nat.le_of_ble_eq_true rfl)
  have c1 : (w4.alloc (.cells #[.slice r0 r1 r2, .slice t0 t1 t2, .bool false] 26)).cell? ⟨w.heap.size, 1, none⟩ = some (.slice none 0 0) := HF5.out.cell 0 1 (Nat.le_of_ble_eq_true rfl) (Nat.le_of_ble_eq_true rfl)
  have c2 : (w4.alloc (.cells #[.slice r0 r1 r2, .slice t0 t1 t2, .bool false] 26)).cell? ⟨w.heap.size, 2, none⟩ = some (.bool false) := HF5.out.cell 0 2 (Nat.le_of_ble_eq_true rfl) (Nat.le_of_ble_eq_true rfl)
  have f0 : (w4.alloc (.cells #[.slice r0 r1 r2, .slice t0 t1 t2, .bool false] 26)).frozen? ⟨w.heap.size, 0, none⟩ = false := HF5.out.frozen 0 0 (Nat.le_of_ble_eq_true rfl)
  have f1 : (w4.alloc (.cells #[.slice r0 r1 r2, .slice t0 t1 t2, .bool false] 26)).frozen? ⟨w.heap.size, 1, none⟩ = false := HF5.out.frozen 0 1 (Nat.le_of_ble_eq_true rfl)
  have f2 : (w4.alloc (.cells #[.slice r0 r1 r2, .slice t0 t1 t2, .bool false] 26)).frozen? ⟨w.heap.size, 2, none⟩ = false := HF5.out.frozen 0 2 (Nat.le_of_ble_eq_true rfl)
  go_wp2
  (try simp only [Exit.inBlock, Exit.then])
  have hb := (((But.refl (w4.alloc (.cells #[.slice r0 r1 r2, .slice t0 t1 t2, .bool false] 26)) w.heap.size).set 0 (.slice none 0 0)).set 1 (.slice none 0 0)).set 2 (.bool false)
  refine bodyPost_ret (v := .tuple #[.agg #[.slice none 0 0, .slice none 0 0, .bool false], .int .i64 93]) ?_ rfl ⟨rfl, HF5.out.outB 0 (by simp) hb⟩
  rw [results_cell_tmp rfl]; go_simp
set_option maxHeartbeats 8000000 in
theorem decode_len2 {c s : Int} {p b n gx gy : Nat} (hk : Kv c p b n gx gy s) (ax ay : Option Addr) (cx cy : Nat) (lx ly : List UInt8) (w : World) (hx : Rd w ax lx) (hy : Rd w ay ly) (l1 : lx.length ≤ 100000000) (l2 : ly.length ≤ 100000000) (e1 : (lx.length : Int) = s) (e2 : (ly.length : Int) ≠ s) :
    Calls Tryz.prog 29 #[.int .i64 c, .slice ax lx.length cx, .slice ay ly.length cy] w fun e w' => e = .returned (.tuple #[.agg #[.slice none 0 0, .slice none 0 0, .bool false], .int .i64 93]) ∧ Below w.heap.size w w' := by
  have HF0 : Hid (Fm w (w.alloc (.cells #[.slice none 0 0, .slice none 0 0, .bool false] 26)) [(26, [.slice none 0 0, .slice none 0 0, .bool false])] [] []) := ((Fm.nil (w := w) (A := []) ar_nil).push (by simp) 26 [.slice none 0 0, .slice none 0 0, .bool false])
  have Hs : Hid (s ≠ 0) := (by rcases hk.s0 with h | h <;> omega : s ≠ 0)
  have Hp : Hid (Pm p) := hk.pm
  have hsf : ∀ (w : World) (a : Addr) (fn : Fn) (x y : Array Value), Sem.run Tryz.prog (store a (.func fn x y)) w = _ := fun w a fn x y => run_store Tryz.prog w a (.func fn x y) _ rfl
  have hsn : ∀ (w : World) (a : Addr), Sem.run Tryz.prog (store a .nilFunc) w = _ := fun w a => run_store Tryz.prog w a .nilFunc _ rfl
  have HR : Hid (Rd w ax lx ∧ Rd w ay ly) := ⟨hx, hy⟩
  have d1 : (((lx.length : Nat) : Int) != s) = false := by simp; omega
  have d2 : (((ly.length : Nat) : Int) != s) = true := by simp; omega
  have l1' : Hid (lx.length ≤ 100000000) := l1
  have l2' : Hid (ly.length ≤ 100000000) := l2
  clear hx hy l1 l2
  go_enter Tryz.func29, Tryz.ntmps29
  go_wp2_with fail
  generalize (w.alloc (.cells #[.slice none 0 0, .slice none 0 0, .bool false] 26)) = w0 at *
  refine (of_kv hk _).mono ?_
  rintro e w1 ⟨g, rfl, ⟨pv, bv, nv, xv, yv, rfl, m1, m2, m3, m4, m5, ma⟩, hB⟩
  obtain ⟨n0, n1, n2, rfl⟩ := m3.nk.sl
  obtain ⟨gx0, gx1, gx2, rfl⟩ := m4.nk.sl
  obtain ⟨gy0, gy1, gy2, rfl⟩ := m5.nk.sl
  obtain ⟨p0, p1, p2, rfl⟩ := m1.nk.sl
  obtain ⟨b0, b1, b2, rfl⟩ := m2.nk.sl
  have HF1 : Hid (Fm w w1 [(26, [.slice none 0 0, .slice none 0 0, .bool false])] [] []) := HF0.out.below hB
  have HG : Hid (Nk w1 (.slice p0 p1 p2) p 384 ∧ Nk w1 (.slice b0 b1 b2) b 384) := ⟨m1.nk, m2.nk⟩
  clear m1 m2 m3 m4 m5 ma hB HF0
  go_wp2_with fail
  have HG2 : Hid (Fm w1 (w1.alloc (.cells #[.slice p0 p1 p2, .slice b0 b1 b2, .int .i64 s, .slice n0 n1 n2, .slice gx0 gx1 gx2, .slice gy0 gy1 gy2, .bool false, .func (.func 98) #[.agg #[.slice p0 p1 p2, .slice b0 b1 b2]] #[]] 57)) [(57, [.slice p0 p1 p2, .slice b0 b1 b2, .int .i64 s, .slice n0 n1 n2, .slice gx0 gx1 gx2, .slice gy0 gy1 gy2, .bool false, .func (.func 98) #[.agg #[.slice p0 p1 p2, .slice b0 b1 b2]] #[]])] [] []) := (Fm.nil (w := w1) (A := []) ar_nil).push (by simp) 57 [.slice p0 p1 p2, .slice b0 b1 b2, .int .i64 s, .slice n0 n1 n2, .slice gx0 gx1 gx2, .slice gy0 gy1 gy2, .bool false, .func (.func 98) #[.agg #[.slice p0 p1 p2, .slice b0 b1 b2]] #[]]
  have HF2 : Hid (Fm w (w1.alloc (.cells #[.slice p0 p1 p2, .slice b0 b1 b2, .int .i64 s, .slice n0 n1 n2, .slice gx0 gx1 gx2, .slice gy0 gy1 gy2, .bool false, .func (.func 98) #[.agg #[.slice p0 p1 p2, .slice b0 b1 b2]] #[]] 57)) [(26, [.slice none 0 0, .slice none 0 0, .bool false])] [] []) := HF1.out.below HG2.out.bel
  generalize (w1.alloc (.cells #[.slice p0 p1 p2, .slice b0 b1 b2, .int .i64 s, .slice n0 n1 n2, .slice gx0 gx1 gx2, .slice gy0 gy1 gy2, .bool false, .func (.func 98) #[.agg #[.slice p0 p1 p2, .slice b0 b1 b2]] #[]] 57)) = w2 at *
  refine (fromBytes_any ax cx lx w2 (HR.out.1.below HF2.out.bel (Nat.le_refl _)) l1'.out).mono ?_
  rintro e w3 ⟨r, rfl, hO, hB⟩
  obtain ⟨r0, r1, r2, rfl⟩ : Sl3 r := (by obtain ⟨a, c, e, _⟩ := hO.nm (dg_sm Bs_two _); exact ⟨_, _, _, e⟩)
  have HF3 : Hid (Fm w w3 [(26, [.slice none 0 0, .slice none 0 0, .bool false])] [] []) := HF2.out.below hB
  have HG3 : Hid (Fm w1 w3 [(57, [.slice p0 p1 p2, .slice b0 b1 b2, .int .i64 s, .slice n0 n1 n2, .slice gx0 gx1 gx2, .slice gy0 gy1 gy2, .bool false, .func (.func 98) #[.agg #[.slice p0 p1 p2, .slice b0 b1 b2]] #[]])] [] []) := HG2.out.below hB
  clear hO hB
  go_wp2_with fail
  refine (fromBytes_any ay cy ly w3 (HR.out.2.below HF3.out.bel (Nat.le_refl _)) l2'.out).mono ?_
  rintro e w4 ⟨t, rfl, hO, hB⟩
  obtain ⟨t0, t1, t2, rfl⟩ : Sl3 t := (by obtain ⟨a, c, e, _⟩ := hO.nm (dg_sm Bs_two _); exact ⟨_, _, _, e⟩)
  have HF4 : Hid (Fm w w4 [(26, [.slice none 0 0, .slice none 0 0, .bool false])] [] []) := HF3.out.below hB
  have HG4 : Hid (Fm w1 w4 [(57, [.slice p0 p1 p2, .slice b0 b1 b2, .int .i64 s, .slice n0 n1 n2, .slice gx0 gx1 gx2, .slice gy0 gy1 gy2, .bool false, .func (.func 98) #[.agg #[.slice p0 p1 p2, .slice b0 b1 b2]] #[]])] [] []) := HG3.out.below hB
  clear hO hB
  have HF5 : Hid (Fm w (w4.alloc (.cells #[.slice r0 r1 r2, .slice t0 t1 t2, .bool false] 26)) [(26, [.slice none 0 0, .slice none 0 0, .bool false])] [] []) := HF4.out.below (alloc_below _ _)
  have HG5 : Hid (Fm w1 (w4.alloc (.cells #[.slice r0 r1 r2, .slice t0 t1 t2, .bool false] 26)) [(57, [.slice p0 p1 p2, .slice b0 b1 b2, .int .i64 s, .slice n0 n1 n2, .slice gx0 gx1 gx2, .slice gy0 gy1 gy2, .bool false, .func (.func 98) #[.agg #[.slice p0 p1 p2, .slice b0 b1 b2]] #[]])] [] []) := HG4.out.below (alloc_below _ _)
  have HP5 : Hid (Fm w4 (w4.alloc (.cells #[.slice r0 r1 r2, .slice t0 t1 t2, .bool false] 26)) [(26, [.slice r0 r1 r2, .slice t0 t1 t2, .bool false])] [] []) := (Fm.nil (w := w4) (A := []) ar_nil).push (by simp) 26 [.slice r0 r1 r2, .slice t0 t1 t2, .bool false]
  have q2 : (w4.alloc (.cells #[.slice r0 r1 r2, .slice t0 t1 t2, .bool false] 26)).cell? ⟨w1.heap.size, 2, none⟩ = some (.int .i64 s) := HG5.out.cell 0 2 (Nat.le_of_ble_eq_true rfl) (Nat.le_of_ble_eq_true rfl)
  have c0 : (w4.alloc (.cells #[.slice r0 r1 r2, .slice t0 t1 t2, .bool false] 26)).cell? ⟨w.heap.size, 0, none⟩ = some (.slice none 0 0) := HF5.out.cell 0 0 (Nat.le_of_ble_eq_true rfl) (Nat.le_of_ble_eq_true rfl)
  have c1 : (w4.alloc (.cells #[.slice r0 r1 r2, .slice t0 t1 t2, .bool false] 26)).cell? ⟨w.heap.size, 1, none⟩ = some (.slice none 0 0) := HF5.out.cell 0 1 (Nat.le_of_ble_eq_true rfl) (Nat.le_of_ble_eq_true rfl)
  have c2 : (w4.alloc (.cells #[.slice r0 r1 r2, .slice t0 t1 t2, .bool false] 26)).cell? ⟨w.heap.size, 2, none⟩ = some (.bool false) := HF5.out.cell 0 2 (Nat.le_of_ble_eq_true rfl) (Nat.le_of_ble_eq_true rfl)
  have f0 : (w4.alloc (.cells #[.slice r0 r1 r2, .slice t0 t1 t2, .bool false] 26)).frozen? ⟨w.heap.size, 0, none⟩ = false := HF5.out.frozen 0 0 (Nat.le_of_ble_eq_true rfl)
  have f1 : (w4.alloc (.cells #[.slice r0 r1 r2, .slice t0 t1 t2, .bool false] 26)).frozen? ⟨w.heap.size, 1, none⟩ = false := HF5.out.frozen 0 1 (Nat.le_of_ble_eq_true rfl)
  have f2 : (w4.alloc (.cells #[.slice r0 r1 r2, .slice t0 t1 t2, .bool false] 26)).frozen? ⟨w.heap.size, 2, none⟩ = false := HF5.out.frozen 0 2 (Nat.le_of_ble_eq_true rfl)
  go_wp2
  (try simp only [Exit.inBlock, Exit.then])
  have hb := (((But.refl (w4.alloc (.cells #[.slice r0 r1 r2, .slice t0 t1 t2, .bool false] 26)) w.heap.size).set 0 (.slice none 0 0)).set 1 (.slice none 0 0)).set 2 (.bool false)
  refine bodyPost_ret (v := .tuple #[.agg #[.slice none 0 0, .slice none 0 0, .bool false], .int .i64 93]) ?_ rfl ⟨rfl, HF5.out.outB 0 (by simp) hb⟩
  rw [results_cell_tmp rfl]; go_simp
set_option maxHeartbeats 8000000 in
theorem decode_none (c : Int) (h1 : c ≠ 1) (h2 : c ≠ 2) (ax ay : Option Addr) (cx cy : Nat) (lx ly : List UInt8) (w : World) (hx : Rd w ax lx) (hy : Rd w ay ly) (l1 : lx.length ≤ 100000000) (l2 : ly.length ≤ 100000000)  :
    Calls Tryz.prog 29 #[.int .i64 c, .slice ax lx.length cx, .slice ay ly.length cy] w fun e w' => e = .returned (.tuple #[.agg #[.slice none 0 0, .slice none 0 0, .bool false], .int .i64 93]) ∧ Below w.heap.size w w' := by
  have HF0 : Hid (Fm w (w.alloc (.cells #[.slice none 0 0, .slice none 0 0, .bool false] 26)) [(26, [.slice none 0 0, .slice none 0 0, .bool false])] [] []) := ((Fm.nil (w := w) (A := []) ar_nil).push (by simp) 26 [.slice none 0 0, .slice none 0 0, .bool false])
  have hsf : ∀ (w : World) (a : Addr) (fn : Fn) (x y : Array Value), Sem.run Tryz.prog (store a (.func fn x y)) w = _ := fun w a fn x y => run_store Tryz.prog w a (.func fn x y) _ rfl
  have hsn : ∀ (w : World) (a : Addr), Sem.run Tryz.prog (store a .nilFunc) w = _ := fun w a => run_store Tryz.prog w a .nilFunc _ rfl
  have HR : Hid (Rd w ax lx ∧ Rd w ay ly) := ⟨hx, hy⟩
  have l1' : Hid (lx.length ≤ 100000000) := l1
  have l2' : Hid (ly.length ≤ 100000000) := l2
  clear hx hy l1 l2
  go_enter Tryz.func29, Tryz.ntmps29
  go_wp2_with fail
  generalize (w.alloc (.cells #[.slice none 0 0, .slice none 0 0, .bool false] 26)) = w0 at *
  refine (of_none c _ h1 h2).mono ?_
  rintro e w1 ⟨rfl, hB⟩
  have HF1 : Hid (Fm w w1 [(26, [.slice none 0 0, .slice none 0 0, .bool false])] [] []) := HF0.out.below hB
  clear hB HF0
  go_wp2_with fail
  have HG2 : Hid (Fm w1 (w1.alloc (.cells #[.slice none 0 0, .slice none 0 0, .int .i64 0, .slice none 0 0, .slice none 0 0, .slice none 0 0, .bool false, .nilFunc] 57)) [(57, [.slice none 0 0, .slice none 0 0, .int .i64 0, .slice none 0 0, .slice none 0 0, .slice none 0 0, .bool false, .nilFunc])] [] []) := (Fm.nil (w := w1) (A := []) ar_nil).push (by simp) 57 [.slice none 0 0, .slice none 0 0, .int .i64 0, .slice none 0 0, .slice none 0 0, .slice none 0 0, .bool false, .nilFunc]
  have HF2 : Hid (Fm w (w1.alloc (.cells #[.slice none 0 0, .slice none 0 0, .int .i64 0, .slice none 0 0, .slice none 0 0, .slice none 0 0, .bool false, .nilFunc] 57)) [(26, [.slice none 0 0, .slice none 0 0, .bool false])] [] []) := HF1.out.below HG2.out.bel
  generalize (w1.alloc (.cells #[.slice none 0 0, .slice none 0 0, .int .i64 0, .slice none 0 0, .slice none 0 0, .slice none 0 0, .bool false, .nilFunc] 57)) = w2 at *
  refine (fromBytes_any ax cx lx w2 (HR.out.1.below HF2.out.bel (Nat.le_refl _)) l1'.out).mono ?_
  rintro e w3 ⟨r, rfl, hO, hB⟩
  obtain ⟨r0, r1, r2, rfl⟩ : Sl3 r := (by obtain ⟨a, c, e, _⟩ := hO.nm (dg_sm Bs_two _); exact ⟨_, _, _, e⟩)
  have HF3 : Hid (Fm w w3 [(26, [.slice none 0 0, .slice none 0 0, .bool false])] [] []) := HF2.out.below hB
  have HG3 : Hid (Fm w1 w3 [(57, [.slice none 0 0, .slice none 0 0, .int .i64 0, .slice none 0 0, .slice none 0 0, .slice none 0 0, .bool false, .nilFunc])] [] []) := HG2.out.below hB
  clear hO hB
  go_wp2_with fail
  refine (fromBytes_any ay cy ly w3 (HR.out.2.below HF3.out.bel (Nat.le_refl _)) l2'.out).mono ?_
  rintro e w4 ⟨t, rfl, hO, hB⟩
  obtain ⟨t0, t1, t2, rfl⟩ : Sl3 t := (by obtain ⟨a, c, e, _⟩ := hO.nm (dg_sm Bs_two _); exact ⟨_, _, _, e⟩)
  have HF4 : Hid (Fm w w4 [(26, [.slice none 0 0, .slice none 0 0, .bool false])] [] []) := HF3.out.below hB
  have HG4 : Hid (Fm w1 w4 [(57, [.slice none 0 0, .slice none 0 0, .int .i64 0, .slice none 0 0, .slice none 0 0, .slice none 0 0, .bool false, .nilFunc])] [] []) := HG3.out.below hB
  clear hO hB
  have HF5 : Hid (Fm w (w4.alloc (.cells #[.slice r0 r1 r2, .slice t0 t1 t2, .bool false] 26)) [(26, [.slice none 0 0, .slice none 0 0, .bool false])] [] []) := HF4.out.below (alloc_below _ _)
  have HG5 : Hid (Fm w1 (w4.alloc (.cells #[.slice r0 r1 r2, .slice t0 t1 t2, .bool false] 26)) [(57, [.slice none 0 0, .slice none 0 0, .int .i64 0, .slice none 0 0, .slice none 0 0, .slice none 0 0, .bool false, .nilFunc])] [] []) := HG4.out.below (alloc_below _ _)
  have HP5 : Hid (Fm w4 (w4.alloc (.cells #[.slice r0 r1 r2, .slice t0 t1 t2, .bool false] 26)) [(26, [.slice r0 r1 r2, .slice t0 t1 t2, .bool false])] [] []) := (Fm.nil (w := w4) (A := []) ar_nil).push (by simp) 26 [.slice r0 r1 r2, .slice t0 t1 t2, .bool false]
  have q0 : (w4.alloc (.cells #[.slice r0 r1 r2, .slice t0 t1 t2, .bool false] 26)).cell? ⟨w1.heap.size, 0, none⟩ = some (.slice none 0 0) := HG5.out.cell 0 0 (Nat.le_of_ble_eq_true rfl) (Nat.le_of_ble_eq_true rfl)
  have q1 : (w4.alloc (.cells #[.slice r0 r1 r2, .slice t0 t1 t2, .bool false] 26)).cell? ⟨w1.heap.size, 1, none⟩ = some (.slice none 0 0) := HG5.out.cell 0 1 (Nat.le_of_ble_eq_true rfl) (Nat.le_of_ble_eq_true rfl)
  have q2 : (w4.alloc (.cells #[.slice r0 r1 r2, .slice t0 t1 t2, .bool false] 26)).cell? ⟨w1.heap.size, 2, none⟩ = some (.int .i64 0) := HG5.out.cell 0 2 (Nat.le_of_ble_eq_true rfl) (Nat.le_of_ble_eq_true rfl)
  have q3 : (w4.alloc (.cells #[.slice r0 r1 r2, .slice t0 t1 t2, .bool false] 26)).cell? ⟨w1.heap.size, 3, none⟩ = some (.slice none 0 0) := HG5.out.cell 0 3 (Nat.le_of_ble_eq_true rfl) (Nat.le_of_ble_eq_true rfl)
  have q4 : (w4.alloc (.cells #[.slice r0 r1 r2, .slice t0 t1 t2, .bool false] 26)).cell? ⟨w1.heap.size, 4, none⟩ = some (.slice none 0 0) := HG5.out.cell 0 4 (Nat.le_of_ble_eq_true rfl) (Nat.le_of_ble_eq_true rfl)
  have q5 : (w4.alloc (.cells #[.slice r0 r1 r2, .slice t0 t1 t2, .bool false] 26)).cell? ⟨w1.heap.size, 5, none⟩ = some (.slice none 0 0) := HG5.out.cell 0 5 (Nat.le_of_ble_eq_true rfl) (Nat.le_of_ble_eq_true rfl)
  have q6 : (w4.alloc (.cells #[.slice r0 r1 r2, .slice t0 t1 t2, .bool false] 26)).cell? ⟨w1.heap.size, 6, none⟩ = some (.bool false) := HG5.out.cell 0 6 (Nat.le_of_ble_eq_true rfl) (Nat.le_of_ble_eq_true rfl)
  have q7 : (w4.alloc (.cells #[.slice r0 r1 r2, .slice t0 t1 t2, .bool false] 26)).cell? ⟨w1.heap.size, 7, none⟩ = some (.nilFunc) := HG5.out.cell 0 7 (Nat.le_of_ble_eq_true rfl) (Nat.le_of_ble_eq_true rfl)
  by_cases e1 : lx.length = 0
  · by_cases e2 : ly.length = 0
    · have d1 : (((lx.length : Nat) : Int) != 0) = false := by rw [e1]; rfl
      have d2 : (((ly.length : Nat) : Int) != 0) = false := by rw [e2]; rfl
      go_wp2_with fail
      clear q0 q1 q2 q3 q4 q5 q6 q7
      generalize (w4.alloc (.cells #[.slice r0 r1 r2, .slice t0 t1 t2, .bool false] 26)) = w5 at *
      refine (has_none _ _ false _ ⟨_, _, _, rfl⟩ ⟨_, _, _, rfl⟩).mono ?_
      rintro e w6 ⟨rfl, hB⟩
      have HF6 : Hid (Fm w w6 [(26, [.slice none 0 0, .slice none 0 0, .bool false])] [] []) := HF5.out.below hB
      clear hB
      have c0 : w6.cell? ⟨w.heap.size, 0, none⟩ = some (.slice none 0 0) := HF6.out.cell 0 0 (Nat.le_of_ble_eq_true rfl) (Nat.le_of_ble_eq_true rfl)
      have c1 : w6.cell? ⟨w.heap.size, 1, none⟩ = some (.slice none 0 0) := HF6.out.cell 0 1 (Nat.le_of_ble_eq_true rfl) (Nat.le_of_ble_eq_true rfl)
      have c2 : w6.cell? ⟨w.heap.size, 2, none⟩ = some (.bool false) := HF6.out.cell 0 2 (Nat.le_of_ble_eq_true rfl) (Nat.le_of_ble_eq_true rfl)
      have f0 : w6.frozen? ⟨w.heap.size, 0, none⟩ = false := HF6.out.frozen 0 0 (Nat.le_of_ble_eq_true rfl)
      have f1 : w6.frozen? ⟨w.heap.size, 1, none⟩ = false := HF6.out.frozen 0 1 (Nat.le_of_ble_eq_true rfl)
      have f2 : w6.frozen? ⟨w.heap.size, 2, none⟩ = false := HF6.out.frozen 0 2 (Nat.le_of_ble_eq_true rfl)
      go_wp2
      (try simp only [Exit.inBlock, Exit.then])
      have hb := (((But.refl w6 w.heap.size).set 0 (.slice none 0 0)).set 1 (.slice none 0 0)).set 2 (.bool false)
      refine bodyPost_ret (v := .tuple #[.agg #[.slice none 0 0, .slice none 0 0, .bool false], .int .i64 93]) ?_ rfl ⟨rfl, HF6.out.outB 0 (by simp) hb⟩
      rw [results_cell_tmp rfl]; go_simp
    · have d1 : (((lx.length : Nat) : Int) != 0) = false := by rw [e1]; rfl
      have d2 : (((ly.length : Nat) : Int) != 0) = true := bne_iff_ne.2 (by omega)
      have c0 : (w4.alloc (.cells #[.slice r0 r1 r2, .slice t0 t1 t2, .bool false] 26)).cell? ⟨w.heap.size, 0, none⟩ = some (.slice none 0 0) := HF5.out.cell 0 0 (Nat.le_of_ble_eq_true rfl) (Nat.le_of_ble_eq_true rfl)
      have c1 : (w4.alloc (.cells #[.slice r0 r1 r2, .slice t0 t1 t2, .bool false] 26)).cell? ⟨w.heap.size, 1, none⟩ = some (.slice none 0 0) := HF5.out.cell 0 1 (Nat.le_of_ble_eq_true rfl) (Nat.le_of_ble_eq_true rfl)
      have c2 : (w4.alloc (.cells #[.slice r0 r1 r2, .slice t0 t1 t2, .bool false] 26)).cell? ⟨w.heap.size, 2, none⟩ = some (.bool false) := HF5.out.cell 0 2 (Nat.le_of_ble_eq_true rfl) (Nat.le_of_ble_eq_true rfl)
      have f0 : (w4.alloc (.cells #[.slice r0 r1 r2, .slice t0 t1 t2, .bool false] 26)).frozen? ⟨w.heap.size, 0, none⟩ = false := HF5.out.frozen 0 0 (Nat.le_of_ble_eq_true rfl)
      have f1 : (w4.alloc (.cells #[.slice r0 r1 r2, .slice t0 t1 t2, .bool false] 26)).frozen? ⟨w.heap.size, 1, none⟩ = false := HF5.out.frozen 0 1 (Nat.le_of_ble_eq_true rfl)
      have f2 : (w4.alloc (.cells #[.slice r0 r1 r2, .slice t0 t1 t2, .bool false] 26)).frozen? ⟨w.heap.size, 2, none⟩ = false := HF5.out.frozen 0 2 (Nat.le_of_ble_eq_true rfl)
      go_wp2
      (try simp only [Exit.inBlock, Exit.then])
      have hb := (((But.refl (w4.alloc (.cells #[.slice r0 r1 r2, .slice t0 t1 t2, .bool false] 26)) w.heap.size).set 0 (.slice none 0 0)).set 1 (.slice none 0 0)).set 2 (.bool false)
      refine bodyPost_ret (v := .tuple #[.agg #[.slice none 0 0, .slice none 0 0, .bool false], .int .i64 93]) ?_ rfl ⟨rfl, HF5.out.outB 0 (by simp) hb⟩
      rw [results_cell_tmp rfl]; go_simp
  · have d1 : (((lx.length : Nat) : Int) != 0) = true := bne_iff_ne.2 (by omega)
    have c0 : (w4.alloc (.cells #[.slice r0 r1 r2, .slice t0 t1 t2, .bool false] 26)).cell? ⟨w.heap.size, 0, none⟩ = some (.slice none 0 0) := HF5.out.cell 0 0 (Nat.le_of_ble_eq_true rfl) (Nat.le_of_ble_eq_true rfl)
    have c1 : (w4.alloc (.cells #[.slice r0 r1 r2, .slice t0 t1 t2, .bool false] 26)).cell? ⟨w.heap.size, 1, none⟩ = some (.slice none 0 0) := HF5.out.cell 0 1 (Nat.le_of_ble_eq_true rfl) (Nat.le_of_ble_eq_true rfl)
    have c2 : (w4.alloc (.cells #[.slice r0 r1 r2, .slice t0 t1 t2, .bool false] 26)).cell? ⟨w.heap.size, 2, none⟩ = some (.bool false) := HF5.out.cell 0 2 (Nat.le_of_ble_eq_true rfl) (Nat.le_of_ble_eq_true rfl)
    have f0 : (w4.alloc (.cells #[.slice r0 r1 r2, .slice t0 t1 t2, .bool false] 26)).frozen? ⟨w.heap.size, 0, none⟩ = false := HF5.out.frozen 0 0 (Nat.le_of_ble_eq_true rfl)
    have f1 : (w4.alloc (.cells #[.slice r0 r1 r2, .slice t0 t1 t2, .bool false] 26)).frozen? ⟨w.heap.size, 1, none⟩ = false := HF5.out.frozen 0 1 (Nat.le_of_ble_eq_true rfl)
    have f2 : (w4.alloc (.cells #[.slice r0 r1 r2, .slice t0 t1 t2, .bool false] 26)).frozen? ⟨w.heap.size, 2, none⟩ = false := HF5.out.frozen 0 2 (Nat.le_of_ble_eq_true rfl)
    go_wp2
    (try simp only [Exit.inBlock, Exit.then])
    have hb := (((But.refl (w4.alloc (.cells #[.slice r0 r1 r2, .slice t0 t1 t2, .bool false] 26)) w.heap.size).set 0 (.slice none 0 0)).set 1 (.slice none 0 0)).set 2 (.bool false)
    refine bodyPost_ret (v := .tuple #[.agg #[.slice none 0 0, .slice none 0 0, .bool false], .int .i64 93]) ?_ rfl ⟨rfl, HF5.out.outB 0 (by simp) hb⟩
    rw [results_cell_tmp rfl]; go_simp
theorem decode_bad {c s : Int} {p b n gx gy : Nat} (hk : Kv c p b n gx gy s) (ax ay : Option Addr) (cx cy : Nat) (lx ly : List UInt8) (w : World) (hx : Rd w ax lx) (hy : Rd w ay ly) (l1 : lx.length ≤ 100000000) (l2 : ly.length ≤ 100000000) (hd : decB p b s lx ly = false) :
    Calls Tryz.prog 29 #[.int .i64 c, .slice ax lx.length cx, .slice ay ly.length cy] w fun e w' => e = .returned (.tuple #[.agg #[.slice none 0 0, .slice none 0 0, .bool false], .int .i64 93]) ∧ Below w.heap.size w w' := by
  by_cases e1 : (lx.length : Int) = s
  · by_cases e2 : (ly.length : Int) = s
    · refine decode_off hk ax ay cx cy lx ly w hx hy l1 l2 e1 e2 ?_
      simpa [decB, e1, e2] using hd
    · exact decode_len2 hk ax ay cx cy lx ly w hx hy l1 l2 e1 e2
  · exact decode_len1 hk ax ay cx cy lx ly w hx hy l1 l2 e1
theorem decode_good {c s : Int} {p b n gx gy : Nat} (hk : Kv c p b n gx gy s) (ax ay : Option Addr) (cx cy : Nat) (lx ly : List UInt8) (w : World) (hx : Rd w ax lx) (hy : Rd w ay ly) (l1 : lx.length ≤ 100000000) (l2 : ly.length ≤ 100000000) (hd : decB p b s lx ly = true) :
    Calls Tryz.prog 29 #[.int .i64 c, .slice ax lx.length cx, .slice ay ly.length cy] w fun e w' => ∃ r, e = .returned (.tuple #[r, .int .i64 0]) ∧ Pa w w' r (.A (bv lx) (bv ly)) := by
  simp only [decB, Bool.and_eq_true, decide_eq_true_eq] at hd
  exact decode_ok hk ax ay cx cy lx ly w hx hy l1 l2 hd.1 hd.2.1 hd.2.2
theorem onB_lt' {p b X Y : Nat} (hp : Pm p) (h : onB p b X Y false = true) : X < p ∧ Y < p := by
  have h1 := ((onB_iff hp).1 h).1
  exact ⟨h1.1, h1.2.1⟩
theorem lst_ok {c s : Int} {p b n gx gy : Nat} (hk : Kv c p b n gx gy s) {X : Nat} (h : X < p) : (lst X : Int) ≤ s ∧ s ≤ 16384 := by
  have h1 := bl_mono (Nat.le_of_lt h)
  unfold lst
  cases hk
  · rw [show bl k256p = 256 by decide +kernel] at h1; omega
  · rw [show bl k384p = 384 by decide +kernel] at h1; omega
theorem fixed_v (v : Value) (V : Nat) (s : Int) (w : World) (hv : Nu w v V) (hs : (lst V : Int) ≤ s ∧ s ≤ 16384) :
    Calls Tryz.prog 58 #[v, .int .i64 s] w fun e w' => ∃ r, e = .returned (.tuple #[r, .bool true]) ∧ Owb w' w.heap.size r (tobe s.toNat V) ∧ Below w.heap.size w w' := by
  obtain ⟨xs, h1, rfl, h2⟩ := hv
  refine (fixed_nm v xs s w h1 (by omega)).mono ?_
  rintro e w' ⟨r, l, rfl, hO, hl, hB⟩
  rw [if_pos hs] at hl
  subst hl
  exact ⟨r, by rw [decide_eq_true hs], hO, hB⟩
set_option maxHeartbeats 8000000 in
theorem encode_ok {c s : Int} {p b n gx gy : Nat} (hk : Kv c p b n gx gy s) (u v : Value) (U V : Nat) (w : World) (hu : Nu w u U) (hv : Nu w v V) (ho : onB p b U V false = true) :
    Calls Tryz.prog 30 #[.int .i64 c, .agg #[u, v, .bool false]] w fun e w' => ∃ x y, e = .returned (.tuple #[x, y, .int .i64 0]) ∧ Owb w' w.heap.size x (tobe s.toNat U) ∧ Owb w' w.heap.size y (tobe s.toNat V) ∧ Below w.heap.size w w' := by
  obtain ⟨u0, u1, u2, rfl⟩ := hu.shape
  obtain ⟨v0, v1, v2, rfl⟩ := hv.shape
  have HN : Hid (Nu w (.slice u0 u1 u2) U ∧ Nu w (.slice v0 v1 v2) V) := ⟨hu, hv⟩
  have HF0 : Hid (Fm w (w.alloc (.cells #[.slice u0 u1 u2, .slice v0 v1 v2, .bool false] 26)) [(26, [.slice u0 u1 u2, .slice v0 v1 v2, .bool false])] [] []) := ((Fm.nil (w := w) (A := []) ar_nil).push (by simp) 26 [.slice u0 u1 u2, .slice v0 v1 v2, .bool false])
  have Hs : Hid (s ≠ 0) := (by rcases hk.s0 with h | h <;> omega : s ≠ 0)
  have Hp : Hid (Pm p) := hk.pm
  have hsf : ∀ (w : World) (a : Addr) (fn : Fn) (x y : Array Value), Sem.run Tryz.prog (store a (.func fn x y)) w = _ := fun w a fn x y => run_store Tryz.prog w a (.func fn x y) _ rfl
  have hsn : ∀ (w : World) (a : Addr), Sem.run Tryz.prog (store a .nilFunc) w = _ := fun w a => run_store Tryz.prog w a .nilFunc _ rfl
  clear hu hv
  go_enter Tryz.func30, Tryz.ntmps30
  go_wp2_with fail
  generalize (w.alloc (.cells #[.slice u0 u1 u2, .slice v0 v1 v2, .bool false] 26)) = w0 at *
  refine (of_kv hk _).mono ?_
  rintro e w1 ⟨g, rfl, ⟨pv, bv, nv, xv, yv, rfl, m1, m2, m3, m4, m5, ma⟩, hB⟩
  obtain ⟨n0, n1, n2, rfl⟩ := m3.nk.sl
  obtain ⟨gx0, gx1, gx2, rfl⟩ := m4.nk.sl
  obtain ⟨gy0, gy1, gy2, rfl⟩ := m5.nk.sl
  obtain ⟨p0, p1, p2, rfl⟩ := m1.nk.sl
  obtain ⟨b0, b1, b2, rfl⟩ := m2.nk.sl
  have HF1 : Hid (Fm w w1 [(26, [.slice u0 u1 u2, .slice v0 v1 v2, .bool false])] [] []) := HF0.out.below hB
  have HG : Hid (Nk w1 (.slice p0 p1 p2) p 384 ∧ Nk w1 (.slice b0 b1 b2) b 384) := ⟨m1.nk, m2.nk⟩
  clear m1 m2 m3 m4 m5 ma hB HF0
  have HG2 : Hid (Fm w1 (w1.alloc (.cells #[.slice p0 p1 p2, .slice b0 b1 b2, .int .i64 s, .slice n0 n1 n2, .slice gx0 gx1 gx2, .slice gy0 gy1 gy2, .bool false, .func (.func 98) #[.agg #[.slice p0 p1 p2, .slice b0 b1 b2]] #[]] 57)) [(57, [.slice p0 p1 p2, .slice b0 b1 b2, .int .i64 s, .slice n0 n1 n2, .slice gx0 gx1 gx2, .slice gy0 gy1 gy2, .bool false, .func (.func 98) #[.agg #[.slice p0 p1 p2, .slice b0 b1 b2]] #[]])] [] []) := (Fm.nil (w := w1) (A := []) ar_nil).push (by simp) 57 [.slice p0 p1 p2, .slice b0 b1 b2, .int .i64 s, .slice n0 n1 n2, .slice gx0 gx1 gx2, .slice gy0 gy1 gy2, .bool false, .func (.func 98) #[.agg #[.slice p0 p1 p2, .slice b0 b1 b2]] #[]]
  have HF2 : Hid (Fm w (w1.alloc (.cells #[.slice p0 p1 p2, .slice b0 b1 b2, .int .i64 s, .slice n0 n1 n2, .slice gx0 gx1 gx2, .slice gy0 gy1 gy2, .bool false, .func (.func 98) #[.agg #[.slice p0 p1 p2, .slice b0 b1 b2]] #[]] 57)) [(26, [.slice u0 u1 u2, .slice v0 v1 v2, .bool false])] [] []) := HF1.out.below HG2.out.bel
  have a0 : (w1.alloc (.cells #[.slice p0 p1 p2, .slice b0 b1 b2, .int .i64 s, .slice n0 n1 n2, .slice gx0 gx1 gx2, .slice gy0 gy1 gy2, .bool false, .func (.func 98) #[.agg #[.slice p0 p1 p2, .slice b0 b1 b2]] #[]] 57)).cell? ⟨w.heap.size, 0, none⟩ = some (.slice u0 u1 u2) := HF2.out.cell 0 0 (Nat.le_of_ble_eq_true rfl) (Nat.le_of_ble_eq_true rfl)
  have a1 : (w1.alloc (.cells #[.slice p0 p1 p2, .slice b0 b1 b2, .int .i64 s, .slice n0 n1 n2, .slice gx0 gx1 gx2, .slice gy0 gy1 gy2, .bool false, .func (.func 98) #[.agg #[.slice p0 p1 p2, .slice b0 b1 b2]] #[]] 57)).cell? ⟨w.heap.size, 1, none⟩ = some (.slice v0 v1 v2) := HF2.out.cell 0 1 (Nat.le_of_ble_eq_true rfl) (Nat.le_of_ble_eq_true rfl)
  have a2 : (w1.alloc (.cells #[.slice p0 p1 p2, .slice b0 b1 b2, .int .i64 s, .slice n0 n1 n2, .slice gx0 gx1 gx2, .slice gy0 gy1 gy2, .bool false, .func (.func 98) #[.agg #[.slice p0 p1 p2, .slice b0 b1 b2]] #[]] 57)).cell? ⟨w.heap.size, 2, none⟩ = some (.bool false) := HF2.out.cell 0 2 (Nat.le_of_ble_eq_true rfl) (Nat.le_of_ble_eq_true rfl)
  go_wp2_with fail
  clear a0 a1 a2
  generalize (w1.alloc (.cells #[.slice p0 p1 p2, .slice b0 b1 b2, .int .i64 s, .slice n0 n1 n2, .slice gx0 gx1 gx2, .slice gy0 gy1 gy2, .bool false, .func (.func 98) #[.agg #[.slice p0 p1 p2, .slice b0 b1 b2]] #[]] 57)) = w2 at *
  have C := has_v n0 gx0 gy0 n1 n2 gx1 gx2 gy1 gy2 (.slice p0 p1 p2) (.slice b0 b1 b2) (.func (.func 98) #[.agg #[.slice p0 p1 p2, .slice b0 b1 b2]] #[]) _ _ s p b U V w2 Hs.out ⟨_, _, _, rfl⟩ Hp (HG.out.1.below HG2.out.bel (Nat.le_refl _)) (HG.out.2.below HG2.out.bel (Nat.le_refl _)) (HN.out.1.below HF2.out.bel (Nat.le_refl _)) (HN.out.2.below HF2.out.bel (Nat.le_refl _)) false
  rw [ho] at C
  refine C.mono ?_
  clear C
  rintro e w3 ⟨rfl, hB⟩
  have HF3 : Hid (Fm w w3 [(26, [.slice u0 u1 u2, .slice v0 v1 v2, .bool false])] [] []) := HF2.out.below hB
  have HG3 : Hid (Fm w1 w3 [(57, [.slice p0 p1 p2, .slice b0 b1 b2, .int .i64 s, .slice n0 n1 n2, .slice gx0 gx1 gx2, .slice gy0 gy1 gy2, .bool false, .func (.func 98) #[.agg #[.slice p0 p1 p2, .slice b0 b1 b2]] #[]])] [] []) := HG2.out.below hB
  clear hB HF2 HG2
  have HU : Hid ((lst U : Int) ≤ s ∧ s ≤ 16384) := lst_ok hk (onB_lt' Hp.out ho).1
  have HV : Hid ((lst V : Int) ≤ s ∧ s ≤ 16384) := lst_ok hk (onB_lt' Hp.out ho).2
  have kp : w3.cell? ⟨w.heap.size, 0, none⟩ = some (.slice u0 u1 u2) := HF3.out.cell 0 0 (Nat.le_of_ble_eq_true rfl) (Nat.le_of_ble_eq_true rfl)
  have ks : w3.cell? ⟨w1.heap.size, 2, none⟩ = some (.int .i64 s) := HG3.out.cell 0 2 (Nat.le_of_ble_eq_true rfl) (Nat.le_of_ble_eq_true rfl)
  go_wp2_with fail
  clear kp ks
  refine (fixed_v _ U s _ (HN.out.1.below HF3.out.bel (Nat.le_refl _)) HU.out).mono ?_
  rintro e w4 ⟨r, rfl, hO, hB⟩
  have HF4 : Hid (Fm w w4 [(26, [.slice u0 u1 u2, .slice v0 v1 v2, .bool false])] [] []) := HF3.out.below hB
  have HG4 : Hid (Fm w1 w4 [(57, [.slice p0 p1 p2, .slice b0 b1 b2, .int .i64 s, .slice n0 n1 n2, .slice gx0 gx1 gx2, .slice gy0 gy1 gy2, .bool false, .func (.func 98) #[.agg #[.slice p0 p1 p2, .slice b0 b1 b2]] #[]])] [] []) := HG3.out.below hB
  have HO1 : Hid (Owb w4 w3.heap.size r (tobe s.toNat U)) := hO
  obtain ⟨r0, r1, r2, rfl⟩ : Sl3 r := (by obtain ⟨a, c, e, _⟩ := hO.nb; exact ⟨_, _, _, e⟩)
  clear hO hB
  have kp : w4.cell? ⟨w.heap.size, 1, none⟩ = some (.slice v0 v1 v2) := HF4.out.cell 0 1 (Nat.le_of_ble_eq_true rfl) (Nat.le_of_ble_eq_true rfl)
  have ks : w4.cell? ⟨w1.heap.size, 2, none⟩ = some (.int .i64 s) := HG4.out.cell 0 2 (Nat.le_of_ble_eq_true rfl) (Nat.le_of_ble_eq_true rfl)
  go_wp2_with fail
  clear kp ks
  refine (fixed_v _ V s _ (HN.out.2.below HF4.out.bel (Nat.le_refl _)) HV.out).mono ?_
  rintro e w5 ⟨t, rfl, hO, hB⟩
  have HF5 : Hid (Fm w w5 [(26, [.slice u0 u1 u2, .slice v0 v1 v2, .bool false])] [] []) := HF4.out.below hB
  have HG5 : Hid (Fm w1 w5 [(57, [.slice p0 p1 p2, .slice b0 b1 b2, .int .i64 s, .slice n0 n1 n2, .slice gx0 gx1 gx2, .slice gy0 gy1 gy2, .bool false, .func (.func 98) #[.agg #[.slice p0 p1 p2, .slice b0 b1 b2]] #[]])] [] []) := HG4.out.below hB
  have HO2 : Hid (Owb w5 w3.heap.size (.slice r0 r1 r2) (tobe s.toNat U) ∧ Owb w5 w4.heap.size t (tobe s.toNat V)) := ⟨HO1.out.below hB (Nat.le_refl _), hO⟩
  obtain ⟨t0, t1, t2, rfl⟩ : Sl3 t := (by obtain ⟨a, c, e, _⟩ := hO.nb; exact ⟨_, _, _, e⟩)
  clear hO hB
  go_wp2
  go_ret3
  exact ⟨_, _, rfl, HO2.out.1.base HF3.out.bel.size, HO2.out.2.base HF4.out.bel.size, HF5.out.bel⟩
set_option maxHeartbeats 8000000 in
theorem encode_off {c s : Int} {p b n gx gy : Nat} (hk : Kv c p b n gx gy s) (u v : Value) (U V : Nat) (w : World) (hu : Nu w u U) (hv : Nu w v V) (ho : onB p b U V false = false) :
    Calls Tryz.prog 30 #[.int .i64 c, .agg #[u, v, .bool false]] w fun e w' => e = .returned (.tuple #[.slice none 0 0, .slice none 0 0, .int .i64 93]) ∧ Below w.heap.size w w' := by
  obtain ⟨u0, u1, u2, rfl⟩ := hu.shape
  obtain ⟨v0, v1, v2, rfl⟩ := hv.shape
  have HN : Hid (Nu w (.slice u0 u1 u2) U ∧ Nu w (.slice v0 v1 v2) V) := ⟨hu, hv⟩
  have HF0 : Hid (Fm w (w.alloc (.cells #[.slice u0 u1 u2, .slice v0 v1 v2, .bool false] 26)) [(26, [.slice u0 u1 u2, .slice v0 v1 v2, .bool false])] [] []) := ((Fm.nil (w := w) (A := []) ar_nil).push (by simp) 26 [.slice u0 u1 u2, .slice v0 v1 v2, .bool false])
  have Hs : Hid (s ≠ 0) := (by rcases hk.s0 with h | h <;> omega : s ≠ 0)
  have Hp : Hid (Pm p) := hk.pm
  have hsf : ∀ (w : World) (a : Addr) (fn : Fn) (x y : Array Value), Sem.run Tryz.prog (store a (.func fn x y)) w = _ := fun w a fn x y => run_store Tryz.prog w a (.func fn x y) _ rfl
  have hsn : ∀ (w : World) (a : Addr), Sem.run Tryz.prog (store a .nilFunc) w = _ := fun w a => run_store Tryz.prog w a .nilFunc _ rfl
  clear hu hv
  go_enter Tryz.func30, Tryz.ntmps30
  go_wp2_with fail
  generalize (w.alloc (.cells #[.slice u0 u1 u2, .slice v0 v1 v2, .bool false] 26)) = w0 at *
  refine (of_kv hk _).mono ?_
  rintro e w1 ⟨g, rfl, ⟨pv, bv, nv, xv, yv, rfl, m1, m2, m3, m4, m5, ma⟩, hB⟩
  obtain ⟨n0, n1, n2, rfl⟩ := m3.nk.sl
  obtain ⟨gx0, gx1, gx2, rfl⟩ := m4.nk.sl
  obtain ⟨gy0, gy1, gy2, rfl⟩ := m5.nk.sl
  obtain ⟨p0, p1, p2, rfl⟩ := m1.nk.sl
  obtain ⟨b0, b1, b2, rfl⟩ := m2.nk.sl
  have HF1 : Hid (Fm w w1 [(26, [.slice u0 u1 u2, .slice v0 v1 v2, .bool false])] [] []) := HF0.out.below hB
  have HG : Hid (Nk w1 (.slice p0 p1 p2) p 384 ∧ Nk w1 (.slice b0 b1 b2) b 384) := ⟨m1.nk, m2.nk⟩
  clear m1 m2 m3 m4 m5 ma hB HF0
  have HG2 : Hid (Fm w1 (w1.alloc (.cells #[.slice p0 p1 p2, .slice b0 b1 b2, .int .i64 s, .slice n0 n1 n2, .slice gx0 gx1 gx2, .slice gy0 gy1 gy2, .bool false, .func (.func 98) #[.agg #[.slice p0 p1 p2, .slice b0 b1 b2]] #[]] 57)) [(57, [.slice p0 p1 p2, .slice b0 b1 b2, .int .i64 s, .slice n0 n1 n2, .slice gx0 gx1 gx2, .slice gy0 gy1 gy2, .bool false, .func (.func 98) #[.agg #[.slice p0 p1 p2, .slice b0 b1 b2]] #[]])] [] []) := (Fm.nil (w := w1) (A := []) ar_nil).push (by simp) 57 [.slice p0 p1 p2, .slice b0 b1 b2, .int .i64 s, .slice n0 n1 n2, .slice gx0 gx1 gx2, .slice gy0 gy1 gy2, .bool false, .func (.func 98) #[.agg #[.slice p0 p1 p2, .slice b0 b1 b2]] #[]]
  have HF2 : Hid (Fm w (w1.alloc (.cells #[.slice p0 p1 p2, .slice b0 b1 b2, .int .i64 s, .slice n0 n1 n2, .slice gx0 gx1 gx2, .slice gy0 gy1 gy2, .bool false, .func (.func 98) #[.agg #[.slice p0 p1 p2, .slice b0 b1 b2]] #[]] 57)) [(26, [.slice u0 u1 u2, .slice v0 v1 v2, .bool false])] [] []) := HF1.out.below HG2.out.bel
  have a0 : (w1.alloc (.cells #[.slice p0 p1 p2, .slice b0 b1 b2, .int .i64 s, .slice n0 n1 n2, .slice gx0 gx1 gx2, .slice gy0 gy1 gy2, .bool false, .func (.func 98) #[.agg #[.slice p0 p1 p2, .slice b0 b1 b2]] #[]] 57)).cell? ⟨w.heap.size, 0, none⟩ = some (.slice u0 u1 u2) := HF2.out.cell 0 0 (Nat.le_of_ble_eq_true rfl) (Nat.le_of_ble_eq_true rfl)
  have a1 : (w1.alloc (.cells #[.slice p0 p1 p2, .slice b0 b1 b2, .int .i64 s, .slice n0 n1 n2, .slice gx0 gx1 gx2, .slice gy0 gy1 gy2, .bool false, .func (.func 98) #[.agg #[.slice p0 p1 p2, .slice b0 b1 b2]] #[]] 57)).cell? ⟨w.heap.size, 1, none⟩ = some (.slice v0 v1 v2) := HF2.out.cell 0 1 (Nat.le_of_ble_eq_true rfl) (Nat.le_of_ble_eq_true rfl)
  have a2 : (w1.alloc (.cells #[.slice p0 p1 p2, .slice b0 b1 b2, .int .i64 s, .slice n0 n1 n2, .slice gx0 gx1 gx2, .slice gy0 gy1 gy2, .bool false, .func (.func 98) #[.agg #[.slice p0 p1 p2, .slice b0 b1 b2]] #[]] 57)).cell? ⟨w.heap.size, 2, none⟩ = some (.bool false) := HF2.out.cell 0 2 (Nat.le_of_ble_eq_true rfl) (Nat.le_of_ble_eq_true rfl)
  go_wp2_with fail
  clear a0 a1 a2
  generalize (w1.alloc (.cells #[.slice p0 p1 p2, .slice b0 b1 b2, .int .i64 s, .slice n0 n1 n2, .slice gx0 gx1 gx2, .slice gy0 gy1 gy2, .bool false, .func (.func 98) #[.agg #[.slice p0 p1 p2, .slice b0 b1 b2]] #[]] 57)) = w2 at *
  have C := has_v n0 gx0 gy0 n1 n2 gx1 gx2 gy1 gy2 (.slice p0 p1 p2) (.slice b0 b1 b2) (.func (.func 98) #[.agg #[.slice p0 p1 p2, .slice b0 b1 b2]] #[]) _ _ s p b U V w2 Hs.out ⟨_, _, _, rfl⟩ Hp (HG.out.1.below HG2.out.bel (Nat.le_refl _)) (HG.out.2.below HG2.out.bel (Nat.le_refl _)) (HN.out.1.below HF2.out.bel (Nat.le_refl _)) (HN.out.2.below HF2.out.bel (Nat.le_refl _)) false
  rw [ho] at C
  refine C.mono ?_
  clear C
  rintro e w3 ⟨rfl, hB⟩
  have HF3 : Hid (Fm w w3 [(26, [.slice u0 u1 u2, .slice v0 v1 v2, .bool false])] [] []) := HF2.out.below hB
  have HG3 : Hid (Fm w1 w3 [(57, [.slice p0 p1 p2, .slice b0 b1 b2, .int .i64 s, .slice n0 n1 n2, .slice gx0 gx1 gx2, .slice gy0 gy1 gy2, .bool false, .func (.func 98) #[.agg #[.slice p0 p1 p2, .slice b0 b1 b2]] #[]])] [] []) := HG2.out.below hB
  clear hB HF2 HG2
  go_wp2
  go_ret3
  exact ⟨rfl, HF3.out.bel⟩
set_option maxHeartbeats 8000000 in
theorem encode_inf {c s : Int} {p b n gx gy : Nat} (hk : Kv c p b n gx gy s) (u v : Value) (U V : Nat) (w : World) (hu : Nu w u U) (hv : Nu w v V)  :
    Calls Tryz.prog 30 #[.int .i64 c, .agg #[u, v, .bool true]] w fun e w' => e = .returned (.tuple #[.slice none 0 0, .slice none 0 0, .int .i64 93]) ∧ Below w.heap.size w w' := by
  obtain ⟨u0, u1, u2, rfl⟩ := hu.shape
  obtain ⟨v0, v1, v2, rfl⟩ := hv.shape
  have HN : Hid (Nu w (.slice u0 u1 u2) U ∧ Nu w (.slice v0 v1 v2) V) := ⟨hu, hv⟩
  have HF0 : Hid (Fm w (w.alloc (.cells #[.slice u0 u1 u2, .slice v0 v1 v2, .bool true] 26)) [(26, [.slice u0 u1 u2, .slice v0 v1 v2, .bool true])] [] []) := ((Fm.nil (w := w) (A := []) ar_nil).push (by simp) 26 [.slice u0 u1 u2, .slice v0 v1 v2, .bool true])
  have Hs : Hid (s ≠ 0) := (by rcases hk.s0 with h | h <;> omega : s ≠ 0)
  have Hp : Hid (Pm p) := hk.pm
  have hsf : ∀ (w : World) (a : Addr) (fn : Fn) (x y : Array Value), Sem.run Tryz.prog (store a (.func fn x y)) w = _ := fun w a fn x y => run_store Tryz.prog w a (.func fn x y) _ rfl
  have hsn : ∀ (w : World) (a : Addr), Sem.run Tryz.prog (store a .nilFunc) w = _ := fun w a => run_store Tryz.prog w a .nilFunc _ rfl
  clear hu hv
  go_enter Tryz.func30, Tryz.ntmps30
  go_wp2_with fail
  generalize (w.alloc (.cells #[.slice u0 u1 u2, .slice v0 v1 v2, .bool true] 26)) = w0 at *
  refine (of_kv hk _).mono ?_
  rintro e w1 ⟨g, rfl, ⟨pv, bv, nv, xv, yv, rfl, m1, m2, m3, m4, m5, ma⟩, hB⟩
  obtain ⟨n0, n1, n2, rfl⟩ := m3.nk.sl
  obtain ⟨gx0, gx1, gx2, rfl⟩ := m4.nk.sl
  obtain ⟨gy0, gy1, gy2, rfl⟩ := m5.nk.sl
  obtain ⟨p0, p1, p2, rfl⟩ := m1.nk.sl
  obtain ⟨b0, b1, b2, rfl⟩ := m2.nk.sl
  have HF1 : Hid (Fm w w1 [(26, [.slice u0 u1 u2, .slice v0 v1 v2, .bool true])] [] []) := HF0.out.below hB
  have HG : Hid (Nk w1 (.slice p0 p1 p2) p 384 ∧ Nk w1 (.slice b0 b1 b2) b 384) := ⟨m1.nk, m2.nk⟩
  clear m1 m2 m3 m4 m5 ma hB HF0
  have HG2 : Hid (Fm w1 (w1.alloc (.cells #[.slice p0 p1 p2, .slice b0 b1 b2, .int .i64 s, .slice n0 n1 n2, .slice gx0 gx1 gx2, .slice gy0 gy1 gy2, .bool false, .func (.func 98) #[.agg #[.slice p0 p1 p2, .slice b0 b1 b2]] #[]] 57)) [(57, [.slice p0 p1 p2, .slice b0 b1 b2, .int .i64 s, .slice n0 n1 n2, .slice gx0 gx1 gx2, .slice gy0 gy1 gy2, .bool false, .func (.func 98) #[.agg #[.slice p0 p1 p2, .slice b0 b1 b2]] #[]])] [] []) := (Fm.nil (w := w1) (A := []) ar_nil).push (by simp) 57 [.slice p0 p1 p2, .slice b0 b1 b2, .int .i64 s, .slice n0 n1 n2, .slice gx0 gx1 gx2, .slice gy0 gy1 gy2, .bool false, .func (.func 98) #[.agg #[.slice p0 p1 p2, .slice b0 b1 b2]] #[]]
  have HF2 : Hid (Fm w (w1.alloc (.cells #[.slice p0 p1 p2, .slice b0 b1 b2, .int .i64 s, .slice n0 n1 n2, .slice gx0 gx1 gx2, .slice gy0 gy1 gy2, .bool false, .func (.func 98) #[.agg #[.slice p0 p1 p2, .slice b0 b1 b2]] #[]] 57)) [(26, [.slice u0 u1 u2, .slice v0 v1 v2, .bool true])] [] []) := HF1.out.below HG2.out.bel
  have a0 : (w1.alloc (.cells #[.slice p0 p1 p2, .slice b0 b1 b2, .int .i64 s, .slice n0 n1 n2, .slice gx0 gx1 gx2, .slice gy0 gy1 gy2, .bool false, .func (.func 98) #[.agg #[.slice p0 p1 p2, .slice b0 b1 b2]] #[]] 57)).cell? ⟨w.heap.size, 0, none⟩ = some (.slice u0 u1 u2) := HF2.out.cell 0 0 (Nat.le_of_ble_eq_true rfl) (Nat.le_of_ble_eq_true rfl)
  have a1 : (w1.alloc (.cells #[.slice p0 p1 p2, .slice b0 b1 b2, .int .i64 s, .slice n0 n1 n2, .slice gx0 gx1 gx2, .slice gy0 gy1 gy2, .bool false, .func (.func 98) #[.agg #[.slice p0 p1 p2, .slice b0 b1 b2]] #[]] 57)).cell? ⟨w.heap.size, 1, none⟩ = some (.slice v0 v1 v2) := HF2.out.cell 0 1 (Nat.le_of_ble_eq_true rfl) (Nat.le_of_ble_eq_true rfl)
  have a2 : (w1.alloc (.cells #[.slice p0 p1 p2, .slice b0 b1 b2, .int .i64 s, .slice n0 n1 n2, .slice gx0 gx1 gx2, .slice gy0 gy1 gy2, .bool false, .func (.func 98) #[.agg #[.slice p0 p1 p2, .slice b0 b1 b2]] #[]] 57)).cell? ⟨w.heap.size, 2, none⟩ = some (.bool true) := HF2.out.cell 0 2 (Nat.le_of_ble_eq_true rfl) (Nat.le_of_ble_eq_true rfl)
  go_wp2
  go_ret3
  exact ⟨rfl, HF2.out.bel⟩
set_option maxHeartbeats 8000000 in
theorem encode_nnot (c : Int) (h1 : c ≠ 1) (h2 : c ≠ 2) (u v : Value) (U V : Nat) (w : World) (hu : Nu w u U) (hv : Nu w v V)  :
    Calls Tryz.prog 30 #[.int .i64 c, .agg #[u, v, .bool false]] w fun e w' => e = .returned (.tuple #[.slice none 0 0, .slice none 0 0, .int .i64 93]) ∧ Below w.heap.size w w' := by
  obtain ⟨u0, u1, u2, rfl⟩ := hu.shape
  obtain ⟨v0, v1, v2, rfl⟩ := hv.shape
  have HN : Hid (Nu w (.slice u0 u1 u2) U ∧ Nu w (.slice v0 v1 v2) V) := ⟨hu, hv⟩
  have HF0 : Hid (Fm w (w.alloc (.cells #[.slice u0 u1 u2, .slice v0 v1 v2, .bool false] 26)) [(26, [.slice u0 u1 u2, .slice v0 v1 v2, .bool false])] [] []) := ((Fm.nil (w := w) (A := []) ar_nil).push (by simp) 26 [.slice u0 u1 u2, .slice v0 v1 v2, .bool false])
  have hsf : ∀ (w : World) (a : Addr) (fn : Fn) (x y : Array Value), Sem.run Tryz.prog (store a (.func fn x y)) w = _ := fun w a fn x y => run_store Tryz.prog w a (.func fn x y) _ rfl
  have hsn : ∀ (w : World) (a : Addr), Sem.run Tryz.prog (store a .nilFunc) w = _ := fun w a => run_store Tryz.prog w a .nilFunc _ rfl
  clear hu hv
  go_enter Tryz.func30, Tryz.ntmps30
  go_wp2_with fail
  generalize (w.alloc (.cells #[.slice u0 u1 u2, .slice v0 v1 v2, .bool false] 26)) = w0 at *
  refine (of_none c _ h1 h2).mono ?_
  rintro e w1 ⟨rfl, hB⟩
  have HF1 : Hid (Fm w w1 [(26, [.slice u0 u1 u2, .slice v0 v1 v2, .bool false])] [] []) := HF0.out.below hB
  clear hB HF0
  have HG2 : Hid (Fm w1 (w1.alloc (.cells #[.slice none 0 0, .slice none 0 0, .int .i64 0, .slice none 0 0, .slice none 0 0, .slice none 0 0, .bool false, .nilFunc] 57)) [(57, [.slice none 0 0, .slice none 0 0, .int .i64 0, .slice none 0 0, .slice none 0 0, .slice none 0 0, .bool false, .nilFunc])] [] []) := (Fm.nil (w := w1) (A := []) ar_nil).push (by simp) 57 [.slice none 0 0, .slice none 0 0, .int .i64 0, .slice none 0 0, .slice none 0 0, .slice none 0 0, .bool false, .nilFunc]
  have HF2 : Hid (Fm w (w1.alloc (.cells #[.slice none 0 0, .slice none 0 0, .int .i64 0, .slice none 0 0, .slice none 0 0, .slice none 0 0, .bool false, .nilFunc] 57)) [(26, [.slice u0 u1 u2, .slice v0 v1 v2, .bool false])] [] []) := HF1.out.below HG2.out.bel
  have a0 : (w1.alloc (.cells #[.slice none 0 0, .slice none 0 0, .int .i64 0, .slice none 0 0, .slice none 0 0, .slice none 0 0, .bool false, .nilFunc] 57)).cell? ⟨w.heap.size, 0, none⟩ = some (.slice u0 u1 u2) := HF2.out.cell 0 0 (Nat.le_of_ble_eq_true rfl) (Nat.le_of_ble_eq_true rfl)
  have a1 : (w1.alloc (.cells #[.slice none 0 0, .slice none 0 0, .int .i64 0, .slice none 0 0, .slice none 0 0, .slice none 0 0, .bool false, .nilFunc] 57)).cell? ⟨w.heap.size, 1, none⟩ = some (.slice v0 v1 v2) := HF2.out.cell 0 1 (Nat.le_of_ble_eq_true rfl) (Nat.le_of_ble_eq_true rfl)
  have a2 : (w1.alloc (.cells #[.slice none 0 0, .slice none 0 0, .int .i64 0, .slice none 0 0, .slice none 0 0, .slice none 0 0, .bool false, .nilFunc] 57)).cell? ⟨w.heap.size, 2, none⟩ = some (.bool false) := HF2.out.cell 0 2 (Nat.le_of_ble_eq_true rfl) (Nat.le_of_ble_eq_true rfl)
  go_wp2_with fail
  clear a0 a1 a2
  generalize (w1.alloc (.cells #[.slice none 0 0, .slice none 0 0, .int .i64 0, .slice none 0 0, .slice none 0 0, .slice none 0 0, .bool false, .nilFunc] 57)) = w2 at *
  refine (has_none _ _ false _ ⟨_, _, _, rfl⟩ ⟨_, _, _, rfl⟩).mono ?_
  rintro e w3 ⟨rfl, hB⟩
  have HF3 : Hid (Fm w w3 [(26, [.slice u0 u1 u2, .slice v0 v1 v2, .bool false])] [] []) := HF2.out.below hB
  have HG3 : Hid (Fm w1 w3 [(57, [.slice none 0 0, .slice none 0 0, .int .i64 0, .slice none 0 0, .slice none 0 0, .slice none 0 0, .bool false, .nilFunc])] [] []) := HG2.out.below hB
  clear hB HF2 HG2
  go_wp2
  go_ret3
  exact ⟨rfl, HF3.out.bel⟩
set_option maxHeartbeats 8000000 in
theorem encode_ninf (c : Int) (h1 : c ≠ 1) (h2 : c ≠ 2) (u v : Value) (U V : Nat) (w : World) (hu : Nu w u U) (hv : Nu w v V)  :
    Calls Tryz.prog 30 #[.int .i64 c, .agg #[u, v, .bool true]] w fun e w' => e = .returned (.tuple #[.slice none 0 0, .slice none 0 0, .int .i64 93]) ∧ Below w.heap.size w w' := by
  obtain ⟨u0, u1, u2, rfl⟩ := hu.shape
  obtain ⟨v0, v1, v2, rfl⟩ := hv.shape
  have HN : Hid (Nu w (.slice u0 u1 u2) U ∧ Nu w (.slice v0 v1 v2) V) := ⟨hu, hv⟩
  have HF0 : Hid (Fm w (w.alloc (.cells #[.slice u0 u1 u2, .slice v0 v1 v2, .bool true] 26)) [(26, [.slice u0 u1 u2, .slice v0 v1 v2, .bool true])] [] []) := ((Fm.nil (w := w) (A := []) ar_nil).push (by simp) 26 [.slice u0 u1 u2, .slice v0 v1 v2, .bool true])
  have hsf : ∀ (w : World) (a : Addr) (fn : Fn) (x y : Array Value), Sem.run Tryz.prog (store a (.func fn x y)) w = _ := fun w a fn x y => run_store Tryz.prog w a (.func fn x y) _ rfl
  have hsn : ∀ (w : World) (a : Addr), Sem.run Tryz.prog (store a .nilFunc) w = _ := fun w a => run_store Tryz.prog w a .nilFunc _ rfl
  clear hu hv
  go_enter Tryz.func30, Tryz.ntmps30
  go_wp2_with fail
  generalize (w.alloc (.cells #[.slice u0 u1 u2, .slice v0 v1 v2, .bool true] 26)) = w0 at *
  refine (of_none c _ h1 h2).mono ?_
  rintro e w1 ⟨rfl, hB⟩
  have HF1 : Hid (Fm w w1 [(26, [.slice u0 u1 u2, .slice v0 v1 v2, .bool true])] [] []) := HF0.out.below hB
  clear hB HF0
  have HG2 : Hid (Fm w1 (w1.alloc (.cells #[.slice none 0 0, .slice none 0 0, .int .i64 0, .slice none 0 0, .slice none 0 0, .slice none 0 0, .bool false, .nilFunc] 57)) [(57, [.slice none 0 0, .slice none 0 0, .int .i64 0, .slice none 0 0, .slice none 0 0, .slice none 0 0, .bool false, .nilFunc])] [] []) := (Fm.nil (w := w1) (A := []) ar_nil).push (by simp) 57 [.slice none 0 0, .slice none 0 0, .int .i64 0, .slice none 0 0, .slice none 0 0, .slice none 0 0, .bool false, .nilFunc]
  have HF2 : Hid (Fm w (w1.alloc (.cells #[.slice none 0 0, .slice none 0 0, .int .i64 0, .slice none 0 0, .slice none 0 0, .slice none 0 0, .bool false, .nilFunc] 57)) [(26, [.slice u0 u1 u2, .slice v0 v1 v2, .bool true])] [] []) := HF1.out.below HG2.out.bel
  have a0 : (w1.alloc (.cells #[.slice none 0 0, .slice none 0 0, .int .i64 0, .slice none 0 0, .slice none 0 0, .slice none 0 0, .bool false, .nilFunc] 57)).cell? ⟨w.heap.size, 0, none⟩ = some (.slice u0 u1 u2) := HF2.out.cell 0 0 (Nat.le_of_ble_eq_true rfl) (Nat.le_of_ble_eq_true rfl)
  have a1 : (w1.alloc (.cells #[.slice none 0 0, .slice none 0 0, .int .i64 0, .slice none 0 0, .slice none 0 0, .slice none 0 0, .bool false, .nilFunc] 57)).cell? ⟨w.heap.size, 1, none⟩ = some (.slice v0 v1 v2) := HF2.out.cell 0 1 (Nat.le_of_ble_eq_true rfl) (Nat.le_of_ble_eq_true rfl)
  have a2 : (w1.alloc (.cells #[.slice none 0 0, .slice none 0 0, .int .i64 0, .slice none 0 0, .slice none 0 0, .slice none 0 0, .bool false, .nilFunc] 57)).cell? ⟨w.heap.size, 2, none⟩ = some (.bool true) := HF2.out.cell 0 2 (Nat.le_of_ble_eq_true rfl) (Nat.le_of_ble_eq_true rfl)
  go_wp2
  go_ret3
  exact ⟨rfl, HF2.out.bel⟩
end Go.Proofs.YtmngdaolgdhgmaaGreatDoor
