import Derived.Test.YtjaopeenkbcjcaaCc
namespace Go.Proofs.Ytjaopeenkbcjcaa
open Go.RowKit

/-- A number of two words. -/
def fhi (x : Int) : Int := x / 4294967296
def flo (x : Int) : Int := x % 4294967296
def farV (x : Int) : Value := .agg #[.int .i64 (fhi x), .int .i64 (flo x)]
def farC (x : Int) : List Value := [.int .i64 (fhi x), .int .i64 (flo x)]
theorem far_hi (a m : Int) : a / 4294967296 + (a % 4294967296 + m) / 4294967296 = fhi (a + m) := by unfold fhi; omega
theorem far_lo (a m : Int) : (a % 4294967296 + m) % 4294967296 = flo (a + m) := by unfold flo; omega
theorem far_lt (x y : Int) : (x < y) ↔ (fhi x < fhi y ∨ (fhi x = fhi y ∧ flo x < flo y)) := by unfold fhi flo; omega
theorem results_cell9 {fn : Func} {p : Tmp} {ty : TypeId} (h : fn.results = #[.cell p ty]) (tmps : Array Value) (P : Program) (w : World) :
    (results fn tmps).run P w = ((asAddr (tmps.getD p undef)).run P w).andThen fun a w₁ => (loadVar ty a).run P w₁ := by
  simp only [results, h]
  simp [Sem.run_bind, Result.andThen]
set_option maxRecDepth 100000 in
set_option maxHeartbeats 2000000 in
theorem flo_b (x : Int) : 0 ≤ flo x ∧ flo x < 4294967296 := by unfold flo; omega

theorem results_rfar {fn : Func} {p : Tmp} (h : fn.results = #[.cell p 45]) (tmps : Array Value) (w : World) (b : Nat) (x : Int) (hp : tmps.getD p undef = .pointer (some ⟨b, 0, none⟩)) (hb : Bl 45 w b (farC x)) :
    (results fn tmps).run Try.prog w = .ok (farV x) w := by
  have hr : (loadVar 45 ⟨b, 0, none⟩).run Try.prog w = .ok (farV x) w := by
    refine run_loadVar_mid w b 0 45 (farC x) _ ?_ Try.underlying45 rfl (by kernel_rfl)
    intro j v hv
    obtain ⟨hj, e⟩ := List.getElem?_eq_some_iff.1 hv
    rw [Nat.zero_add, ← e]
    exact hb.cell j hj
  rw [results_cell9 h, hp]
  unfold asAddr
  simp only [Sem.run_pure, Result.andThen_ok]
  exact hr
set_option maxRecDepth 100000 in
set_option maxHeartbeats 4000000 in
theorem rfar_any (a m : Int) (w : World) (ha : I64 a) (h0 : -601 ≤ m) (h6 : m ≤ 601) : Calls Try.prog 14 #[.int .i64 a, .int .i64 m] w fun e w' => e = .returned (farV (a + m)) ∧ Below w.heap.size w w' := by
  have ha1 : -9223372036854775808 ≤ a := ha.1
  have ha2 : a ≤ 9223372036854775807 := ha.2
  have HB : Hid (Below w.heap.size w (w.alloc (.cells (farC (a + m)).toArray 45))) := alloc_below _ _
  have HBl : Hid (Bl 45 (w.alloc (.cells (farC (a + m)).toArray 45)) w.heap.size (farC (a + m))) := alloc_bl _ _ _
  have e1 := bits_low a
  have e2 := bits_low (a % 4294967296 + m)
  have e3 := far_hi a m
  have e4 := far_lo a m
  have r1 : -4294967296 ≤ a / 4294967296 := by omega
  have r2 : a / 4294967296 ≤ 4294967296 := by omega
  have r3 : 0 ≤ a % 4294967296 := by omega
  have r4 : a % 4294967296 < 4294967296 := by omega
  have r5 : -2 ≤ (a % 4294967296 + m) / 4294967296 := by omega
  have r6 : (a % 4294967296 + m) / 4294967296 ≤ 2 := by omega
  clear ha
  go_enter Try.func14, Try.ntmps14
  go_wp2
  (try simp only [Exit.inBlock, Exit.then])
  exact bodyPost_ret (v := farV (a + m)) (results_rfar rfl _ _ w.heap.size (a + m) rfl HBl.out) rfl ⟨rfl, HB.out⟩
set_option maxRecDepth 100000 in
set_option maxHeartbeats 4000000 in
theorem rless_any (x y : Int) (w : World) : Calls Try.prog 15 #[farV x, farV y] w fun e w' => e = .returned (.bool (decide (x < y))) ∧ Below w.heap.size w w' := by
  unfold farV
  have HL := far_lt x y
  have HLT : Hid (x < y ↔ (fhi x < fhi y ∨ (fhi x = fhi y ∧ flo x < flo y))) := HL
  have HB : Hid (Below w.heap.size w ((w.alloc (.cells #[.int .i64 (fhi x), .int .i64 (flo x)] 45)).alloc (.cells #[.int .i64 (fhi y), .int .i64 (flo y)] 45))) := (alloc_below _ _).trans ((alloc_below _ _).mono (by rw [alloc_size]; omega))
  clear HL
  generalize fhi x = a at *
  generalize fhi y = b at *
  generalize flo x = c at *
  generalize flo y = d at *
  by_cases h1 : a < b
  · have q1 : decide (a < b) = true := decide_eq_true h1
    have HF : Hid (decide (x < y) = true) := decide_eq_true (HLT.out.2 (Or.inl h1))
    clear HLT h1
    go_enter Try.func15, Try.ntmps15
    go_wp2
    go_ret
    rw [HF.out]
    exact ⟨rfl, HB.out⟩
  · have q1 : decide (a < b) = false := decide_eq_false h1
    by_cases h2 : a = b
    · subst h2
      have q2 : (a == a) = true := by simp
      by_cases h3 : c < d
      · have q3 : decide (c < d) = true := decide_eq_true h3
        have HF : Hid (decide (x < y) = true) := decide_eq_true (HLT.out.2 (Or.inr ⟨rfl, h3⟩))
        clear HLT h1 h3
        go_enter Try.func15, Try.ntmps15
        go_wp2
        go_ret
        rw [HF.out]
        exact ⟨rfl, HB.out⟩
      · have q3 : decide (c < d) = false := decide_eq_false h3
        have HF : Hid (decide (x < y) = false) := decide_eq_false (fun h => (HLT.out.1 h).elim h1 (fun h => h3 h.2))
        clear HLT h1 h3
        go_enter Try.func15, Try.ntmps15
        go_wp2
        go_ret
        rw [HF.out]
        exact ⟨rfl, HB.out⟩
    · have q2 : (a == b) = false := by simpa using h2
      have HF : Hid (decide (x < y) = false) := decide_eq_false (fun h => (HLT.out.1 h).elim h1 (fun h => h2 h.1))
      clear HLT h1 h2
      go_enter Try.func15, Try.ntmps15
      go_wp2
      go_ret
      rw [HF.out]
      exact ⟨rfl, HB.out⟩

end Go.Proofs.Ytjaopeenkbcjcaa
