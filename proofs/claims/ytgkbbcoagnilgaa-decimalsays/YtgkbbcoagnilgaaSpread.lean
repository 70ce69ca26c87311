import Derived.Test.YtgkbbcoagnilgaaLimb3
namespace Go.Proofs.Ytgkbbcoagnilgaa
open Go.RowKit

theorem results_cell {fn : Func} {p : Tmp} {ty : TypeId} (h : fn.results = #[.cell p ty]) (tmps : Array Value) (P : Program) (w : World) :
    (results fn tmps).run P w = ((asAddr (tmps.getD p undef)).run P w).andThen fun a w₁ => ((loadVar ty a).run P w₁).andThen fun x w₂ => .ok x w₂ := by
  simp only [results, h]
  simp [Sem.run_bind, Result.andThen]
  cases Sem.run P (asAddr (tmps[p]?.getD undef)) w with
  | ok a w' => cases h2 : Sem.run P (loadVar ty a) w' <;> simp [h2]
  | halt h' w' => rfl

theorem cast_shl (A n : Nat) : ((A : Nat) : Int) * 2 ^ n = ((A * 2 ^ n : Nat) : Int) := by
  rw [Int.natCast_mul, Int.natCast_pow]
  rfl

/-- A float32's size, and its lowest bit's place among the bits of a fixed one, without its sign. -/
def fM (b : Nat) : Nat := if b / 8388608 = 0 then b % 8388608 else b % 8388608 + 8388608
def fP (b : Nat) : Nat := if b / 8388608 = 0 then 11 else b / 8388608 + 10

/-- The limbs of a float32's value. -/
def spreadL (b : Nat) : List Nat := ((List.replicate 10 0).set (fP b / 32) (fM b * 2 ^ (fP b % 32) % 4294967296)).set (fP b / 32 + 1) (fM b * 2 ^ (fP b % 32) / 4294967296)

set_option maxHeartbeats 1000000 in
theorem spread_sub (b : Nat) (w : World) (hb : b < 8388608) :
    Calls Try.prog 6 #[.int .u32 b] w fun e w' => e = .returned (.agg #[U (b * 2048 % 4294967296), U (b * 2048 / 4294967296), U 0, U 0, U 0, U 0, U 0, U 0, U 0, U 0]) ∧ Below w.heap.size w w' := by
  have h1 : (b : Int) / 8388608 = 0 := by omega
  have h2 : bits .and .u32 (b : Int) 8388607 = (b : Int) := by
    have e : (8388607 : Int) = ((8388607 : Nat) : Int) := rfl
    rw [e, u32_and_nat b 8388607 (by omega) (by omega), show (8388607 : Nat) = 2 ^ 23 - 1 from rfl, Nat.and_two_pow_sub_one_eq_mod, Nat.mod_eq_of_lt (by omega)]
  go_enter Try.func6, Try.ntmps6
  go_wp2
  (try simp only [Exit.inBlock, Exit.then])
  refine bodyPost_ret (v := .agg #[U (b * 2048 % 4294967296), U (b * 2048 / 4294967296), U 0, U 0, U 0, U 0, U 0, U 0, U 0, U 0]) ?_ rfl ⟨rfl, ?_⟩
  · rw [results_cell rfl]; go_simp; simp [U]
  · (repeat' (first | with_reducible assumption | with_reducible exact Below.refl _ _ | with_reducible exact Nat.le_refl _ | with_reducible refine Below.setCell ?_ ?_ _ | with_reducible refine Below.alloc ?_ ?_ _ | with_reducible apply Below.drew | with_reducible apply below_drewN | omega | (simp; done) | (simp; omega)))

set_option maxHeartbeats 1000000 in
theorem spread_0 (b x f M s Y : Nat) (w : World) (hx : (b : Int) / 8388608 = (x : Int)) (hx1 : 1 ≤ x) (_hx2 : x ≤ 254) (hf : bits .and .u32 (b : Int) 8388607 = (f : Int)) (hf2 : f < 8388608) (hM : bits .or .u64 (f : Int) 8388608 = (M : Int)) (_hM2 : M < 16777216)
    (hL : Int.tdiv (11 + ((x : Int) - 1)) 32 = 0) (hL' : (11 + ((x : Int) - 1)) / 32 = 0) (hS : Int.tmod (11 + ((x : Int) - 1)) 32 = (s : Int)) (hS' : (11 + ((x : Int) - 1)) % 32 = (s : Int)) (_hs : s < 32) (_hb : b < 2139095040)
    (hY : IntKind.u64.wrap ((M : Int) * 2 ^ s) = (Y : Int)) (hY2 : Y < 36028797018963968) :
    Calls Try.prog 6 #[.int .u32 b] w fun e w' => e = .returned (.agg #[U (Y % 4294967296), U (Y / 4294967296), U 0, U 0, U 0, U 0, U 0, U 0, U 0, U 0]) ∧ Below w.heap.size w w' := by
  have hY3 : (Y : Int) / 4294967296 % 4294967296 = (Y : Int) / 4294967296 := by omega
  go_enter Try.func6, Try.ntmps6
  go_wp2
  (try simp only [Exit.inBlock, Exit.then])
  refine bodyPost_ret (v := .agg #[U (Y % 4294967296), U (Y / 4294967296), U 0, U 0, U 0, U 0, U 0, U 0, U 0, U 0]) ?_ rfl ⟨rfl, ?_⟩
  · rw [results_cell rfl]; go_simp; simp [U]
  · (repeat' (first | with_reducible assumption | with_reducible exact Below.refl _ _ | with_reducible exact Nat.le_refl _ | with_reducible refine Below.setCell ?_ ?_ _ | with_reducible refine Below.alloc ?_ ?_ _ | with_reducible apply Below.drew | with_reducible apply below_drewN | omega | (simp; done) | (simp; omega)))

set_option maxHeartbeats 1000000 in
theorem spread_1 (b x f M s Y : Nat) (w : World) (hx : (b : Int) / 8388608 = (x : Int)) (hx1 : 1 ≤ x) (_hx2 : x ≤ 254) (hf : bits .and .u32 (b : Int) 8388607 = (f : Int)) (hf2 : f < 8388608) (hM : bits .or .u64 (f : Int) 8388608 = (M : Int)) (_hM2 : M < 16777216)
    (hL : Int.tdiv (11 + ((x : Int) - 1)) 32 = 1) (hL' : (11 + ((x : Int) - 1)) / 32 = 1) (hS : Int.tmod (11 + ((x : Int) - 1)) 32 = (s : Int)) (hS' : (11 + ((x : Int) - 1)) % 32 = (s : Int)) (_hs : s < 32) (_hb : b < 2139095040)
    (hY : IntKind.u64.wrap ((M : Int) * 2 ^ s) = (Y : Int)) (hY2 : Y < 36028797018963968) :
    Calls Try.prog 6 #[.int .u32 b] w fun e w' => e = .returned (.agg #[U 0, U (Y % 4294967296), U (Y / 4294967296), U 0, U 0, U 0, U 0, U 0, U 0, U 0]) ∧ Below w.heap.size w w' := by
  have hY3 : (Y : Int) / 4294967296 % 4294967296 = (Y : Int) / 4294967296 := by omega
  go_enter Try.func6, Try.ntmps6
  go_wp2
  (try simp only [Exit.inBlock, Exit.then])
  refine bodyPost_ret (v := .agg #[U 0, U (Y % 4294967296), U (Y / 4294967296), U 0, U 0, U 0, U 0, U 0, U 0, U 0]) ?_ rfl ⟨rfl, ?_⟩
  · rw [results_cell rfl]; go_simp; simp [U]
  · (repeat' (first | with_reducible assumption | with_reducible exact Below.refl _ _ | with_reducible exact Nat.le_refl _ | with_reducible refine Below.setCell ?_ ?_ _ | with_reducible refine Below.alloc ?_ ?_ _ | with_reducible apply Below.drew | with_reducible apply below_drewN | omega | (simp; done) | (simp; omega)))

set_option maxHeartbeats 1000000 in
theorem spread_2 (b x f M s Y : Nat) (w : World) (hx : (b : Int) / 8388608 = (x : Int)) (hx1 : 1 ≤ x) (_hx2 : x ≤ 254) (hf : bits .and .u32 (b : Int) 8388607 = (f : Int)) (hf2 : f < 8388608) (hM : bits .or .u64 (f : Int) 8388608 = (M : Int)) (_hM2 : M < 16777216)
    (hL : Int.tdiv (11 + ((x : Int) - 1)) 32 = 2) (hL' : (11 + ((x : Int) - 1)) / 32 = 2) (hS : Int.tmod (11 + ((x : Int) - 1)) 32 = (s : Int)) (hS' : (11 + ((x : Int) - 1)) % 32 = (s : Int)) (_hs : s < 32) (_hb : b < 2139095040)
    (hY : IntKind.u64.wrap ((M : Int) * 2 ^ s) = (Y : Int)) (hY2 : Y < 36028797018963968) :
    Calls Try.prog 6 #[.int .u32 b] w fun e w' => e = .returned (.agg #[U 0, U 0, U (Y % 4294967296), U (Y / 4294967296), U 0, U 0, U 0, U 0, U 0, U 0]) ∧ Below w.heap.size w w' := by
  have hY3 : (Y : Int) / 4294967296 % 4294967296 = (Y : Int) / 4294967296 := by omega
  go_enter Try.func6, Try.ntmps6
  go_wp2
  (try simp only [Exit.inBlock, Exit.then])
  refine bodyPost_ret (v := .agg #[U 0, U 0, U (Y % 4294967296), U (Y / 4294967296), U 0, U 0, U 0, U 0, U 0, U 0]) ?_ rfl ⟨rfl, ?_⟩
  · rw [results_cell rfl]; go_simp; simp [U]
  · (repeat' (first | with_reducible assumption | with_reducible exact Below.refl _ _ | with_reducible exact Nat.le_refl _ | with_reducible refine Below.setCell ?_ ?_ _ | with_reducible refine Below.alloc ?_ ?_ _ | with_reducible apply Below.drew | with_reducible apply below_drewN | omega | (simp; done) | (simp; omega)))

set_option maxHeartbeats 1000000 in
theorem spread_3 (b x f M s Y : Nat) (w : World) (hx : (b : Int) / 8388608 = (x : Int)) (hx1 : 1 ≤ x) (_hx2 : x ≤ 254) (hf : bits .and .u32 (b : Int) 8388607 = (f : Int)) (hf2 : f < 8388608) (hM : bits .or .u64 (f : Int) 8388608 = (M : Int)) (_hM2 : M < 16777216)
    (hL : Int.tdiv (11 + ((x : Int) - 1)) 32 = 3) (hL' : (11 + ((x : Int) - 1)) / 32 = 3) (hS : Int.tmod (11 + ((x : Int) - 1)) 32 = (s : Int)) (hS' : (11 + ((x : Int) - 1)) % 32 = (s : Int)) (_hs : s < 32) (_hb : b < 2139095040)
    (hY : IntKind.u64.wrap ((M : Int) * 2 ^ s) = (Y : Int)) (hY2 : Y < 36028797018963968) :
    Calls Try.prog 6 #[.int .u32 b] w fun e w' => e = .returned (.agg #[U 0, U 0, U 0, U (Y % 4294967296), U (Y / 4294967296), U 0, U 0, U 0, U 0, U 0]) ∧ Below w.heap.size w w' := by
  have hY3 : (Y : Int) / 4294967296 % 4294967296 = (Y : Int) / 4294967296 := by omega
  go_enter Try.func6, Try.ntmps6
  go_wp2
  (try simp only [Exit.inBlock, Exit.then])
  refine bodyPost_ret (v := .agg #[U 0, U 0, U 0, U (Y % 4294967296), U (Y / 4294967296), U 0, U 0, U 0, U 0, U 0]) ?_ rfl ⟨rfl, ?_⟩
  · rw [results_cell rfl]; go_simp; simp [U]
  · (repeat' (first | with_reducible assumption | with_reducible exact Below.refl _ _ | with_reducible exact Nat.le_refl _ | with_reducible refine Below.setCell ?_ ?_ _ | with_reducible refine Below.alloc ?_ ?_ _ | with_reducible apply Below.drew | with_reducible apply below_drewN | omega | (simp; done) | (simp; omega)))

set_option maxHeartbeats 1000000 in
theorem spread_4 (b x f M s Y : Nat) (w : World) (hx : (b : Int) / 8388608 = (x : Int)) (hx1 : 1 ≤ x) (_hx2 : x ≤ 254) (hf : bits .and .u32 (b : Int) 8388607 = (f : Int)) (hf2 : f < 8388608) (hM : bits .or .u64 (f : Int) 8388608 = (M : Int)) (_hM2 : M < 16777216)
    (hL : Int.tdiv (11 + ((x : Int) - 1)) 32 = 4) (hL' : (11 + ((x : Int) - 1)) / 32 = 4) (hS : Int.tmod (11 + ((x : Int) - 1)) 32 = (s : Int)) (hS' : (11 + ((x : Int) - 1)) % 32 = (s : Int)) (_hs : s < 32) (_hb : b < 2139095040)
    (hY : IntKind.u64.wrap ((M : Int) * 2 ^ s) = (Y : Int)) (hY2 : Y < 36028797018963968) :
    Calls Try.prog 6 #[.int .u32 b] w fun e w' => e = .returned (.agg #[U 0, U 0, U 0, U 0, U (Y % 4294967296), U (Y / 4294967296), U 0, U 0, U 0, U 0]) ∧ Below w.heap.size w w' := by
  have hY3 : (Y : Int) / 4294967296 % 4294967296 = (Y : Int) / 4294967296 := by omega
  go_enter Try.func6, Try.ntmps6
  go_wp2
  (try simp only [Exit.inBlock, Exit.then])
  refine bodyPost_ret (v := .agg #[U 0, U 0, U 0, U 0, U (Y % 4294967296), U (Y / 4294967296), U 0, U 0, U 0, U 0]) ?_ rfl ⟨rfl, ?_⟩
  · rw [results_cell rfl]; go_simp; simp [U]
  · (repeat' (first | with_reducible assumption | with_reducible exact Below.refl _ _ | with_reducible exact Nat.le_refl _ | with_reducible refine Below.setCell ?_ ?_ _ | with_reducible refine Below.alloc ?_ ?_ _ | with_reducible apply Below.drew | with_reducible apply below_drewN | omega | (simp; done) | (simp; omega)))

set_option maxHeartbeats 1000000 in
theorem spread_5 (b x f M s Y : Nat) (w : World) (hx : (b : Int) / 8388608 = (x : Int)) (hx1 : 1 ≤ x) (_hx2 : x ≤ 254) (hf : bits .and .u32 (b : Int) 8388607 = (f : Int)) (hf2 : f < 8388608) (hM : bits .or .u64 (f : Int) 8388608 = (M : Int)) (_hM2 : M < 16777216)
    (hL : Int.tdiv (11 + ((x : Int) - 1)) 32 = 5) (hL' : (11 + ((x : Int) - 1)) / 32 = 5) (hS : Int.tmod (11 + ((x : Int) - 1)) 32 = (s : Int)) (hS' : (11 + ((x : Int) - 1)) % 32 = (s : Int)) (_hs : s < 32) (_hb : b < 2139095040)
    (hY : IntKind.u64.wrap ((M : Int) * 2 ^ s) = (Y : Int)) (hY2 : Y < 36028797018963968) :
    Calls Try.prog 6 #[.int .u32 b] w fun e w' => e = .returned (.agg #[U 0, U 0, U 0, U 0, U 0, U (Y % 4294967296), U (Y / 4294967296), U 0, U 0, U 0]) ∧ Below w.heap.size w w' := by
  have hY3 : (Y : Int) / 4294967296 % 4294967296 = (Y : Int) / 4294967296 := by omega
  go_enter Try.func6, Try.ntmps6
  go_wp2
  (try simp only [Exit.inBlock, Exit.then])
  refine bodyPost_ret (v := .agg #[U 0, U 0, U 0, U 0, U 0, U (Y % 4294967296), U (Y / 4294967296), U 0, U 0, U 0]) ?_ rfl ⟨rfl, ?_⟩
  · rw [results_cell rfl]; go_simp; simp [U]
  · (repeat' (first | with_reducible assumption | with_reducible exact Below.refl _ _ | with_reducible exact Nat.le_refl _ | with_reducible refine Below.setCell ?_ ?_ _ | with_reducible refine Below.alloc ?_ ?_ _ | with_reducible apply Below.drew | with_reducible apply below_drewN | omega | (simp; done) | (simp; omega)))

set_option maxHeartbeats 1000000 in
theorem spread_6 (b x f M s Y : Nat) (w : World) (hx : (b : Int) / 8388608 = (x : Int)) (hx1 : 1 ≤ x) (_hx2 : x ≤ 254) (hf : bits .and .u32 (b : Int) 8388607 = (f : Int)) (hf2 : f < 8388608) (hM : bits .or .u64 (f : Int) 8388608 = (M : Int)) (_hM2 : M < 16777216)
    (hL : Int.tdiv (11 + ((x : Int) - 1)) 32 = 6) (hL' : (11 + ((x : Int) - 1)) / 32 = 6) (hS : Int.tmod (11 + ((x : Int) - 1)) 32 = (s : Int)) (hS' : (11 + ((x : Int) - 1)) % 32 = (s : Int)) (_hs : s < 32) (_hb : b < 2139095040)
    (hY : IntKind.u64.wrap ((M : Int) * 2 ^ s) = (Y : Int)) (hY2 : Y < 36028797018963968) :
    Calls Try.prog 6 #[.int .u32 b] w fun e w' => e = .returned (.agg #[U 0, U 0, U 0, U 0, U 0, U 0, U (Y % 4294967296), U (Y / 4294967296), U 0, U 0]) ∧ Below w.heap.size w w' := by
  have hY3 : (Y : Int) / 4294967296 % 4294967296 = (Y : Int) / 4294967296 := by omega
  go_enter Try.func6, Try.ntmps6
  go_wp2
  (try simp only [Exit.inBlock, Exit.then])
  refine bodyPost_ret (v := .agg #[U 0, U 0, U 0, U 0, U 0, U 0, U (Y % 4294967296), U (Y / 4294967296), U 0, U 0]) ?_ rfl ⟨rfl, ?_⟩
  · rw [results_cell rfl]; go_simp; simp [U]
  · (repeat' (first | with_reducible assumption | with_reducible exact Below.refl _ _ | with_reducible exact Nat.le_refl _ | with_reducible refine Below.setCell ?_ ?_ _ | with_reducible refine Below.alloc ?_ ?_ _ | with_reducible apply Below.drew | with_reducible apply below_drewN | omega | (simp; done) | (simp; omega)))

set_option maxHeartbeats 1000000 in
theorem spread_7 (b x f M s Y : Nat) (w : World) (hx : (b : Int) / 8388608 = (x : Int)) (hx1 : 1 ≤ x) (_hx2 : x ≤ 254) (hf : bits .and .u32 (b : Int) 8388607 = (f : Int)) (hf2 : f < 8388608) (hM : bits .or .u64 (f : Int) 8388608 = (M : Int)) (_hM2 : M < 16777216)
    (hL : Int.tdiv (11 + ((x : Int) - 1)) 32 = 7) (hL' : (11 + ((x : Int) - 1)) / 32 = 7) (hS : Int.tmod (11 + ((x : Int) - 1)) 32 = (s : Int)) (hS' : (11 + ((x : Int) - 1)) % 32 = (s : Int)) (_hs : s < 32) (_hb : b < 2139095040)
    (hY : IntKind.u64.wrap ((M : Int) * 2 ^ s) = (Y : Int)) (hY2 : Y < 36028797018963968) :
    Calls Try.prog 6 #[.int .u32 b] w fun e w' => e = .returned (.agg #[U 0, U 0, U 0, U 0, U 0, U 0, U 0, U (Y % 4294967296), U (Y / 4294967296), U 0]) ∧ Below w.heap.size w w' := by
  have hY3 : (Y : Int) / 4294967296 % 4294967296 = (Y : Int) / 4294967296 := by omega
  go_enter Try.func6, Try.ntmps6
  go_wp2
  (try simp only [Exit.inBlock, Exit.then])
  refine bodyPost_ret (v := .agg #[U 0, U 0, U 0, U 0, U 0, U 0, U 0, U (Y % 4294967296), U (Y / 4294967296), U 0]) ?_ rfl ⟨rfl, ?_⟩
  · rw [results_cell rfl]; go_simp; simp [U]
  · (repeat' (first | with_reducible assumption | with_reducible exact Below.refl _ _ | with_reducible exact Nat.le_refl _ | with_reducible refine Below.setCell ?_ ?_ _ | with_reducible refine Below.alloc ?_ ?_ _ | with_reducible apply Below.drew | with_reducible apply below_drewN | omega | (simp; done) | (simp; omega)))

set_option maxHeartbeats 1000000 in
theorem spread_8 (b x f M s Y : Nat) (w : World) (hx : (b : Int) / 8388608 = (x : Int)) (hx1 : 1 ≤ x) (_hx2 : x ≤ 254) (hf : bits .and .u32 (b : Int) 8388607 = (f : Int)) (hf2 : f < 8388608) (hM : bits .or .u64 (f : Int) 8388608 = (M : Int)) (_hM2 : M < 16777216)
    (hL : Int.tdiv (11 + ((x : Int) - 1)) 32 = 8) (hL' : (11 + ((x : Int) - 1)) / 32 = 8) (hS : Int.tmod (11 + ((x : Int) - 1)) 32 = (s : Int)) (hS' : (11 + ((x : Int) - 1)) % 32 = (s : Int)) (_hs : s < 32) (_hb : b < 2139095040)
    (hY : IntKind.u64.wrap ((M : Int) * 2 ^ s) = (Y : Int)) (hY2 : Y < 36028797018963968) :
    Calls Try.prog 6 #[.int .u32 b] w fun e w' => e = .returned (.agg #[U 0, U 0, U 0, U 0, U 0, U 0, U 0, U 0, U (Y % 4294967296), U (Y / 4294967296)]) ∧ Below w.heap.size w w' := by
  have hY3 : (Y : Int) / 4294967296 % 4294967296 = (Y : Int) / 4294967296 := by omega
  go_enter Try.func6, Try.ntmps6
  go_wp2
  (try simp only [Exit.inBlock, Exit.then])
  refine bodyPost_ret (v := .agg #[U 0, U 0, U 0, U 0, U 0, U 0, U 0, U 0, U (Y % 4294967296), U (Y / 4294967296)]) ?_ rfl ⟨rfl, ?_⟩
  · rw [results_cell rfl]; go_simp; simp [U]
  · (repeat' (first | with_reducible assumption | with_reducible exact Below.refl _ _ | with_reducible exact Nat.le_refl _ | with_reducible refine Below.setCell ?_ ?_ _ | with_reducible refine Below.alloc ?_ ?_ _ | with_reducible apply Below.drew | with_reducible apply below_drewN | omega | (simp; done) | (simp; omega)))

theorem spread_any (b : Nat) (w : World) (hb : b < 2139095040) :
    Calls Try.prog 6 #[.int .u32 b] w fun e w' => e = .returned (.agg ((spreadL b).map U).toArray) ∧ Below w.heap.size w w' := by
  by_cases h0 : b / 8388608 = 0
  · have e1 : fM b = b := by unfold fM; rw [if_pos h0]; omega
    have e2 : fP b = 11 := by unfold fP; rw [if_pos h0]
    have e : ((spreadL b).map U).toArray = #[U (b * 2048 % 4294967296), U (b * 2048 / 4294967296), U 0, U 0, U 0, U 0, U 0, U 0, U 0, U 0] := by
      unfold spreadL
      rw [e1, e2]
      rfl
    rw [e]
    exact spread_sub b w (by omega)
  · obtain ⟨x, hx⟩ : ∃ x, x = b / 8388608 := ⟨_, rfl⟩
    have hf : bits .and .u32 (b : Int) 8388607 = ((b % 8388608 : Nat) : Int) := by
      have e : (8388607 : Int) = ((8388607 : Nat) : Int) := rfl
      rw [e, u32_and_nat b 8388607 (by omega) (by omega), show (8388607 : Nat) = 2 ^ 23 - 1 from rfl, Nat.and_two_pow_sub_one_eq_mod]
    have hM : bits .or .u64 ((b % 8388608 : Nat) : Int) 8388608 = ((b % 8388608 + 8388608 : Nat) : Int) := by
      have e : (8388608 : Int) = ((8388608 : Nat) : Int) := rfl
      rw [e, u64_or_nat _ _ (by omega) (by omega), Nat.or_comm, nat_join 23 8388608 (b % 8388608) (by decide) (by omega), Nat.add_comm]
    have e1 : fM b = b % 8388608 + 8388608 := by unfold fM; rw [if_neg h0]
    have e2 : fP b = x + 10 := by unfold fP; rw [if_neg h0, hx]
    have hs : (x + 10) % 32 < 32 := by omega
    have hp : (2 : Nat) ^ ((x + 10) % 32) ≤ 2 ^ 31 := Nat.pow_le_pow_right (by decide) (by omega)
    have hM2 : b % 8388608 + 8388608 < 16777216 := by omega
    have hY2 : (b % 8388608 + 8388608) * 2 ^ ((x + 10) % 32) < 36028797018963968 := by
      have h1 : (b % 8388608 + 8388608) * 2 ^ ((x + 10) % 32) ≤ 16777215 * 2 ^ 31 := Nat.mul_le_mul (by omega) hp
      omega
    have hY : IntKind.u64.wrap (((b % 8388608 + 8388608 : Nat) : Int) * 2 ^ ((x + 10) % 32)) = (((b % 8388608 + 8388608) * 2 ^ ((x + 10) % 32) : Nat) : Int) := by
      have e : (((b % 8388608 + 8388608 : Nat) : Int) * 2 ^ ((x + 10) % 32)) = (((b % 8388608 + 8388608) * 2 ^ ((x + 10) % 32) : Nat) : Int) := cast_shl _ _
      rw [e, IntKind.wrap_u64]
      generalize (b % 8388608 + 8388608) * 2 ^ ((x + 10) % 32) = Y at hY2
      omega
    have hx' : (b : Int) / 8388608 = (x : Int) := by omega
    have hc : (x + 10) / 32 = 0 ∨ (x + 10) / 32 = 1 ∨ (x + 10) / 32 = 2 ∨ (x + 10) / 32 = 3 ∨ (x + 10) / 32 = 4 ∨ (x + 10) / 32 = 5 ∨ (x + 10) / 32 = 6 ∨ (x + 10) / 32 = 7 ∨ (x + 10) / 32 = 8 := by omega
    have hS : (11 + ((x : Int) - 1)) % 32 = (((x + 10) % 32 : Nat) : Int) := by omega
    have hS2 : Int.tmod (11 + ((x : Int) - 1)) 32 = (((x + 10) % 32 : Nat) : Int) := by rw [Int.tmod_eq_emod_of_nonneg (by omega)]; exact hS
    have hsp : spreadL b = ((List.replicate 10 0).set ((x + 10) / 32) ((b % 8388608 + 8388608) * 2 ^ ((x + 10) % 32) % 4294967296)).set ((x + 10) / 32 + 1) ((b % 8388608 + 8388608) * 2 ^ ((x + 10) % 32) / 4294967296) := by unfold spreadL; rw [e1, e2]
    rw [hsp]
    rcases hc with h | h | h | h | h | h | h | h | h
    · rw [h]
      exact spread_0 b x _ _ ((x + 10) % 32) _ w hx' (by omega) (by omega) hf (by omega) hM hM2 (by rw [Int.tdiv_eq_ediv_of_nonneg (by omega)]; omega) (by omega) hS2 hS hs hb hY hY2
    · rw [h]
      exact spread_1 b x _ _ ((x + 10) % 32) _ w hx' (by omega) (by omega) hf (by omega) hM hM2 (by rw [Int.tdiv_eq_ediv_of_nonneg (by omega)]; omega) (by omega) hS2 hS hs hb hY hY2
    · rw [h]
      exact spread_2 b x _ _ ((x + 10) % 32) _ w hx' (by omega) (by omega) hf (by omega) hM hM2 (by rw [Int.tdiv_eq_ediv_of_nonneg (by omega)]; omega) (by omega) hS2 hS hs hb hY hY2
    · rw [h]
      exact spread_3 b x _ _ ((x + 10) % 32) _ w hx' (by omega) (by omega) hf (by omega) hM hM2 (by rw [Int.tdiv_eq_ediv_of_nonneg (by omega)]; omega) (by omega) hS2 hS hs hb hY hY2
    · rw [h]
      exact spread_4 b x _ _ ((x + 10) % 32) _ w hx' (by omega) (by omega) hf (by omega) hM hM2 (by rw [Int.tdiv_eq_ediv_of_nonneg (by omega)]; omega) (by omega) hS2 hS hs hb hY hY2
    · rw [h]
      exact spread_5 b x _ _ ((x + 10) % 32) _ w hx' (by omega) (by omega) hf (by omega) hM hM2 (by rw [Int.tdiv_eq_ediv_of_nonneg (by omega)]; omega) (by omega) hS2 hS hs hb hY hY2
    · rw [h]
      exact spread_6 b x _ _ ((x + 10) % 32) _ w hx' (by omega) (by omega) hf (by omega) hM hM2 (by rw [Int.tdiv_eq_ediv_of_nonneg (by omega)]; omega) (by omega) hS2 hS hs hb hY hY2
    · rw [h]
      exact spread_7 b x _ _ ((x + 10) % 32) _ w hx' (by omega) (by omega) hf (by omega) hM hM2 (by rw [Int.tdiv_eq_ediv_of_nonneg (by omega)]; omega) (by omega) hS2 hS hs hb hY hY2
    · rw [h]
      exact spread_8 b x _ _ ((x + 10) % 32) _ w hx' (by omega) (by omega) hf (by omega) hM hM2 (by rw [Int.tdiv_eq_ediv_of_nonneg (by omega)]; omega) (by omega) hS2 hS hs hb hY hY2

end Go.Proofs.Ytgkbbcoagnilgaa
