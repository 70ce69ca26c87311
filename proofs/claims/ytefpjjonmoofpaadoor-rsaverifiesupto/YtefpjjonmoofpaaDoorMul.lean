import Derived.Test.YtefpjjonmoofpaaDoorRM
namespace Go.Proofs.YtefpjjonmoofpaaDoor
open Go.RowKit

set_option maxHeartbeats 1000000 in
theorem mul64_one (c : Nat) (w : World) (hc : c ≤ 8192) : Calls Tryd.prog 87 #[.int .u64 1, .int .u64 (c : Int)] w fun e w' => e = .returned (.tuple #[.int .u64 0, .int .u64 (c : Int)]) ∧ w' = w := by
  have a1 : bits .and .u64 1 4294967295 = 1 := by decide
  have a2 : bits .and .u64 (c : Int) 4294967295 = (c : Int) := by
    have h := u64_and_nat c 4294967295 (by omega) (by omega)
    rw [show ((4294967295 : Nat) : Int) = 4294967295 from rfl] at h
    rw [h, show (4294967295 : Nat) = 2 ^ 32 - 1 from rfl, Nat.and_two_pow_sub_one_eq_mod, Nat.mod_eq_of_lt (by omega)]
  have a3 : bits .and .u64 0 4294967295 = 0 := by decide
  have s1 : (1 : Int) / 4294967296 = 0 := by decide
  have s2 : (c : Int) / 4294967296 = 0 := by omega
  go_enter Tryd.func87, Tryd.ntmps87
  go_wp2
  go_ret2
  exact ⟨rfl, rfl⟩

theorem mul_one (c : Nat) (w : World) (hc : c ≤ 8192) : Calls Tryd.prog 57 #[.int .u64 1, .int .u64 (c : Int)] w fun e w' => e = .returned (.tuple #[.int .u64 0, .int .u64 (c : Int)]) ∧ w' = w := by
  have C := mul64_one c w hc
  go_enter Tryd.func57, Tryd.ntmps57
  go_wp2_with fail
  refine C.mono ?_
  rintro e w' ⟨rfl, rfl⟩
  clear C
  go_wp2
  go_ret2
  exact ⟨rfl, rfl⟩

end Go.Proofs.YtefpjjonmoofpaaDoor
