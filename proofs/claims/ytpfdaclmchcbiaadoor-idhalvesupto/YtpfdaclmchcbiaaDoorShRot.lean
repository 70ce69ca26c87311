import Derived.Test.YtpfdaclmchcbiaaDoorShBase
namespace Go.Proofs.YtpfdaclmchcbiaaDoor.Sha
open Go.RowKit
set_option maxRecDepth 100000

/-- A word of 32 bits turned to the right; one of 64. -/
def rt (n : Nat) (x : Int) : Int := bits .or .u32 (x * 2 ^ (32 - n) % 4294967296) (x / 2 ^ n)
def ru (n : Nat) (x : Int) : Int := bits .or .u64 (x * 2 ^ (64 - n) % 18446744073709551616) (x / 2 ^ n)

theorem rot32_any (x : Int) (n : Nat) (h1 : 1 ≤ n) (h2 : n ≤ 31) (w : World) :
    Calls Tryd.prog 36 #[.int .u32 x, .int .i64 (-(n : Int))] w fun e w' => e = .returned (.int .u32 (rt n x)) ∧ w' = w := by
  have hs : bits .and .u64 (IntKind.u64.wrap (-(n : Int))) 31 = ((32 - n : Nat) : Int) := by
    have : IntKind.u64.wrap (-(n : Int)) = ((18446744073709551616 - n : Nat) : Int) := by rw [IntKind.wrap_u64]; omega
    rw [this]
    have e : (31 : Int) = ((31 : Nat) : Int) := rfl
    rw [e, u64_and_nat _ 31 (by omega) (by omega), nat_mask5]
    omega
  have hk : 32 - (32 - n) = n := by omega
  have Hr : Hid (rt n x = bits .or .u32 (x * 2 ^ (32 - n) % 4294967296) (x / 2 ^ n)) := rfl
  go_enter Tryd.func36, Tryd.ntmps36
  go_wp2
  go_ret
  rw [Hr.out]
  exact ⟨by simp only [IntKind.wrap_u64]; rfl, rfl⟩

theorem turn32_any (x : Int) (n : Nat) (h1 : 1 ≤ n) (h2 : n ≤ 31) (w : World) :
    Calls Tryd.prog 34 #[.int .u32 x, .int .i64 (n : Int)] w fun e w' => e = .returned (.int .u32 (rt n x)) ∧ w' = w := by
  go_enter Tryd.func34, Tryd.ntmps34
  go_wp2_with fail
  refine (rot32_any x n h1 h2 w).mono ?_
  rintro e w1 ⟨rfl, rfl⟩
  go_wp2
  go_ret
  exact ⟨rfl, rfl⟩
theorem t32_2 (x : Int) (w : World) : Calls Tryd.prog 34 #[.int .u32 x, .int .i64 2] w fun e w' => e = .returned (.int .u32 (rt 2 x)) ∧ w' = w := turn32_any x 2 (by decide) (by decide) w
theorem t32_6 (x : Int) (w : World) : Calls Tryd.prog 34 #[.int .u32 x, .int .i64 6] w fun e w' => e = .returned (.int .u32 (rt 6 x)) ∧ w' = w := turn32_any x 6 (by decide) (by decide) w
theorem t32_7 (x : Int) (w : World) : Calls Tryd.prog 34 #[.int .u32 x, .int .i64 7] w fun e w' => e = .returned (.int .u32 (rt 7 x)) ∧ w' = w := turn32_any x 7 (by decide) (by decide) w
theorem t32_11 (x : Int) (w : World) : Calls Tryd.prog 34 #[.int .u32 x, .int .i64 11] w fun e w' => e = .returned (.int .u32 (rt 11 x)) ∧ w' = w := turn32_any x 11 (by decide) (by decide) w
theorem t32_13 (x : Int) (w : World) : Calls Tryd.prog 34 #[.int .u32 x, .int .i64 13] w fun e w' => e = .returned (.int .u32 (rt 13 x)) ∧ w' = w := turn32_any x 13 (by decide) (by decide) w
theorem t32_17 (x : Int) (w : World) : Calls Tryd.prog 34 #[.int .u32 x, .int .i64 17] w fun e w' => e = .returned (.int .u32 (rt 17 x)) ∧ w' = w := turn32_any x 17 (by decide) (by decide) w
theorem t32_18 (x : Int) (w : World) : Calls Tryd.prog 34 #[.int .u32 x, .int .i64 18] w fun e w' => e = .returned (.int .u32 (rt 18 x)) ∧ w' = w := turn32_any x 18 (by decide) (by decide) w
theorem t32_19 (x : Int) (w : World) : Calls Tryd.prog 34 #[.int .u32 x, .int .i64 19] w fun e w' => e = .returned (.int .u32 (rt 19 x)) ∧ w' = w := turn32_any x 19 (by decide) (by decide) w
theorem t32_22 (x : Int) (w : World) : Calls Tryd.prog 34 #[.int .u32 x, .int .i64 22] w fun e w' => e = .returned (.int .u32 (rt 22 x)) ∧ w' = w := turn32_any x 22 (by decide) (by decide) w
theorem t32_25 (x : Int) (w : World) : Calls Tryd.prog 34 #[.int .u32 x, .int .i64 25] w fun e w' => e = .returned (.int .u32 (rt 25 x)) ∧ w' = w := turn32_any x 25 (by decide) (by decide) w

theorem rot64_any (x : Int) (n : Nat) (h1 : 1 ≤ n) (h2 : n ≤ 63) (w : World) :
    Calls Tryd.prog 37 #[.int .u64 x, .int .i64 (-(n : Int))] w fun e w' => e = .returned (.int .u64 (ru n x)) ∧ w' = w := by
  have hs : bits .and .u64 (IntKind.u64.wrap (-(n : Int))) 63 = ((64 - n : Nat) : Int) := by
    have : IntKind.u64.wrap (-(n : Int)) = ((18446744073709551616 - n : Nat) : Int) := by rw [IntKind.wrap_u64]; omega
    rw [this]
    have e : (63 : Int) = ((63 : Nat) : Int) := rfl
    rw [e, u64_and_nat _ 63 (by omega) (by omega), nat_mask6]
    omega
  have hk : 64 - (64 - n) = n := by omega
  have Hr : Hid (ru n x = bits .or .u64 (x * 2 ^ (64 - n) % 18446744073709551616) (x / 2 ^ n)) := rfl
  go_enter Tryd.func37, Tryd.ntmps37
  go_wp2
  go_ret
  rw [Hr.out]
  exact ⟨by simp only [IntKind.wrap_u64]; rfl, rfl⟩

theorem turn64_any (x : Int) (n : Nat) (h1 : 1 ≤ n) (h2 : n ≤ 63) (w : World) :
    Calls Tryd.prog 35 #[.int .u64 x, .int .i64 (n : Int)] w fun e w' => e = .returned (.int .u64 (ru n x)) ∧ w' = w := by
  go_enter Tryd.func35, Tryd.ntmps35
  go_wp2_with fail
  refine (rot64_any x n h1 h2 w).mono ?_
  rintro e w1 ⟨rfl, rfl⟩
  go_wp2
  go_ret
  exact ⟨rfl, rfl⟩
theorem t64_1 (x : Int) (w : World) : Calls Tryd.prog 35 #[.int .u64 x, .int .i64 1] w fun e w' => e = .returned (.int .u64 (ru 1 x)) ∧ w' = w := turn64_any x 1 (by decide) (by decide) w
theorem t64_8 (x : Int) (w : World) : Calls Tryd.prog 35 #[.int .u64 x, .int .i64 8] w fun e w' => e = .returned (.int .u64 (ru 8 x)) ∧ w' = w := turn64_any x 8 (by decide) (by decide) w
theorem t64_14 (x : Int) (w : World) : Calls Tryd.prog 35 #[.int .u64 x, .int .i64 14] w fun e w' => e = .returned (.int .u64 (ru 14 x)) ∧ w' = w := turn64_any x 14 (by decide) (by decide) w
theorem t64_18 (x : Int) (w : World) : Calls Tryd.prog 35 #[.int .u64 x, .int .i64 18] w fun e w' => e = .returned (.int .u64 (ru 18 x)) ∧ w' = w := turn64_any x 18 (by decide) (by decide) w
theorem t64_19 (x : Int) (w : World) : Calls Tryd.prog 35 #[.int .u64 x, .int .i64 19] w fun e w' => e = .returned (.int .u64 (ru 19 x)) ∧ w' = w := turn64_any x 19 (by decide) (by decide) w
theorem t64_28 (x : Int) (w : World) : Calls Tryd.prog 35 #[.int .u64 x, .int .i64 28] w fun e w' => e = .returned (.int .u64 (ru 28 x)) ∧ w' = w := turn64_any x 28 (by decide) (by decide) w
theorem t64_34 (x : Int) (w : World) : Calls Tryd.prog 35 #[.int .u64 x, .int .i64 34] w fun e w' => e = .returned (.int .u64 (ru 34 x)) ∧ w' = w := turn64_any x 34 (by decide) (by decide) w
theorem t64_39 (x : Int) (w : World) : Calls Tryd.prog 35 #[.int .u64 x, .int .i64 39] w fun e w' => e = .returned (.int .u64 (ru 39 x)) ∧ w' = w := turn64_any x 39 (by decide) (by decide) w
theorem t64_41 (x : Int) (w : World) : Calls Tryd.prog 35 #[.int .u64 x, .int .i64 41] w fun e w' => e = .returned (.int .u64 (ru 41 x)) ∧ w' = w := turn64_any x 41 (by decide) (by decide) w
theorem t64_61 (x : Int) (w : World) : Calls Tryd.prog 35 #[.int .u64 x, .int .i64 61] w fun e w' => e = .returned (.int .u64 (ru 61 x)) ∧ w' = w := turn64_any x 61 (by decide) (by decide) w

end Go.Proofs.YtpfdaclmchcbiaaDoor.Sha