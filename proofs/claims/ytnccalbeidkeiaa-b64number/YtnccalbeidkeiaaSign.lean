import Derived.Test.YtnccalbeidkeiaaBack1
import Derived.Test.YtnccalbeidkeiaaAwake
namespace Go.Proofs.Ytnccalbeidkeiaa
open Go.RowKit

theorem sign_at : ∀ q, q < 64 → (q < 26 ∧ (at6 urlRow q).toNat = 65 + q) ∨ (26 ≤ q ∧ q < 52 ∧ (at6 urlRow q).toNat = 71 + q) ∨ (52 ≤ q ∧ q < 62 ∧ (at6 urlRow q).toNat + 4 = q) ∨ (q = 62 ∧ (at6 urlRow q).toNat = 45) ∨ (q = 63 ∧ (at6 urlRow q).toNat = 95) := by decide +kernel

set_option maxHeartbeats 1000000 in
theorem sign_any (q : Nat) (hq : q < 64) (w : World) : Calls Try.prog 19 #[.int .u8 ((at6 urlRow q).toNat : Int)] w fun e w' => e = .returned (.int .i64 q) ∧ w' = w := by
  have h := sign_at q hq
  generalize (at6 urlRow q).toNat = m at h
  rcases h with ⟨h1, rfl⟩ | ⟨h1, h2, rfl⟩ | ⟨h1, h2, rfl⟩ | ⟨rfl, rfl⟩ | ⟨rfl, rfl⟩
  · go_enter Try.func19, Try.ntmps19
    go_wp2
    go_ret
    exact ⟨congrArg (fun z => Ending.returned (.int .i64 z)) (by omega), rfl⟩
  · go_enter Try.func19, Try.ntmps19
    go_wp2
    go_ret
    exact ⟨congrArg (fun z => Ending.returned (.int .i64 z)) (by omega), rfl⟩
  · go_enter Try.func19, Try.ntmps19
    go_wp2
    go_ret
    exact ⟨congrArg (fun z => Ending.returned (.int .i64 z)) (by omega), rfl⟩
  · go_enter Try.func19, Try.ntmps19
    go_wp2
    go_ret
    exact ⟨rfl, rfl⟩
  · go_enter Try.func19, Try.ntmps19
    go_wp2
    go_ret
    exact ⟨rfl, rfl⟩

/-- The digits that are left, with bits of a byte pending. -/
def R6 (z : Nat) (r : List UInt8) : List Nat := z :: dgs r
def R4 (y : Nat) : List UInt8 → List Nat
  | [] => [y * 4]
  | z :: r => (y * 4 + z.toNat / 64) :: R6 (z.toNat % 64) r
def R2 (x : Nat) : List UInt8 → List Nat
  | [] => [x * 16]
  | y :: r => (x * 16 + y.toNat / 16) :: R4 (y.toNat % 16) r

theorem dgs_cons (x : UInt8) (r : List UInt8) : dgs (x :: r) = (x.toNat / 4) :: R2 (x.toNat % 4) r := by
  have hx := x.toNat_lt
  match r with
  | [] =>
    simp [dgs, R2, List.range_succ, dg]
    omega
  | [y] =>
    have hy := y.toNat_lt
    simp [dgs, R2, R4, List.range_succ, dg]
    omega
  | y :: z :: r =>
    have hy := y.toNat_lt; have hz := z.toNat_lt
    simp [dgs, R2, R4, R6, List.range_succ, dg]
    omega

theorem mask64 (x : Int) (h0 : 0 ≤ x) (h1 : x < 65536) : bits .and .i64 x 3 = x % 4 ∧ bits .and .i64 x 15 = x % 16 ∧ bits .and .i64 x 63 = x % 64 ∧ bits .and .i64 x 0 = 0 := by
  have hk : ∀ n : Int, 0 ≤ n → n < 2 ^ 16 → IntKind.i64.wrap n = n := fun n h0 h1 => by rw [IntKind.wrap_i64]; omega
  refine ⟨?_, ?_, ?_, ?_⟩
  · exact bits_mask .i64 16 (by decide) hk 2 (by decide) x h0 h1
  · exact bits_mask .i64 16 (by decide) hk 4 (by decide) x h0 h1
  · exact bits_mask .i64 16 (by decide) hk 6 (by decide) x h0 h1
  · have := bits_mask .i64 16 (by decide) hk 0 (by decide) x h0 h1
    simpa using this

end Go.Proofs.Ytnccalbeidkeiaa
