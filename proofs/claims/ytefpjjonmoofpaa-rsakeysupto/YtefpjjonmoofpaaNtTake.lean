import Derived.Test.YtefpjjonmoofpaaNtRow
namespace Go.Proofs.Ytefpjjonmoofpaa
open Go.RowKit

theorem take_step (B p A c X Y x y v c' d : Nat) (h : A + d * Y = X + p * c) (hs : v + c + d * y = x + B * c') : (A + p * v) + d * (Y + p * y) = (X + p * x) + (p * B) * c' := by
  have h1 := congrArg (p * ·) hs
  have h2 : d * (p * y) = p * (d * y) := Nat.mul_left_comm _ _ _
  simp only [Nat.mul_add, ← Nat.mul_assoc] at h1 h2 ⊢
  omega

theorem mul_lt_sq {a b : Nat} (ha : a ≤ 4294967295) (hb : b ≤ 4294967295) : a * b ≤ 18446744065119617025 := Nat.mul_le_mul ha hb

/-- What one limb's difference is: the limb, and what is borrowed. -/
theorem take_limb (x cr : Nat) (hx : x < 4294967296) (hcr : cr ≤ 18446744069414584320) : ∃ r : Nat, IntKind.u64.wrap ((x : Int) - ((cr % 4294967296 : Nat) : Int)) = (r : Int) ∧ r < 18446744073709551616 ∧ r % 4294967296 + cr = x + 4294967296 * (cr / 4294967296 + r / 9223372036854775808) ∧ cr / 4294967296 + r / 9223372036854775808 ≤ 4294967295 := by
  rw [IntKind.wrap_u64]
  by_cases h : x < cr % 4294967296
  · exact ⟨18446744073709551616 + x - cr % 4294967296, by omega, by omega, by omega, by omega⟩
  · exact ⟨x - cr % 4294967296, by omega, by omega, by omega, by omega⟩

end Go.Proofs.Ytefpjjonmoofpaa
