import Derived.Test.YtefpjjonmoofpaaNtRef1
namespace Go.Proofs.Ytefpjjonmoofpaa
open Go.RowKit

theorem sub_limb (x y bw : Nat) (hx : x < 4294967296) (hy : y < 4294967296) (hb : bw ≤ 1) : ∃ z b' : Nat, z < 4294967296 ∧ b' ≤ 1 ∧ z + bw + 1 * y = x + 4294967296 * b' ∧ (x < y + bw → b' = 1 ∧ (x : Int) + 4294967296 - ((y + bw : Nat) : Int) = (z : Int)) ∧ (¬ x < y + bw → b' = 0 ∧ (x : Int) - ((y + bw : Nat) : Int) = (z : Int)) := by
  by_cases h : x < y + bw
  · exact ⟨x + 4294967296 - (y + bw), 1, by omega, by omega, by omega, fun _ => ⟨rfl, by omega⟩, fun h2 => absurd h h2⟩
  · exact ⟨x - (y + bw), 0, by omega, by omega, by omega, fun h2 => absurd h2 h, fun _ => ⟨rfl, by omega⟩⟩

theorem times_step (B p A c X x v c' d Z q : Nat) (h : A + p * c = Z * (d * X)) (hs : v + B * c' = x * d + c) (hp : p = Z * q) : (A + p * v) + (p * B) * c' = Z * (d * (X + q * x)) := by
  have h1 := congrArg (p * ·) hs
  have h2 : Z * (d * (q * x)) = p * (x * d) := by rw [hp]; ac_rfl
  rw [Nat.mul_add, Nat.mul_add, h2]
  simp only [Nat.mul_add, ← Nat.mul_assoc] at h1 h ⊢
  omega

end Go.Proofs.Ytefpjjonmoofpaa
