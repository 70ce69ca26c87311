import Derived.Test.YtefpjjonmoofpaaNtCmp
namespace Go.Proofs.Ytefpjjonmoofpaa
open Go.RowKit

theorem nv_pad {B : Nat} (xs : List Nat) (n : Nat) : nv B (xs ++ List.replicate n 0) = nv B xs := by rw [nv_append, nv_zeros]; omega

theorem sum_fits {B : Nat} (hB : 2 ≤ B) {X Y : List Nat} (n : Nat) (h1 : Sm B X) (h2 : Sm B Y) (l1 : X.length < n) (l2 : Y.length < n) : nv B X + nv B Y < B ^ n := by
  have a1 := nv_lt (by omega) h1
  have a2 := nv_lt (by omega) h2
  have b1 : B ^ X.length ≤ B ^ (n - 1) := Nat.pow_le_pow_right (by omega) (by omega)
  have b2 : B ^ Y.length ≤ B ^ (n - 1) := Nat.pow_le_pow_right (by omega) (by omega)
  have e : B ^ n = B ^ (n - 1) * B := by rw [← Nat.pow_succ]; congr 1; omega
  have : B ^ (n - 1) * 2 ≤ B ^ (n - 1) * B := Nat.mul_le_mul_left _ hB
  omega

theorem sum_exact {B : Nat} (hB : 2 ≤ B) {X Y W : List Nat} (n c : Nat) (h1 : Sm B X) (h2 : Sm B Y) (l1 : X.length < n) (l2 : Y.length < n) (h : nv B W + B ^ n * c = nv B X + nv B Y) : nv B W = nv B X + nv B Y := by
  have h3 := sum_fits hB n h1 h2 l1 l2
  rcases c with _ | c
  · omega
  · rw [Nat.mul_succ] at h; omega

end Go.Proofs.Ytefpjjonmoofpaa
