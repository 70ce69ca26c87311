import Derived.Test.YtefpjjonmoofpaaNtMul
import Derived.Test.YtefpjjonmoofpaaNtSub
namespace Go.Proofs.Ytefpjjonmoofpaa
open Go.RowKit

theorem or_low (cy x s : Nat) (hc : cy < 2 ^ s) (hs : s < 32) (hx : x < 4294967296) : bits .or .u64 (cy : Int) ((x * 2 ^ s : Nat) : Int) = ((cy + x * 2 ^ s : Nat) : Int) := by
  have h1 : 2 ^ s ≤ 2 ^ 32 := Nat.pow_le_pow_right (by decide) (by omega)
  have h2 : x * 2 ^ s ≤ 4294967295 * 2 ^ 32 := Nat.mul_le_mul (by omega) h1
  rw [u64_or_nat _ _ (by omega) (by omega), Nat.or_comm, nat_join s (x * 2 ^ s) cy (Nat.mul_mod_left _ _) hc, Nat.add_comm]

theorem rais_step (B p A c X x v c' S : Nat) (h : A + p * c = S * X) (hs : v + B * c' = c + x * S) : (A + p * v) + (p * B) * c' = S * (X + p * x) := by
  have h1 := congrArg (p * ·) hs
  have h2 : S * (p * x) = p * (x * S) := by rw [Nat.mul_left_comm, Nat.mul_comm S x]
  simp only [Nat.mul_add, ← Nat.mul_assoc] at h1 h2 ⊢
  omega

theorem rais_exact {B : Nat} (hB : 0 < B) {W xs : List Nat} (b n c s : Nat) (_hW : Sm B W) (hx : Sm B xs) (hn : n = b + xs.length + 1) (hs : 2 ^ s ≤ B) (h : nv B W + B ^ n * c = 2 ^ s * nv B (List.replicate b 0 ++ xs ++ [0])) : nv B W = nv B xs * (B ^ b * 2 ^ s) := by
  have h1 := nv_lt hB hx
  rw [nv_append, nv_append, nv_zeros, nv_one, List.length_replicate, Nat.mul_zero, Nat.add_zero, Nat.zero_add] at h
  have h2 : B ^ b * nv B xs < B ^ (b + xs.length) := by
    rw [Nat.pow_add]; exact Nat.mul_lt_mul_of_pos_left h1 (Nat.pow_pos hB)
  have h3 : 2 ^ s * (B ^ b * nv B xs) < B * B ^ (b + xs.length) := Nat.lt_of_le_of_lt (Nat.mul_le_mul_right _ hs) (Nat.mul_lt_mul_of_pos_left h2 hB)
  rw [show B * B ^ (b + xs.length) = B ^ n by rw [hn, Nat.pow_succ']] at h3
  have h4 : nv B xs * (B ^ b * 2 ^ s) = 2 ^ s * (B ^ b * nv B xs) := by rw [Nat.mul_comm, Nat.mul_comm (B ^ b), Nat.mul_assoc]
  rw [h4]
  rcases c with _ | c
  · omega
  · rw [Nat.mul_succ] at h; omega

theorem pow_32 (b s k : Nat) (hk : k = 32 * b + s) : Bs ^ b * 2 ^ s = 2 ^ k := by
  rw [hk, Nat.pow_add, Nat.pow_mul]; rfl

end Go.Proofs.Ytefpjjonmoofpaa
