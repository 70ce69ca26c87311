import Derived.Test.YtefpjjonmoofpaaNtRais
namespace Go.Proofs.Ytefpjjonmoofpaa
open Go.RowKit

theorem or_pair (a x : Nat) (ha : a < 4294967296) (hx : x < 4294967296) : bits .or .u64 ((a : Int) * 4294967296) (x : Int) = ((a * 4294967296 + x : Nat) : Int) := by
  have e : ((a : Int) * 4294967296) = ((a * 4294967296 : Nat) : Int) := by omega
  rw [e, u64_or_nat _ _ (by omega) (by omega), nat_join 32 (a * 4294967296) x (by omega) (by omega)]

theorem shr_gen (P Q y y' : Nat) (hP : 0 < P) (_hQ : 0 < Q) (hy : y < P * Q) : P * (((y' * (P * Q) + y) / P) % (P * Q)) + y % P = y + (P * Q) * (y' % P) := by
  have e1 : (y' * (P * Q) + y) / P = y' * Q + y / P := by
    rw [show y' * (P * Q) + y = y + P * (y' * Q) by rw [Nat.mul_left_comm]; omega, Nat.add_mul_div_left _ _ hP, Nat.add_comm]
  have h1 : y / P < Q := Nat.div_lt_of_lt_mul hy
  have h2 : y' % P < P := Nat.mod_lt _ hP
  have e2 : y' * Q + y / P = (y' % P) * Q + y / P + (P * Q) * (y' / P) := by
    have := Nat.div_add_mod y' P
    have h3 : y' * Q = (P * (y' / P) + y' % P) * Q := by rw [this]
    rw [Nat.add_mul] at h3
    have h4 : P * (y' / P) * Q = P * Q * (y' / P) := by rw [Nat.mul_assoc, Nat.mul_comm (y' / P), ← Nat.mul_assoc]
    omega
  have h5 : (y' % P) * Q + y / P < P * Q := by
    have : (y' % P + 1) * Q ≤ P * Q := Nat.mul_le_mul_right _ h2
    rw [Nat.add_mul, Nat.one_mul] at this
    omega
  rw [e1, e2, Nat.add_mul_mod_self_left, Nat.mod_eq_of_lt h5, Nat.mul_add]
  have h6 := Nat.div_add_mod y P
  have h7 : P * ((y' % P) * Q) = P * Q * (y' % P) := by rw [Nat.mul_comm (y' % P), Nat.mul_assoc]
  omega

theorem shr_limb (y y' s : Nat) (hs : s < 32) (hy : y < 4294967296) : 2 ^ s * ((y' * 4294967296 + y) / 2 ^ s % 4294967296) + y % 2 ^ s = y + 4294967296 * (y' % 2 ^ s) := by
  have e : 4294967296 = 2 ^ s * 2 ^ (32 - s) := by rw [← Nat.pow_add, show s + (32 - s) = 32 by omega]
  have := shr_gen (2 ^ s) (2 ^ (32 - s)) y y' (Nat.pow_pos (by decide)) (Nat.pow_pos (by decide)) (by rw [← e]; exact hy)
  rw [← e] at this
  exact this

theorem shr_step (B p A c0 X y r r' v S : Nat) (h : S * A + c0 = X + p * r) (hs : S * v + r = y + B * r') : S * (A + p * v) + c0 = (X + p * y) + (p * B) * r' := by
  have h1 := congrArg (p * ·) hs
  have h2 : S * (p * v) = p * (S * v) := Nat.mul_left_comm _ _ _
  simp only [Nat.mul_add, ← Nat.mul_assoc] at h1 h2 ⊢
  omega

theorem Rn.drop {w : World} {g off : Nat} {l : List Nat} (h : Rn w (some ⟨g, off, none⟩) l) (k : Nat) : Rn w (some ⟨g, off + k, none⟩) (l.drop k) := by
  rcases h with h | ⟨g', off', e, hg, hc⟩
  · exact .inl (by rw [h]; simp)
  · cases e
    refine .inr ⟨g, off + k, rfl, hg, fun j hj => ?_⟩
    rw [List.length_drop] at hj
    rw [Nat.add_assoc, hc (k + j) (by omega)]
    simp [List.getD_eq_getElem?_getD, List.getElem?_drop]

theorem shr_value (b s : Nat) (X D : List Nat) (hX : Sm Bs X) (hb : b ≤ X.length) (c0 : Nat) (hc : c0 < 2 ^ s) (h : 2 ^ s * nv Bs D + c0 = nv Bs (X.drop b)) : nv Bs D = nv Bs X / (Bs ^ b * 2 ^ s) := by
  have h1 := nv_split Bs X b hb
  have h2 := nv_lt Bs_pos (hX.take b)
  rw [List.length_take, Nat.min_eq_left hb] at h2
  rw [← Nat.div_div_eq_div_mul, h1, Nat.add_mul_div_left _ _ (Nat.pow_pos Bs_pos), Nat.div_eq_of_lt h2, Nat.zero_add, ← h, Nat.mul_add_div (Nat.pow_pos (by decide)), Nat.div_eq_of_lt hc, Nat.add_zero]

theorem take_zero_drop (n : Nat) (_h : 0 < n) (i : Nat) (hi : i < n) : (List.replicate n 0).drop i = 0 :: (List.replicate n 0).drop (i + 1) := by
  rw [List.drop_replicate, List.drop_replicate, show n - i = (n - (i + 1)) + 1 by omega, List.replicate_succ]

end Go.Proofs.Ytefpjjonmoofpaa
