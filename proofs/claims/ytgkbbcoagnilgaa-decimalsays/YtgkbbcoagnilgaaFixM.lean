import Derived.Test.YtgkbbcoagnilgaaLimb2
namespace Go.Proofs.Ytgkbbcoagnilgaa
open Go.RowKit

/-- The number of n limbs (in the base B) from a place on. -/
def wv (B off : Nat) (xs : List Nat) : Nat → Nat
  | 0 => 0
  | n + 1 => xs.getD (off + n) 0 * B ^ n + wv B off xs n

theorem wv_set (B off : Nat) (xs : List Nat) (j v : Nat) : ∀ n, off + n ≤ j → wv B off (xs.set j v) n = wv B off xs n
  | 0, _ => rfl
  | n + 1, h => by
    unfold wv
    rw [wv_set B off xs j v n (by omega)]
    congr 2
    rw [List.getD_eq_getElem?_getD, List.getD_eq_getElem?_getD, List.getElem?_set_ne (by omega)]

theorem wv_set_lt (B off : Nat) (xs : List Nat) (j v : Nat) : ∀ n, j < off → wv B off (xs.set j v) n = wv B off xs n
  | 0, _ => rfl
  | n + 1, h => by
    unfold wv
    rw [wv_set_lt B off xs j v n h]
    congr 2
    rw [List.getD_eq_getElem?_getD, List.getD_eq_getElem?_getD, List.getElem?_set_ne (by omega)]

/-- overTen leaves the limbs outside of the stretch alone. -/
theorem ovF_len (B off : Nat) : ∀ (k : Nat) (xs : List Nat) (l : Nat), (ovF B off k xs l).1.length = xs.length
  | 0, _, _ => rfl
  | k + 1, xs, l => by
    rw [ovF_succ B off k xs l _ rfl, ovF_len B off k, List.length_set]

theorem ovF_out (B off : Nat) : ∀ (k : Nat) (xs : List Nat) (l j : Nat), (j < off ∨ off + k ≤ j) → (ovF B off k xs l).1.getD j 0 = xs.getD j 0
  | 0, _, _, _, _ => rfl
  | k + 1, xs, l, j, h => by
    rw [ovF_succ B off k xs l _ rfl, ovF_out B off k _ _ j (by omega), List.getD_eq_getElem?_getD, List.getElem?_set_ne (by omega), ← List.getD_eq_getElem?_getD]

/-- overTen is the division by ten. -/
theorem ovF_val (B off : Nat) : ∀ (k : Nat) (xs : List Nat) (l : Nat), off + k ≤ xs.length →
    10 * wv B off (ovF B off k xs l).1 k + (ovF B off k xs l).2 = l * B ^ k + wv B off xs k
  | 0, xs, l, _ => by simp [ovF, wv]
  | k + 1, xs, l, h => by
    obtain ⟨y, hy⟩ : ∃ y, y = l * B + xs.getD (off + k) 0 := ⟨_, rfl⟩
    rw [ovF_succ B off k xs l y hy]
    have ih := ovF_val B off k (xs.set (off + k) (y / 10)) (y % 10) (by rw [List.length_set]; omega)
    rw [wv_set B off xs (off + k) (y / 10) k (by omega)] at ih
    have ho := ovF_out B off k (xs.set (off + k) (y / 10)) (y % 10) (off + k) (.inr (by omega))
    have hs : (xs.set (off + k) (y / 10)).getD (off + k) 0 = y / 10 := by
      rw [List.getD_eq_getElem?_getD, List.getElem?_set_self (by omega), Option.getD_some]
    unfold wv
    rw [ho, hs]
    have e1 : l * B ^ (k + 1) + (xs.getD (off + k) 0 * B ^ k + wv B off xs k) = y * B ^ k + wv B off xs k := by
      rw [hy, Nat.pow_succ, Nat.add_mul]
      have : l * (B ^ k * B) = l * B * B ^ k := by rw [Nat.mul_comm (B ^ k) B, Nat.mul_assoc]
      omega
    rw [e1]
    have e2 : y * B ^ k = (10 * (y / 10) + y % 10) * B ^ k := by rw [Nat.div_add_mod]
    rw [e2, Nat.add_mul, Nat.mul_add, Nat.mul_assoc]
    omega

theorem ovF_rem (B off : Nat) : ∀ (k : Nat) (xs : List Nat) (l : Nat), l < 10 → (ovF B off k xs l).2 < 10
  | 0, _, l, h => h
  | k + 1, xs, l, h => by
    rw [ovF_succ B off k xs l _ rfl]
    exact ovF_rem B off k _ _ (Nat.mod_lt _ (by decide))

theorem ovF_small (off : Nat) : ∀ (k : Nat) (xs : List Nat) (l : Nat), smallL xs → l < 10 → off + k ≤ xs.length → smallL (ovF 4294967296 off k xs l).1
  | 0, _, _, h, _, _ => h
  | k + 1, xs, l, h, hl, hk => by
    obtain ⟨y, hy⟩ : ∃ y, y = l * 4294967296 + xs.getD (off + k) 0 := ⟨_, rfl⟩
    rw [ovF_succ 4294967296 off k xs l y hy]
    have hx : xs.getD (off + k) 0 < 4294967296 := by
      rw [List.getD_eq_getElem?_getD, List.getElem?_eq_getElem (by omega), Option.getD_some]
      exact smallL_get h _ (by omega)
    exact ovF_small off k _ _ (smallL_set h _ _ (by omega)) (Nat.mod_lt _ (by decide)) (by rw [List.length_set]; omega)

theorem zeros_iff (B off : Nat) (hB : 0 < B) (xs : List Nat) : ∀ n, off + n ≤ xs.length → (zeros ((xs.drop off).take n) = true ↔ wv B off xs n = 0)
  | 0, _ => by simp [zeros, wv]
  | n + 1, h => by
    have hj : n < (xs.drop off).length := by rw [List.length_drop]; omega
    have ih := zeros_iff B off hB xs n (by omega)
    have e : zeros ((xs.drop off).take (n + 1)) = (zeros ((xs.drop off).take n) && ((xs.drop off)[n] == 0)) := by
      rw [List.take_succ_eq_append_getElem hj]
      unfold zeros
      rw [List.all_append]
      simp
    have eg : xs.getD (off + n) 0 = (xs.drop off)[n] := by
      rw [List.getElem_drop, List.getD_eq_getElem?_getD, List.getElem?_eq_getElem (by omega), Option.getD_some]
    unfold wv
    rw [e, eg, Bool.and_eq_true, ih]
    have hp : 0 < B ^ n := Nat.pow_pos hB
    generalize (xs.drop off)[n] = x
    constructor
    · rintro ⟨h1, h2⟩
      have : x = 0 := by simpa using h2
      rw [h1, this]; simp
    · intro h1
      have h2 : x * B ^ n = 0 := by omega
      rcases Nat.mul_eq_zero.1 h2 with h3 | h3
      · exact ⟨by omega, by simp [h3]⟩
      · omega

end Go.Proofs.Ytgkbbcoagnilgaa
