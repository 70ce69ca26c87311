import Derived.Test.YtgkbbcoagnilgaaFixM
namespace Go.Proofs.Ytgkbbcoagnilgaa
open Go.RowKit

theorem wv_set_in (B off : Nat) (xs : List Nat) (k v : Nat) (hk : off + k < xs.length) : ∀ n, k < n → wv B off (xs.set (off + k) v) n + xs.getD (off + k) 0 * B ^ k = wv B off xs n + v * B ^ k
  | 0, h => by omega
  | n + 1, h => by
    unfold wv
    by_cases hn : n = k
    · subst hn
      rw [wv_set B off xs (off + n) v n (by omega)]
      have : (xs.set (off + n) v).getD (off + n) 0 = v := by rw [List.getD_eq_getElem?_getD, List.getElem?_set_self hk, Option.getD_some]
      rw [this]
      omega
    · have ih := wv_set_in B off xs k v hk n (by omega)
      have : (xs.set (off + k) v).getD (off + n) 0 = xs.getD (off + n) 0 := by rw [List.getD_eq_getElem?_getD, List.getElem?_set_ne (by omega), ← List.getD_eq_getElem?_getD]
      rw [this]
      omega

theorem tmF_len (B off : Nat) : ∀ (m k : Nat) (xs : List Nat) (c : Nat), (tmF B off k m xs c).1.length = xs.length
  | 0, _, _, _ => rfl
  | m + 1, k, xs, c => by
    rw [tmF_succ B off k m xs c _ rfl, tmF_len B off m, List.length_set]

theorem tmF_out (B off : Nat) : ∀ (m k : Nat) (xs : List Nat) (c j : Nat), (j < off + k ∨ off + k + m ≤ j) → (tmF B off k m xs c).1.getD j 0 = xs.getD j 0
  | 0, _, _, _, _, _ => rfl
  | m + 1, k, xs, c, j, h => by
    rw [tmF_succ B off k m xs c _ rfl, tmF_out B off m (k + 1) _ _ j (by omega), List.getD_eq_getElem?_getD, List.getElem?_set_ne (by omega), ← List.getD_eq_getElem?_getD]

/-- timesTen is ten times as much. -/
theorem tmF_val (B off : Nat) (hB : 0 < B) : ∀ (m k : Nat) (xs : List Nat) (c : Nat), off + k + m ≤ xs.length →
    9 * wv B off xs k + wv B off (tmF B off k m xs c).1 (k + m) + (tmF B off k m xs c).2 * B ^ (k + m) = 10 * wv B off xs (k + m) + c * B ^ k
  | 0, k, xs, c, _ => by
    show 9 * wv B off xs k + wv B off xs k + c * B ^ k = 10 * wv B off xs k + c * B ^ k
    omega
  | m + 1, k, xs, c, h => by
    obtain ⟨y, hy⟩ : ∃ y, y = c + xs.getD (off + k) 0 * 10 := ⟨_, rfl⟩
    rw [tmF_succ B off k m xs c y hy]
    have ih := tmF_val B off hB m (k + 1) (xs.set (off + k) (y % B)) (y / B) (by rw [List.length_set]; omega)
    have e1 := wv_set_in B off xs k (y % B) (by omega) (k + 1) (by omega)
    have e2 := wv_set_in B off xs k (y % B) (by omega) (k + 1 + m) (by omega)
    have e3 : wv B off xs (k + 1) = xs.getD (off + k) 0 * B ^ k + wv B off xs k := rfl
    have e4 : y * B ^ k = y / B * B ^ (k + 1) + y % B * B ^ k := by
      have h1 : y / B * B ^ (k + 1) = B * (y / B) * B ^ k := by rw [Nat.pow_succ, Nat.mul_comm (B ^ k) B, ← Nat.mul_assoc, Nat.mul_comm (y / B) B]
      rw [h1, ← Nat.add_mul, Nat.div_add_mod]
    have e5 : y * B ^ k = c * B ^ k + xs.getD (off + k) 0 * B ^ k * 10 := by rw [hy, Nat.add_mul, Nat.mul_assoc, Nat.mul_comm 10, Nat.mul_assoc]
    rw [show k + (m + 1) = k + 1 + m by omega]
    generalize wv B off (tmF B off (k + 1) m (xs.set (off + k) (y % B)) (y / B)).1 (k + 1 + m) = Y at ih ⊢
    generalize (tmF B off (k + 1) m (xs.set (off + k) (y % B)) (y / B)).2 * B ^ (k + 1 + m) = C at ih ⊢
    generalize wv B off (xs.set (off + k) (y % B)) (k + 1) = p at ih e1
    generalize wv B off (xs.set (off + k) (y % B)) (k + 1 + m) = q at ih e2
    generalize xs.getD (off + k) 0 * B ^ k = X at e1 e2 e3 e5
    generalize y % B * B ^ k = R at e1 e2 e4
    generalize y / B * B ^ (k + 1) = S at ih e4
    omega

theorem tmF_small (off : Nat) : ∀ (m k : Nat) (xs : List Nat) (c : Nat), smallL xs → smallL (tmF 4294967296 off k m xs c).1
  | 0, _, _, _, h => h
  | m + 1, k, xs, c, h => by
    rw [tmF_succ 4294967296 off k m xs c _ rfl]
    exact tmF_small off m (k + 1) _ _ (smallL_set h _ _ (Nat.mod_lt _ (by decide)))

theorem wv_lt (B off : Nat) (xs : List Nat) (h : ∀ x ∈ xs, x < B) (hB : 0 < B) : ∀ n, off + n ≤ xs.length → wv B off xs n < B ^ n
  | 0, _ => by simp [wv]
  | n + 1, hn => by
    have ih := wv_lt B off xs h hB n (by omega)
    have hx : xs.getD (off + n) 0 < B := by
      rw [List.getD_eq_getElem?_getD, List.getElem?_eq_getElem (by omega), Option.getD_some]
      exact h _ (List.getElem_mem _)
    unfold wv
    have h1 : (xs.getD (off + n) 0 + 1) * B ^ n ≤ B * B ^ n := Nat.mul_le_mul_right _ hx
    rw [Nat.add_mul, Nat.one_mul] at h1
    rw [Nat.pow_succ, Nat.mul_comm (B ^ n) B]
    omega

/-- The digits behind the dot of v / N, at most n of them; none where nothing is left. -/
def frF (N : Nat) : Nat → Nat → List UInt8
  | 0, _ => []
  | n + 1, v => if v = 0 then [] else UInt8.ofNat (48 + 10 * v / N) :: frF N n (10 * v % N)

end Go.Proofs.Ytgkbbcoagnilgaa
