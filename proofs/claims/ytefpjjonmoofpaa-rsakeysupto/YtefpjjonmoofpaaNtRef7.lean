import Derived.Test.YtefpjjonmoofpaaNtRef6
namespace Go.Proofs.Ytefpjjonmoofpaa
open Go.RowKit

theorem pow_256 (n : Nat) : 256 ^ n = 2 ^ (8 * n) := by rw [Nat.pow_mul]
theorem lst_of (V n : Nat) (h1 : V < 256 ^ n) (h2 : n = 0 ∨ 256 ^ (n - 1) ≤ V) : lst V = n := by
  unfold lst
  rw [pow_256] at h1
  rcases Nat.eq_zero_or_pos n with h0 | h0
  · subst h0
    have : V = 0 := by simp at h1; exact h1
    subst this
    rfl
  · have h3 : 256 ^ (n - 1) ≤ V := by rcases h2 with h | h <;> omega
    rw [pow_256] at h3
    have a1 := bl_lt V
    have hV : V ≠ 0 := fun e => by
      rw [e] at h3
      have := Nat.pow_pos (n := 8 * (n - 1)) (show 0 < 2 by decide)
      omega
    have a2 := bl_le V hV
    have b1 : bl V ≤ 8 * n := by
      rcases Nat.lt_or_ge (8 * n) (bl V) with h | h
      · exfalso
        have : 2 ^ (8 * n) ≤ 2 ^ (bl V - 1) := Nat.pow_le_pow_right (by decide) (by omega)
        omega
      · exact h
    have b2 : 8 * (n - 1) < bl V := by
      rcases Nat.lt_or_ge (8 * (n - 1)) (bl V) with h | h
      · exact h
      · exfalso
        have : 2 ^ bl V ≤ 2 ^ (8 * (n - 1)) := Nat.pow_le_pow_right (by decide) h
        omega
    omega
theorem lst_lt (V : Nat) : V < 256 ^ lst V := by
  rw [pow_256]
  unfold lst
  exact Nat.lt_of_lt_of_le (bl_lt V) (Nat.pow_le_pow_right (by decide) (by omega))

theorem tobe_take (n V k : Nat) (hk : k < n) : (tobe n V).take (k + 1) = (tobe n V).take k ++ [UInt8.ofNat (V / 256 ^ (n - 1 - k) % 256)] := by
  rw [List.take_succ_eq_append_getElem (by rw [tobe_length]; exact hk)]
  simp [tobe]
theorem tobe_pad (n m V : Nat) (h : V < 256 ^ m) (hm : m ≤ n) : List.replicate (n - m) 0 ++ tobe m V = tobe n V := by
  apply List.ext_getElem
  · simp [tobe_length]; omega
  · intro j h1 h2
    rw [tobe_length] at h2
    by_cases hj : j < n - m
    · rw [List.getElem_append_left (by simpa using hj), List.getElem_replicate]
      simp only [tobe, List.getElem_map, List.getElem_range]
      have : V / 256 ^ (n - 1 - j) = 0 := Nat.div_eq_of_lt (Nat.lt_of_lt_of_le h (Nat.pow_le_pow_right (by decide) (by omega)))
      rw [this]
      rfl
    · rw [List.getElem_append_right (by simp; omega)]
      simp only [tobe, List.getElem_map, List.getElem_range, List.length_replicate]
      congr 4
      omega

end Go.Proofs.Ytefpjjonmoofpaa
