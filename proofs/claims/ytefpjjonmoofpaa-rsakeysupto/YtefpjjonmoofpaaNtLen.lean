import Derived.Test.YtefpjjonmoofpaaNtBase
namespace Go.Proofs.Ytefpjjonmoofpaa
open Go.RowKit

/-- How many binary digits a number has. -/
def bl (v : Nat) : Nat := if v = 0 then 0 else Nat.log2 v + 1

theorem bl_lt (v : Nat) : v < 2 ^ bl v := by
  unfold bl
  split
  · next h => subst h; decide
  · exact Nat.lt_log2_self
theorem bl_le (v : Nat) (h : v ≠ 0) : 2 ^ (bl v - 1) ≤ v := by
  unfold bl
  rw [if_neg h, Nat.add_sub_cancel]
  exact Nat.log2_self_le h
theorem bl_of (v n : Nat) (h1 : v < 2 ^ n) (h2 : n = 0 ∨ 2 ^ (n - 1) ≤ v) : bl v = n := by
  by_cases hv : v = 0
  · subst hv
    rcases h2 with h | h
    · subst h; rfl
    · have := Nat.pow_pos (n := n - 1) (show 0 < 2 by decide); omega
  · have a1 := bl_lt v
    have a2 := bl_le v hv
    have a3 : 0 < bl v := by unfold bl; rw [if_neg hv]; omega
    rcases Nat.lt_trichotomy (bl v) n with h | h | h
    · have h3 : 2 ^ (n - 1) ≤ v := by rcases h2 with h2 | h2 <;> omega
      have : 2 ^ bl v ≤ 2 ^ (n - 1) := Nat.pow_le_pow_right (by decide) (by omega)
      omega
    · exact h
    · have : 2 ^ n ≤ 2 ^ (bl v - 1) := Nat.pow_le_pow_right (by decide) (by omega)
      omega
theorem bl_pos (v : Nat) (h : v ≠ 0) : 0 < bl v := by unfold bl; rw [if_neg h]; omega
theorem bl_zero : bl 0 = 0 := rfl
theorem bl_shift (v k : Nat) (h : v / 2 ^ k ≠ 0) : bl v = bl (v / 2 ^ k) + k := by
  have hp : 0 < 2 ^ k := Nat.pow_pos (by decide)
  have a1 := bl_lt (v / 2 ^ k)
  have a2 := bl_le (v / 2 ^ k) h
  have a3 := bl_pos _ h
  refine bl_of _ _ ?_ (.inr ?_)
  · rw [Nat.pow_add]; exact (Nat.div_lt_iff_lt_mul hp).1 a1
  · rw [show bl (v / 2 ^ k) + k - 1 = (bl (v / 2 ^ k) - 1) + k by omega, Nat.pow_add]
    exact (Nat.le_div_iff_mul_le hp).1 a2
theorem bl_mono {a b : Nat} (h : a ≤ b) : bl a ≤ bl b := by
  by_cases ha : a = 0
  · subst ha; rw [bl_zero]; omega
  · have a1 := bl_le a ha
    have a2 := bl_lt b
    have a3 := bl_pos a ha
    rcases Nat.lt_or_ge (bl b) (bl a) with h3 | h3
    · have : 2 ^ bl b ≤ 2 ^ (bl a - 1) := Nat.pow_le_pow_right (by decide) (by omega)
      omega
    · exact h3

/-- The table of the library. -/
def lenTab : ByteArray := ⟨#[0, 1, 2, 2, 3, 3, 3, 3, 4, 4, 4, 4, 4, 4, 4, 4, 5, 5, 5, 5, 5, 5, 5, 5, 5, 5, 5, 5, 5, 5, 5, 5, 6, 6, 6, 6, 6, 6, 6, 6, 6, 6, 6, 6, 6, 6, 6, 6, 6, 6, 6, 6, 6, 6, 6, 6, 6, 6, 6, 6, 6, 6, 6, 6, 7, 7, 7, 7, 7, 7, 7, 7, 7, 7, 7, 7, 7, 7, 7, 7, 7, 7, 7, 7, 7, 7, 7, 7, 7, 7, 7, 7, 7, 7, 7, 7, 7, 7, 7, 7, 7, 7, 7, 7, 7, 7, 7, 7, 7, 7, 7, 7, 7, 7, 7, 7, 7, 7, 7, 7, 7, 7, 7, 7, 7, 7, 7, 7, 8, 8, 8, 8, 8, 8, 8, 8, 8, 8, 8, 8, 8, 8, 8, 8, 8, 8, 8, 8, 8, 8, 8, 8, 8, 8, 8, 8, 8, 8, 8, 8, 8, 8, 8, 8, 8, 8, 8, 8, 8, 8, 8, 8, 8, 8, 8, 8, 8, 8, 8, 8, 8, 8, 8, 8, 8, 8, 8, 8, 8, 8, 8, 8, 8, 8, 8, 8, 8, 8, 8, 8, 8, 8, 8, 8, 8, 8, 8, 8, 8, 8, 8, 8, 8, 8, 8, 8, 8, 8, 8, 8, 8, 8, 8, 8, 8, 8, 8, 8, 8, 8, 8, 8, 8, 8, 8, 8, 8, 8, 8, 8, 8, 8, 8, 8, 8, 8, 8, 8, 8, 8, 8, 8, 8, 8, 8, 8]⟩
theorem lenTab_all : ∀ n : Fin 256, lenTab.data[n.val]! = UInt8.ofNat (bl n.val) := by decide +kernel
theorem lenTab_at (n : Nat) (h : n < 256) (h' : n < lenTab.size) : (lenTab[n]'h').toNat = bl n := by
  have h1 := lenTab_all ⟨n, h⟩
  have h2 : bl n ≤ 8 := by
    have := bl_mono (show n ≤ 255 by omega)
    exact Nat.le_trans this (by decide)
  have h3 : lenTab.data[n]! = lenTab[n]'h' := by
    rw [getElem!_pos lenTab.data n h']; rfl
  rw [← h3]
  rw [show lenTab.data[n]! = UInt8.ofNat (bl n) from h1, UInt8.toNat_ofNat']
  omega

theorem len_val (n b : Nat) (s : Int) (hs : 0 ≤ s) (hs2 : s ≤ 24) (h : n < 256) (h' : n < lenTab.size) (hb : (b : Int) = bl n + s) : wrap64 (s + wrap64 (((lenTab[n]'h').toNat : Nat) : Int)) = (b : Int) := by
  rw [lenTab_at n h h', hb]
  have h2 : bl n ≤ 8 := by
    have := bl_mono (show n ≤ 255 by omega)
    exact Nat.le_trans this (by decide)
  unfold wrap64
  omega

end Go.Proofs.Ytefpjjonmoofpaa
