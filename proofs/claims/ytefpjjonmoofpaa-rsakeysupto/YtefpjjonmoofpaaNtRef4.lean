import Derived.Test.YtefpjjonmoofpaaNtRef3
namespace Go.Proofs.Ytefpjjonmoofpaa
open Go.RowKit

theorem dbl_step (B p A c X x v c' b : Nat) (h : A + p * c = 2 * X + b) (hs : v + B * c' = 2 * x + c) : (A + p * v) + (p * B) * c' = 2 * (X + p * x) + b := by
  have h1 := congrArg (p * ·) hs
  have h2 : p * (2 * x) = 2 * (p * x) := Nat.mul_left_comm _ _ _
  simp only [Nat.mul_add, ← Nat.mul_assoc] at h1 h2 ⊢
  omega

theorem dbl_proper (V b : Nat) (ds : List Nat) (c : Nat) (sd : Sm Bs ds) (hl : ds.length = (dg Bs V).length) (hc : c ≤ 1) (hb : b ≤ 1) (h : nv Bs ds + Bs ^ (dg Bs V).length * c = 2 * V + b) :
    (if c = 0 then ds else ds ++ [c]) = dg Bs (2 * V + b) := by
  rcases Nat.eq_zero_or_pos (dg Bs V).length with h0 | h0
  · have hV : V = 0 := by
      have := dg_nv Bs_two V
      rw [List.eq_nil_of_length_eq_zero h0] at this
      exact this.symm
    subst hV
    have hd : ds = [] := List.eq_nil_of_length_eq_zero (by omega)
    subst hd
    rw [h0, Nat.pow_zero] at h
    have hcb : c = b := by simp [nv] at h; omega
    subst hcb
    rcases Nat.eq_zero_or_pos c with h1 | h1
    · subst h1; rw [if_pos rfl, dg_zero]
    · obtain rfl : c = 1 := by omega
      rw [if_neg (by decide), dg_pos Bs_two (by decide), show (2 * 0 + 1) % Bs = 1 from by decide, show (2 * 0 + 1) / Bs = 0 from by decide, dg_zero]
      rfl
  · obtain ⟨m, hm⟩ : ∃ m, (dg Bs V).length = m + 1 := ⟨(dg Bs V).length - 1, by omega⟩
    have hlow := dg_low Bs_two m V hm
    rw [hm] at h hl
    by_cases hc0 : c = 0
    · subst hc0
      rw [if_pos rfl]
      rw [Nat.mul_zero, Nat.add_zero] at h
      have := proper_of_ge Bs_two sd m hl (by rw [h]; omega)
      rw [h] at this
      exact this
    · rw [if_neg hc0]
      have e : nv Bs (ds ++ [c]) = 2 * V + b := by rw [nv_snoc, hl]; exact h
      have := proper_of_ge Bs_two (sd.snoc (x := c) (by rw [Bs_eq]; omega)) (m + 1) (by rw [List.length_append, hl]; rfl) (by
        rw [nv_snoc, hl]
        exact Nat.le_trans (Nat.le_mul_of_pos_right _ (by omega)) (Nat.le_add_left _ _))
      rw [e] at this
      exact this

end Go.Proofs.Ytefpjjonmoofpaa
