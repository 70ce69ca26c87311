import Derived.Test.YtefpjjonmoofpaaNtNM
namespace Go.Proofs.Ytefpjjonmoofpaa

/-- What an estimate is made of: window and divisor, both times B B, by their highest limbs. -/
structure Es (B M v2 d' u w' D W : Nat) : Prop where
  hd : D = v2 * M + d'
  hd' : d' < M
  hw : W = u * M + w'
  hw' : w' < M

theorem Es.start {B M top next head w2 d' w' D W : Nat} (h : Es B M (top * B + next) d' (head * B + w2) w' D W) (h2 : w2 < B) (g : Nat) (hg : head < (g + 1) * top) : W < (g + 1) * D := by
  have h1 : (head * B + w2 + 1) * M ≤ ((g + 1) * top * B) * M := Nat.mul_le_mul_right _ (by
    have : (head + 1) * B ≤ (g + 1) * top * B := Nat.mul_le_mul_right _ hg
    rw [Nat.add_mul] at this
    omega)
  rw [Nat.add_mul, Nat.one_mul] at h1
  have h3 : (g + 1) * top * B * M ≤ (g + 1) * D := by
    rw [h.hd, Nat.mul_assoc (g + 1), Nat.mul_assoc (g + 1)]
    refine Nat.mul_le_mul_left _ ?_
    rw [Nat.add_mul]
    omega
  have := h.hw
  have := h.hw'
  omega

/-- The digit is too great. -/
theorem Es.step {B M top next head w2 d' w' D W : Nat} (h : Es B M (top * B + next) d' (head * B + w2) w' D W) (g left : Nat) (hi : g * top + left = head) (hgt : left * B + w2 < g * next) : W < g * D := by
  have e1 : g * (top * B + next) = g * top * B + g * next := by rw [Nat.mul_add, ← Nat.mul_assoc]
  have e2 : head * B = g * top * B + left * B := by rw [← hi, Nat.add_mul]
  have h1 : (head * B + w2 + 1) * M ≤ g * (top * B + next) * M := Nat.mul_le_mul_right _ (by rw [e1]; omega)
  rw [Nat.add_mul, Nat.one_mul] at h1
  have h3 : g * (top * B + next) * M ≤ g * D := by
    rw [h.hd, Nat.mul_assoc]
    exact Nat.mul_le_mul_left _ (by omega)
  have := h.hw
  have := h.hw'
  omega

/-- The digit is at most one too great. -/
theorem Es.stop {B M top next head w2 d' w' D W : Nat} (h : Es B M (top * B + next) d' (head * B + w2) w' D W) (g left : Nat) (hi : g * top + left = head) (hle : g * next ≤ left * B + w2) (hg : g ≤ top * B + next) : g * D ≤ W + D := by
  have e1 : g * (top * B + next) = g * top * B + g * next := by rw [Nat.mul_add, ← Nat.mul_assoc]
  have e2 : head * B = g * top * B + left * B := by rw [← hi, Nat.add_mul]
  have h1 : g * (top * B + next) * M ≤ (head * B + w2) * M := Nat.mul_le_mul_right _ (by rw [e1]; omega)
  have h2 : g * d' ≤ g * M := Nat.mul_le_mul_left _ (Nat.le_of_lt h.hd')
  have h3 : g * M ≤ (top * B + next) * M := Nat.mul_le_mul_right _ hg
  have e3 : g * D = g * (top * B + next) * M + g * d' := by rw [h.hd, Nat.mul_add, ← Nat.mul_assoc]
  have := h.hw
  have := h.hd
  omega

theorem top_split {B : Nat} (hB : 0 < B) (xs : List Nat) (hs : Sm B xs) (m : Nat) (hl : xs.length = m + 1) : ∃ d', nv B xs * (B * B) = (xs.getD m 0 * B + (if m = 0 then 0 else xs.getD (m - 1) 0)) * B ^ (m + 1) + d' ∧ d' < B ^ (m + 1) := by
  have e1 := nv_take_succ B xs m
  rw [List.take_of_length_le (by omega)] at e1
  rcases m with _ | m
  · refine ⟨0, ?_, Nat.pow_pos hB⟩
    rw [e1, if_pos rfl, List.take_zero, nv]
    simp [← Nat.mul_assoc]
  · have e2 := nv_take_succ B xs m
    have h1 := nv_lt hB (hs.take m)
    rw [List.length_take, Nat.min_eq_left (by omega)] at h1
    refine ⟨nv B (xs.take m) * (B * B), ?_, ?_⟩
    · rw [e1, e2, if_neg (by omega), Nat.add_sub_cancel, Nat.add_mul, Nat.add_mul, Nat.add_mul]
      have a1 : B ^ m * xs.getD m 0 * (B * B) = xs.getD m 0 * B ^ (m + 1 + 1) := by
        rw [Nat.pow_succ, Nat.pow_succ, Nat.mul_comm (B ^ m), Nat.mul_assoc, Nat.mul_assoc]
      have a2 : B ^ (m + 1) * xs.getD (m + 1) 0 * (B * B) = xs.getD (m + 1) 0 * B * B ^ (m + 1 + 1) := by
        rw [show B ^ (m + 1 + 1) = B ^ (m + 1) * B from Nat.pow_succ ..]
        generalize B ^ (m + 1) = p
        ac_rfl
      rw [a1, a2]
      omega
    · rw [Nat.pow_succ, Nat.pow_succ, Nat.mul_assoc]
      exact Nat.mul_lt_mul_of_pos_right h1 (Nat.mul_pos hB hB)

theorem win_split {B : Nat} (hB : 0 < B) (W : List Nat) (hs : Sm B W) (m : Nat) (hl : W.length = m + 2) : ∃ w', nv B W * (B * B) = ((W.getD (m + 1) 0 * B + W.getD m 0) * B + (if m = 0 then 0 else W.getD (m - 1) 0)) * B ^ (m + 1) + w' ∧ w' < B ^ (m + 1) := by
  obtain ⟨w', h1, h2⟩ := top_split hB (W.take (m + 1)) (hs.take _) m (by rw [List.length_take]; omega)
  refine ⟨w', ?_, h2⟩
  have e1 := nv_take_succ B W (m + 1)
  rw [List.take_of_length_le (by omega)] at e1
  have g1 : (W.take (m + 1)).getD m 0 = W.getD m 0 := by simp [List.getD_eq_getElem?_getD]
  have g2 : (W.take (m + 1)).getD (m - 1) 0 = W.getD (m - 1) 0 := by
    rw [List.getD_eq_getElem?_getD, List.getElem?_take_of_lt (by omega), List.getD_eq_getElem?_getD]
  rw [g1, g2] at h1
  rw [e1, Nat.add_mul, h1]
  generalize (if m = 0 then 0 else W.getD (m - 1) 0) = w2
  have a : B ^ (m + 1) * W.getD (m + 1) 0 * (B * B) = W.getD (m + 1) 0 * B * B * B ^ (m + 1) := by
    generalize B ^ (m + 1) = p
    ac_rfl
  rw [a]
  simp only [Nat.add_mul]
  omega

/-- The window's highest limb is not above the divisor's. -/
theorem win_top {B : Nat} (hB : 0 < B) (W D : List Nat) (sD : Sm B D) (m : Nat) (hW : W.length = m + 2) (hD : D.length = m + 1) (h : nv B W < B * nv B D) : W.getD (m + 1) 0 ≤ D.getD m 0 := by
  have e1 := nv_take_succ B W (m + 1)
  rw [List.take_of_length_le (by omega)] at e1
  have e2 := nv_take_succ B D m
  rw [List.take_of_length_le (by omega)] at e2
  have h1 := nv_lt hB (sD.take m)
  rw [List.length_take, Nat.min_eq_left (by omega)] at h1
  rcases Nat.lt_or_ge (D.getD m 0) (W.getD (m + 1) 0) with h3 | h3
  · exfalso
    have h4 : B * nv B D < B * (B ^ m * (D.getD m 0 + 1)) := Nat.mul_lt_mul_of_pos_left (by rw [e2, Nat.mul_add]; omega) hB
    have h5 : B ^ (m + 1) * (D.getD m 0 + 1) ≤ B ^ (m + 1) * W.getD (m + 1) 0 := Nat.mul_le_mul_left _ h3
    have e3 : B * (B ^ m * (D.getD m 0 + 1)) = B ^ (m + 1) * (D.getD m 0 + 1) := by rw [Nat.pow_succ', Nat.mul_assoc]
    rw [e3] at h4
    omega
  · exact h3

theorem mul_sq_lt {B D W q : Nat} (hB : 0 < B) : W * (B * B) < q * (D * (B * B)) ↔ W < q * D := by
  have hp : 0 < B * B := Nat.mul_pos hB hB
  rw [show q * (D * (B * B)) = q * D * (B * B) from (Nat.mul_assoc _ _ _).symm]
  constructor
  · exact fun h => Nat.lt_of_mul_lt_mul_right h
  · exact fun h => Nat.mul_lt_mul_of_pos_right h hp
theorem mul_sq_le {B D W q : Nat} (hB : 0 < B) (h : q * (D * (B * B)) ≤ W * (B * B) + D * (B * B)) : q * D ≤ W + D := by
  have hp : 0 < B * B := Nat.mul_pos hB hB
  rw [show q * (D * (B * B)) = q * D * (B * B) from (Nat.mul_assoc _ _ _).symm, ← Nat.add_mul] at h
  exact Nat.le_of_mul_le_mul_right h hp

end Go.Proofs.Ytefpjjonmoofpaa
