import Derived.Test.YtefpjjonmoofpaaNtEstM
import Derived.Test.YtefpjjonmoofpaaNtLen
import Derived.Test.YtefpjjonmoofpaaNtRow
namespace Go.Proofs.Ytefpjjonmoofpaa

theorem div_none {M d D W W' : Nat} (h : W' + d * D = W + M * 0) (hlt : W < (d + 1) * D) : W' < D ∧ W = W' + d * D := by
  rw [Nat.add_mul, Nat.one_mul] at hlt
  omega

theorem div_back {M d D W W' W'' cy c2 : Nat} (h : W' + d * D = W + M * cy) (hcy : cy ≠ 0) (hW' : W' < M) (hD : D < M) (he : d * D ≤ W + D) (h2 : W'' + M * c2 = W' + D) (hW'' : W'' < M) (hc2 : c2 ≤ 1) : ∃ d', d = d' + 1 ∧ W'' < D ∧ W = W'' + d' * D := by
  have h1 : cy = 1 := by
    rcases cy with _ | _ | cy
    · exact absurd rfl hcy
    · rfl
    · exfalso
      rw [Nat.mul_succ, Nat.mul_succ] at h
      omega
  subst h1
  rw [Nat.mul_one] at h
  rcases d with _ | d'
  · rw [Nat.zero_mul] at h; omega
  · rw [Nat.add_mul, Nat.one_mul] at h he
    refine ⟨d', rfl, ?_⟩
    rcases c2 with _ | _ | c2
    · omega
    · omega
    · omega

theorem rem_step {P lo W Wn g D Q A : Nat} (h : lo + P * W + Q * D = A) (hw : W = Wn + g * D) (hlo : lo < P) (hn : Wn < D) : lo + P * Wn + (Q + P * g) * D = A ∧ lo + P * Wn < P * D := by
  constructor
  · rw [← h, hw, Nat.mul_add, Nat.add_mul, Nat.mul_assoc]
    omega
  · have : P * (Wn + 1) ≤ P * D := Nat.mul_le_mul_left _ hn
    rw [Nat.mul_add, Nat.mul_one] at this
    omega

theorem two_32 (k : Nat) (h : k ≤ 32) : 2 ^ (32 - k) * 2 ^ k = 4294967296 := by rw [← Nat.pow_add, show 32 - k + k = 32 by omega]
theorem two_31 (k : Nat) (h : k ≤ 32) (h0 : 0 < k) : 2 ^ (32 - k) * 2 ^ (k - 1) = 2147483648 := by rw [← Nat.pow_add, show 32 - k + (k - 1) = 31 by omega]

/-- The divisor, raised so far that its top bit is set. -/
theorem norm_div (D0 : List Nat) (m : Nat) (hs : Sm Bs D0) (hl : D0.length = m + 1) (ht : D0.getD m 0 ≠ 0) :
    bl (D0.getD m 0) ≤ 32 ∧ (dg Bs (nv Bs D0 * 2 ^ (32 - bl (D0.getD m 0)))).length = m + 1 ∧ 2147483648 ≤ (dg Bs (nv Bs D0 * 2 ^ (32 - bl (D0.getD m 0)))).getD m 0 := by
  have e1 := nv_take_succ Bs D0 m
  rw [List.take_of_length_le (by omega)] at e1
  have h1 := nv_lt Bs_pos (hs.take m)
  rw [List.length_take, Nat.min_eq_left (by omega)] at h1
  have ht2 := hs.getD Bs_pos m
  generalize D0.getD m 0 = t at *
  have hb : bl t ≤ 32 := by
    have h2 : bl t ≤ bl 4294967295 := bl_mono (by rw [Bs_eq] at ht2; omega)
    exact Nat.le_trans h2 (by decide)
  have hb0 := bl_pos t ht
  have a1 := bl_le t ht
  have a2 := bl_lt t
  generalize nv Bs (D0.take m) = lo at *
  have f1 := two_32 (bl t) hb
  have f2 := two_31 (bl t) hb hb0
  generalize 32 - bl t = s at *
  have hp : 0 < 2 ^ s := Nat.pow_pos (by decide)
  have up : nv Bs D0 * 2 ^ s < Bs ^ (m + 1) := by
    have h3 : nv Bs D0 < Bs ^ m * (t + 1) := by rw [e1, Nat.mul_add]; omega
    have h4 : nv Bs D0 * 2 ^ s < Bs ^ m * (t + 1) * 2 ^ s := Nat.mul_lt_mul_of_pos_right h3 hp
    have h5 : Bs ^ m * (t + 1) * 2 ^ s ≤ Bs ^ m * Bs := by
      rw [Nat.mul_assoc]
      refine Nat.mul_le_mul_left _ ?_
      rw [Bs_eq, ← f1, Nat.mul_comm]
      exact Nat.mul_le_mul_left _ a2
    rw [Nat.pow_succ]
    exact Nat.lt_of_lt_of_le h4 h5
  have low : Bs ^ m * 2147483648 ≤ nv Bs D0 * 2 ^ s := by
    have h3 : Bs ^ m * t ≤ nv Bs D0 := by rw [e1]; exact Nat.le_add_left _ _
    have h4 : Bs ^ m * t * 2 ^ s ≤ nv Bs D0 * 2 ^ s := Nat.mul_le_mul_right _ h3
    refine Nat.le_trans ?_ h4
    rw [Nat.mul_assoc]
    refine Nat.mul_le_mul_left _ ?_
    rw [← f2, Nat.mul_comm]
    exact Nat.mul_le_mul_right _ a1
  generalize nv Bs D0 * 2 ^ s = V at *
  have hp2 : 0 < Bs ^ m := Nat.pow_pos Bs_pos
  have htop : V / Bs ^ m < Bs := by rw [Nat.pow_succ] at up; exact Nat.div_lt_of_lt_mul up
  have hlow : 2147483648 ≤ V / Bs ^ m := (Nat.le_div_iff_mul_le hp2).2 (by rw [Nat.mul_comm]; exact low)
  refine ⟨hb, ?_, ?_⟩
  · have l1 := dg_len Bs_two (m + 1) V up
    rcases Nat.lt_or_ge (dg Bs V).length (m + 1) with h6 | h6
    · exfalso
      have l2 := dg_up Bs_two V
      have l3 : Bs ^ (dg Bs V).length ≤ Bs ^ m := Nat.pow_le_pow_right Bs_pos (by omega)
      have l4 : Bs ^ m * 1 ≤ Bs ^ m * 2147483648 := Nat.mul_le_mul_left _ (by decide)
      rw [Nat.mul_one] at l4
      exact absurd (Nat.lt_of_lt_of_le l2 (Nat.le_trans l3 (Nat.le_trans l4 low))) (Nat.lt_irrefl _)
    · exact Nat.le_antisymm l1 h6
  · have := nv_getD Bs_pos (dg_sm Bs_two V) m
    rw [this, dg_nv Bs_two, Nat.mod_eq_of_lt htop]
    exact hlow

end Go.Proofs.Ytefpjjonmoofpaa
