import Derived.Test.YtefpjjonmoofpaaNtAlive
namespace Go.Proofs.Ytefpjjonmoofpaa
open Go.RowKit

/-- How long sums and products are. -/
theorem dgl_add (U V k m : Nat) (hu : (dg Bs U).length ≤ k) (hv : (dg Bs V).length ≤ m) : (dg Bs (U + V)).length ≤ k + m + 1 := by
  have h := sum_fits Bs_two (k + m + 1) (dg_sm Bs_two U) (dg_sm Bs_two V) (by omega) (by omega)
  rw [dg_nv Bs_two, dg_nv Bs_two] at h
  exact dg_len Bs_two _ _ h
theorem dgl_mul (U V k m : Nat) (hu : (dg Bs U).length ≤ k) (hv : (dg Bs V).length ≤ m) : (dg Bs (U * V)).length ≤ k + m := by
  have h1 : U < Bs ^ k := Nat.lt_of_lt_of_le (dg_up Bs_two U) (Nat.pow_le_pow_right Bs_pos hu)
  have h2 : V < Bs ^ m := Nat.lt_of_lt_of_le (dg_up Bs_two V) (Nat.pow_le_pow_right Bs_pos hv)
  refine dg_len Bs_two _ _ ?_
  rw [Nat.pow_add]
  exact Nat.mul_lt_mul'' h1 h2
theorem dgl_le (U V k : Nat) (h : U ≤ V) (hv : (dg Bs V).length ≤ k) : (dg Bs U).length ≤ k :=
  dg_len Bs_two _ _ (Nat.lt_of_le_of_lt h (Nat.lt_of_lt_of_le (dg_up Bs_two V) (Nat.pow_le_pow_right Bs_pos hv)))
theorem dgl_arg (xs : List Nat) (k : Nat) (hs : Sm Bs xs) (h : xs.length ≤ k) : (dg Bs (nv Bs xs)).length ≤ k := dg_len Bs_two _ _ (Nat.lt_of_lt_of_le (nv_lt Bs_pos hs) (Nat.pow_le_pow_right Bs_pos h))

/-- A value that is a number, of that value, of no more limbs than that. -/
def Vl (w : World) (v : Value) (V k : Nat) : Prop := ∃ xs, Nm w v xs ∧ nv Bs xs = V ∧ xs.length ≤ k
theorem Vl.below {w w' : World} {v : Value} {V k n : Nat} (h : Vl w v V k) (hb : Below n w w') (hn : w.heap.size ≤ n) : Vl w' v V k := by
  obtain ⟨xs, h1, h2⟩ := h; exact ⟨xs, h1.below hb hn, h2⟩
theorem Vl.drewN {w : World} {v : Value} {V k : Nat} (h : Vl w v V k) (q : Nat) : Vl (w.drewN q) v V k := h
theorem Ow.vl {w : World} {base : Nat} {v : Value} {V k : Nat} (h : Ow w base v (dg Bs V)) (hk : (dg Bs V).length ≤ k) : Vl w v V k := ⟨_, h.nm (dg_sm Bs_two V), dg_nv Bs_two V, hk⟩
theorem Vl.len {w : World} {v : Value} {V k : Nat} (h : Vl w v V k) : (dg Bs V).length ≤ k := by
  obtain ⟨xs, h1, h2, h3⟩ := h
  rw [← h2]; exact dgl_arg xs k h1.sm h3

/-- A new number. -/
def New (w w' : World) (r : Value) (V k : Nat) : Prop := Ow w' w.heap.size r (dg Bs V) ∧ (dg Bs V).length ≤ k ∧ Below w.heap.size w w'

end Go.Proofs.Ytefpjjonmoofpaa
