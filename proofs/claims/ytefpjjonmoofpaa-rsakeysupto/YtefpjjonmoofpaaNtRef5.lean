import Derived.Test.YtefpjjonmoofpaaNtRef4
import Derived.Test.YtefpjjonmoofpaaNtDvLaw
namespace Go.Proofs.Ytefpjjonmoofpaa
open Go.RowKit

theorem half_step (A k : Nat) : A / 2 ^ k = 2 * (A / 2 ^ (k + 1)) + A / 2 ^ k % 2 := by
  rw [Nat.pow_succ, ← Nat.div_div_eq_div_mul]
  omega

theorem dgl_dbl (D k : Nat) (h : (dg Bs D).length ≤ k) : (dg Bs (2 * D)).length ≤ k + 1 := by
  have a3 : D < Bs ^ k := Nat.lt_of_lt_of_le (dg_up Bs_two D) (Nat.pow_le_pow_right Bs_pos h)
  refine dg_len Bs_two _ _ ?_
  rw [Nat.pow_succ']
  exact Nat.lt_of_lt_of_le (Nat.mul_lt_mul_of_pos_left a3 (by decide)) (Nat.mul_le_mul_right _ (by decide))

theorem bool_toNat (n : Nat) (h : n ≤ 1) : (decide (n = 1)).toNat = n := by
  rcases Nat.eq_zero_or_pos n with h0 | h0
  · subst h0; rfl
  · obtain rfl : n = 1 := by omega
    rfl

/-- What stands while a quotient is made bit by bit. -/
structure RS (w wr : World) (q r v u : Value) (xs ys : List Nat) (k Q R : Nat) : Prop where
  oq : Ow wr w.heap.size q (dg Bs Q)
  or : Ow wr w.heap.size r (dg Bs R)
  nmv : Nm wr v xs
  nmu : Nm wr u ys
  bel : Below w.heap.size w wr
  eq : nv Bs xs / 2 ^ k = Q * nv Bs ys + R
  lt : R < nv Bs ys

end Go.Proofs.Ytefpjjonmoofpaa
