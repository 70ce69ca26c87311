import Derived.Test.YthnogdkkdekgpaaDoorNtZ2
import Derived.Test.YthnogdkkdekgpaaDoorNtZ3
import Derived.Test.YthnogdkkdekgpaaDoorNtZ6
import Derived.Lib.BitFns
namespace Go.Proofs.YthnogdkkdekgpaaDoor
open Go.RowKit

theorem kbv_append (a b : List UInt8) : bv (a ++ b) = bv a * 256 ^ b.length + bv b := by
  induction b generalizing a with
  | nil => simp [bv]
  | cons c r ih =>
    rw [show a ++ c :: r = (a ++ [c]) ++ r by simp, ih, bv_snoc, show bv (c :: r) = bv ([c] ++ r) from rfl, ih [c]]
    have : bv [c] = c.toNat := by simp [bv]
    rw [this, List.length_cons, Nat.pow_succ, Nat.add_mul, Nat.mul_assoc, Nat.mul_comm 256]
    omega
theorem kbv_cons (c : UInt8) (r : List UInt8) : bv (c :: r) = c.toNat * 256 ^ r.length + bv r := by
  have e : bv (c :: r) = bv ([c] ++ r) := rfl
  have e1 : bv [c] = c.toNat := by simp [bv]
  rw [e, kbv_append, e1]
theorem kbv_lt : ∀ l : List UInt8, bv l < 256 ^ l.length
  | [] => by simp [bv]
  | c :: r => by
    have h1 := kbv_lt r
    have h2 := c.toNat_lt
    rw [kbv_cons, List.length_cons, Nat.pow_succ]
    have h3 : c.toNat * 256 ^ r.length ≤ 255 * 256 ^ r.length := Nat.mul_le_mul_right _ (by omega)
    omega
/-- The last byte tells whether a number is odd. -/
theorem kbv_last (l : List UInt8) (h : 0 < l.length) : bv l % 2 = (l.getD (l.length - 1) 0).toNat % 2 := by
  have e := bv_take_succ l (l.length - 1) (by omega)
  rw [Nat.sub_add_cancel h, List.take_length] at e
  rw [e, List.getD_eq_getElem?_getD, List.getElem?_eq_getElem (by omega), Option.getD_some]
  omega
theorem bitLen_bl : ∀ n : Fin 256, Lib.bitLen n.val = bl n.val := by decide +kernel
/-- A number's digits, by its first byte. -/
theorem kbl (l : List UInt8) (h : 0 < l.length) (h0 : l.getD 0 0 ≠ 0) : bl (bv l) = 8 * (l.length - 1) + Lib.bitLen (l.getD 0 0).toNat := by
  cases l with
  | nil => simp at h
  | cons c r =>
    have hc : c ≠ 0 := by simpa using h0
    have hc2 : c.toNat ≠ 0 := fun e => hc (by rw [← UInt8.toNat_inj]; exact e)
    have e1 : bv (c :: r) / 2 ^ (8 * r.length) = c.toNat := by
      rw [kbv_cons, Nat.pow_mul, show (2 : Nat) ^ 8 = 256 by rfl, Nat.add_comm, Nat.add_mul_div_right _ _ (Nat.pow_pos (by decide)), Nat.div_eq_of_lt (kbv_lt r), Nat.zero_add]
    have e2 := bl_shift (bv (c :: r)) (8 * r.length) (by rw [e1]; exact hc2)
    have e3 := bitLen_bl ⟨c.toNat, c.toNat_lt⟩
    simp only at e3
    rw [e2, e1]
    show bl c.toNat + 8 * r.length = 8 * (r.length + 1 - 1) + Lib.bitLen c.toNat
    rw [e3]; omega

/-- An odd number of so many digits, with no byte 0 ahead. -/
def oddV (l : List UInt8) (lo hi : Int) : Bool := decide (0 < l.length ∧ l.getD 0 0 ≠ 0 ∧ bv l % 2 = 1 ∧ lo ≤ (bl (bv l) : Int) ∧ (bl (bv l) : Int) ≤ hi)
/-- Are they a key's parts? -/
def keyV (n e : List UInt8) : Bool := oddV n 2048 4096 && oddV e 2 32
/-- What Key answers. -/
def keyC (n e : List UInt8) : Int := if keyV n e then 0 else 90

theorem oddV_nil (lo hi : Int) : oddV [] lo hi = false := rfl
theorem oddV_zero (l : List UInt8) (lo hi : Int) (h : l.getD 0 0 = 0) : oddV l lo hi = false := by unfold oddV; rw [decide_eq_false]; rintro ⟨_, h1, _⟩; exact h1 h
theorem oddV_even (l : List UInt8) (lo hi : Int) (h0 : 0 < l.length) (h : (l.getD (l.length - 1) 0).toNat % 2 = 0) : oddV l lo hi = false := by
  unfold oddV; rw [decide_eq_false]; rintro ⟨_, _, h1, _⟩; rw [kbv_last l h0] at h1; omega
theorem oddV_is (l : List UInt8) (lo hi : Int) (h0 : 0 < l.length) (h1 : l.getD 0 0 ≠ 0) (h : (l.getD (l.length - 1) 0).toNat % 2 = 1) :
    oddV l lo hi = (decide (lo ≤ 8 * (l.length : Int) - (8 - (Lib.bitLen (l.getD 0 0).toNat : Int))) && decide (8 * (l.length : Int) - (8 - (Lib.bitLen (l.getD 0 0).toNat : Int)) ≤ hi)) := by
  unfold oddV
  have e := kbl l h0 h1
  have e2 : ((bl (bv l) : Nat) : Int) = 8 * (l.length : Int) - (8 - (Lib.bitLen (l.getD 0 0).toNat : Int)) := by rw [e]; omega
  rw [e2, kbv_last l h0, ← Bool.decide_and]
  apply decide_eq_decide.2
  constructor
  · rintro ⟨_, _, _, a, b⟩; exact ⟨a, b⟩
  · rintro ⟨a, b⟩; exact ⟨h0, h1, h, a, b⟩

end Go.Proofs.YthnogdkkdekgpaaDoor
