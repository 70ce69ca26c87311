import Derived.Test.YtkaoobdemaahbaaRf7
namespace Go.Proofs.Ytkaoobdemaahbaa
open Go.RowKit

theorem be_bound : ∀ (l : List UInt8) (n : Nat), be n l < (n + 1) * 256 ^ l.length
  | [], n => by simp [be]
  | x :: q, n => by
    have h := be_bound q (n * 256 + x.toNat)
    have hx := u8_lt x
    simp only [be, List.length_cons]
    refine Nat.lt_of_lt_of_le h ?_
    rw [Nat.pow_succ, Nat.mul_comm (256 ^ q.length) 256, ← Nat.mul_assoc]
    exact Nat.mul_le_mul_right _ (by omega)

theorem lenR_bd {r : List UInt8} {n k : Nat} (h : lenR r = (n, k)) : k ≤ 5 ∧ n ≤ 4294967296 ∧ k ≤ r.length := by
  cases r with
  | nil =>
    simp only [lenR, Prod.mk.injEq] at h
    omega
  | cons x q =>
    have hx := u8_lt x
    simp only [lenR] at h
    split at h
    · rename_i h1
      have h1' := (u8_lt_iff x).1 h1
      simp only [Prod.mk.injEq] at h
      simp only [List.length_cons]
      omega
    · split at h
      · simp only [Prod.mk.injEq] at h
        omega
      · rename_i h1 h2
        split at h
        · simp only [Prod.mk.injEq] at h
          omega
        · simp only [Prod.mk.injEq] at h
          obtain ⟨rfl, rfl⟩ := h
          have hb := be_bound (q.take (x.toNat - 128)) 0
          have hp : 256 ^ (q.take (x.toNat - 128)).length ≤ 256 ^ 4 := Nat.pow_le_pow_right (by decide) (by rw [List.length_take]; omega)
          have : (256 : Nat) ^ 4 = 4294967296 := by decide
          simp only [List.length_cons]
          omega

end Go.Proofs.Ytkaoobdemaahbaa
