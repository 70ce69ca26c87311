import Derived.Test.YtecapoknnnoheaaMl2
namespace Go.Proofs.Ytecapoknnnoheaa
open Go.RowKit

theorem rc0 {M A B : Nat} (hM : 2 ≤ M) (lM : Lg M = false) (lA : Lg A = false) (lB : Lg B = false) : rcode M (Lg A || Lg B) = 0 := rcode_ok lM (by rw [lA, lB]; rfl) hM
theorem Lg_lt {V M : Nat} (lM : Lg M = false) (h : V < M) : Lg V = false := Lg_of (dgl_le _ _ _ (Nat.le_of_lt h) (Lg_le lM))
theorem Lg_mod {A M : Nat} (lM : Lg M = false) (h : 2 ≤ M) : Lg (A % M) = false := Lg_lt lM (Nat.mod_lt _ (by omega))
theorem Lg_less {A B M : Nat} (lM : Lg M = false) (h : 2 ≤ M) : Lg (lessV M (A % M) (B % M)) = false := Lg_lt lM (lessV_lt (Nat.mod_lt _ (by omega)) (Nat.mod_lt _ (by omega)))
/-- What a number above the others is not longer than. -/
theorem Om.small {w : World} {v : Value} {V k : Nat} (h : Om w v V) (hk : (dg Bs V).length ≤ k) : Vl w v V k := h.1.vl hk
theorem exp_sum (A E F M : Nat) : A ^ (E + F) % M = A ^ E % M * (A ^ F % M) % M := by rw [Nat.pow_add, Nat.mul_mod]
theorem exp_prod (A B E M : Nat) : (A * B % M) ^ E % M = A ^ E % M * (B ^ E % M) % M := by rw [← Nat.pow_mod, Nat.mul_pow, Nat.mul_mod]

end Go.Proofs.Ytecapoknnnoheaa
