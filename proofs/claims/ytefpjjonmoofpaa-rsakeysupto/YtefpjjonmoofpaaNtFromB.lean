import Derived.Test.YtefpjjonmoofpaaNtMul
namespace Go.Proofs.Ytefpjjonmoofpaa
open Go.RowKit

/-- The number of bytes, the most significant first. -/
def bv (l : List UInt8) : Nat := l.foldl (fun a c => a * 256 + c.toNat) 0
theorem bv_snoc (l : List UInt8) (c : UInt8) : bv (l ++ [c]) = bv l * 256 + c.toNat := by simp [bv]
theorem bv_nil : bv [] = 0 := rfl
theorem bv_take_succ (l : List UInt8) (k : Nat) (hk : k < l.length) : bv (l.take (k + 1)) = bv (l.take k) * 256 + l[k].toNat := by
  rw [List.take_succ_eq_append_getElem hk, bv_snoc]

theorem Bs_256 : Bs = 256 ^ 4 := by decide

/-- A limb whose lower bytes are not filled yet. -/
theorem low_zero (P : List Nat) (sP : Sm Bs P) (V p : Nat) (h : nv Bs P = V * 256 ^ (p + 1)) : P.getD (p / 4) 0 % 2 ^ (8 * (p % 4 + 1)) = 0 := by
  have e0 : 256 ^ (p + 1) = Bs ^ (p / 4) * 256 ^ (p % 4 + 1) := by
    rw [Bs_256, ← Nat.pow_mul, ← Nat.pow_add]
    congr 1
    omega
  have e1 : nv Bs P / Bs ^ (p / 4) = V * 256 ^ (p % 4 + 1) := by
    rw [h, e0, Nat.mul_left_comm, Nat.mul_div_cancel_left _ (Nat.pow_pos Bs_pos)]
  rw [nv_getD Bs_pos sP, e1, show (2 : Nat) ^ (8 * (p % 4 + 1)) = 256 ^ (p % 4 + 1) by rw [Nat.pow_mul], Nat.mod_mod_of_dvd _ (by
    rw [Bs_256]
    exact Nat.pow_dvd_pow 256 (by omega))]
  exact Nat.mul_mod_left _ _

theorem place_value (P : List Nat) (V p c x : Nat) (hp : p / 4 < P.length) (hx : P.getD (p / 4) 0 = x) (h : nv Bs P = V * 256 ^ (p + 1)) : nv Bs (P.set (p / 4) (x + c * 2 ^ (8 * (p % 4)))) = (V * 256 + c) * 256 ^ p := by
  have h1 := nv_set' Bs P (p / 4) (x + c * 2 ^ (8 * (p % 4))) x hp hx
  have e0 : 256 ^ p = Bs ^ (p / 4) * 2 ^ (8 * (p % 4)) := by
    rw [show (2 : Nat) ^ (8 * (p % 4)) = 256 ^ (p % 4) by rw [Nat.pow_mul], Bs_256, ← Nat.pow_mul, ← Nat.pow_add]
    congr 1
    omega
  have e2 : Bs ^ (p / 4) * (c * 2 ^ (8 * (p % 4))) = c * 256 ^ p := by rw [e0, Nat.mul_left_comm]
  rw [Nat.mul_add, e2] at h1
  rw [Nat.pow_succ, Nat.mul_comm (256 ^ p), ← Nat.mul_assoc] at h
  rw [Nat.add_mul]
  generalize Bs ^ (p / 4) * x = t at *
  omega

theorem MS.drewN {w wr : World} {g n : Nat} {P : List Nat} (h : MS w wr g n P) (q : Nat) : MS w (wr.drewN q) g n P := ⟨h.bl, h.len, h.sm, below_drewN h.bel q⟩

end Go.Proofs.Ytefpjjonmoofpaa
