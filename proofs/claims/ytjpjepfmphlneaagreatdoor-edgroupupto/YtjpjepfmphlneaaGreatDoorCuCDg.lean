import Derived.Test.YtjpjepfmphlneaaGreatDoorNtZ2
import Derived.Test.YtjpjepfmphlneaaGreatDoorNtZ6
namespace Go.Proofs.YtjpjepfmphlneaaGreatDoor
open Go.RowKit

theorem tobe_succ (n V : Nat) : tobe (n + 1) V = tobe n (V / 256) ++ [UInt8.ofNat (V % 256)] := by
  unfold tobe
  rw [List.range_succ, List.map_append]
  congr 1
  · apply List.map_congr_left
    intro i hi
    have hi2 := List.mem_range.1 hi
    congr 2
    rw [Nat.div_div_eq_div_mul, ← Nat.pow_succ', show n + 1 - 1 - i = (n - 1 - i).succ by omega]
  · simp
theorem bv_tobe (n V : Nat) : bv (tobe n V) = V % 256 ^ n := by
  induction n generalizing V with
  | zero => simp [tobe, bv, Nat.mod_one]
  | succ n ih =>
    rw [tobe_succ, bv_snoc, ih, UInt8.toNat_ofNat', Nat.mod_eq_of_lt (show V % 256 < 2 ^ 8 from Nat.mod_lt _ (by decide)), Nat.pow_succ, Nat.mul_comm (256 ^ n), Nat.mod_mul]
    omega
theorem tobe_bv : ∀ (n : Nat) (m : List UInt8), m.length = n → tobe n (bv m) = m
  | 0, m, h => by
    have := List.eq_nil_of_length_eq_zero h
    subst this
    rfl
  | n + 1, m, h => by
    have hne : m ≠ [] := fun e => by rw [e] at h; simp at h
    have e := (List.dropLast_concat_getLast hne).symm
    have hl : m.dropLast.length = n := by rw [List.length_dropLast]; omega
    have hc := (m.getLast hne).toNat_lt
    have eb : bv m = bv m.dropLast * 256 + (m.getLast hne).toNat := by
      conv => lhs; rw [e]
      exact bv_snoc _ _
    rw [tobe_succ, eb, show (bv m.dropLast * 256 + (m.getLast hne).toNat) / 256 = bv m.dropLast by omega, show (bv m.dropLast * 256 + (m.getLast hne).toNat) % 256 = (m.getLast hne).toNat by omega, tobe_bv n m.dropLast hl, UInt8.ofNat_toNat]
    exact e.symm
end Go.Proofs.YtjpjepfmphlneaaGreatDoor
