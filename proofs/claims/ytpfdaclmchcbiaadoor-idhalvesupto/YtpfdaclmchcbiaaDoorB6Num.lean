import Derived.Test.YtpfdaclmchcbiaaDoorB6Enc
import Derived.Deep.QuietTactic
import Derived.BigQuiet
import Derived.Lib.Bytealg
import Derived.Deep.RegionWith
namespace Go.Proofs.YtpfdaclmchcbiaaDoor.B64
open Go.RowKit
set_option maxRecDepth 100000

/-- A sign's place in a row; -1: it is none. -/
def ix (row : ByteArray) (c : UInt8) : Int := Lib.indexByte row.data.toList c

theorem indexByte_lt (c : UInt8) : ∀ l : List UInt8, Lib.indexByte l c < l.length ∨ l = []
  | [] => .inr rfl
  | b :: l => .inl (by
    unfold Lib.indexByte
    have := indexByte_lt c l
    split
    · simp
    · split
      · simp; omega
      · rcases this with h | h
        · simp; omega
        · subst h; simp [Lib.indexByte] at *)

theorem ix_bd (row : ByteArray) (c : UInt8) (hrow : row.size = 64) : -1 ≤ ix row c ∧ ix row c < 64 := by
  refine ⟨Lib.indexByte_ge _ _, ?_⟩
  have hl : row.data.toList.length = 64 := by simpa using hrow
  rcases indexByte_lt c row.data.toList with h | h
  · unfold ix; omega
  · rw [h] at hl; simp at hl

theorem bor4 (n0 n1 n2 n3 : Nat) (l0 : n0 < 64) (l1 : n1 < 64) (l2 : n2 < 64) (l3 : n3 < 64) : bits .or .u32 (bits .or .u32 (bits .or .u32 0 (n3 : Int)) ((n2 : Int) * 64)) (bits .or .u32 ((n1 : Int) * 4096) ((n0 : Int) * 262144)) = ((n0 * 262144 + n1 * 4096 + n2 * 64 + n3 : Nat) : Int) := by
  have e0 : ((n0 : Int) * 262144) = ((n0 * 262144 : Nat) : Int) := by omega
  have e1 : ((n1 : Int) * 4096) = ((n1 * 4096 : Nat) : Int) := by omega
  have e2 : ((n2 : Int) * 64) = ((n2 * 64 : Nat) : Int) := by omega
  have ez : (0 : Int) = ((0 : Nat) : Int) := rfl
  rw [e0, e1, e2, ez, u32_or_nat 0 n3 (by omega) (by omega), Nat.zero_or, u32_or_nat n3 (n2 * 64) (by omega) (by omega), Nat.or_comm n3, nat_join 6 (n2 * 64) n3 (by omega) (by omega), u32_or_nat (n1 * 4096) (n0 * 262144) (by omega) (by omega), Nat.or_comm (n1 * 4096), nat_join 18 (n0 * 262144) (n1 * 4096) (by omega) (by omega),
    u32_or_nat (n2 * 64 + n3) (n0 * 262144 + n1 * 4096) (by omega) (by omega), Nat.or_comm, nat_join 12 (n0 * 262144 + n1 * 4096) (n2 * 64 + n3) (by omega) (by omega)]
  rw [← Nat.add_assoc]

theorem bor3 (n0 n1 n2 : Nat) (l0 : n0 < 64) (l1 : n1 < 64) (l2 : n2 < 64) : bits .or .u32 (bits .or .u32 0 ((n2 : Int) * 64)) (bits .or .u32 ((n1 : Int) * 4096) ((n0 : Int) * 262144)) = ((n0 * 262144 + n1 * 4096 + n2 * 64 : Nat) : Int) := by
  have e0 : ((n0 : Int) * 262144) = ((n0 * 262144 : Nat) : Int) := by omega
  have e1 : ((n1 : Int) * 4096) = ((n1 * 4096 : Nat) : Int) := by omega
  have e2 : ((n2 : Int) * 64) = ((n2 * 64 : Nat) : Int) := by omega
  have ez : (0 : Int) = ((0 : Nat) : Int) := rfl
  rw [e0, e1, e2, ez, u32_or_nat 0 (n2 * 64) (by omega) (by omega), Nat.zero_or, u32_or_nat (n1 * 4096) (n0 * 262144) (by omega) (by omega), Nat.or_comm (n1 * 4096), nat_join 18 (n0 * 262144) (n1 * 4096) (by omega) (by omega),
    u32_or_nat (n2 * 64) (n0 * 262144 + n1 * 4096) (by omega) (by omega), Nat.or_comm, nat_join 12 (n0 * 262144 + n1 * 4096) (n2 * 64) (by omega) (by omega)]


theorem bor2 (n0 n1 : Nat) (l0 : n0 < 64) (l1 : n1 < 64) : bits .or .u32 0 (bits .or .u32 ((n1 : Int) * 4096) ((n0 : Int) * 262144)) = ((n0 * 262144 + n1 * 4096 : Nat) : Int) := by
  have e0 : ((n0 : Int) * 262144) = ((n0 * 262144 : Nat) : Int) := by omega
  have e1 : ((n1 : Int) * 4096) = ((n1 * 4096 : Nat) : Int) := by omega
  have ez : (0 : Int) = ((0 : Nat) : Int) := rfl
  rw [e0, e1, ez, u32_or_nat (n1 * 4096) (n0 * 262144) (by omega) (by omega), Nat.or_comm (n1 * 4096), nat_join 18 (n0 * 262144) (n1 * 4096) (by omega) (by omega),
    u32_or_nat (0) (n0 * 262144 + n1 * 4096) (by omega) (by omega), Nat.or_comm, nat_join 12 (n0 * 262144 + n1 * 4096) (0) (by omega) (by omega)]
  rw [Nat.add_zero]

end Go.Proofs.YtpfdaclmchcbiaaDoor.B64