import Derived.Test.YtpfdaclmchcbiaaGreatDoorB6Z
import Derived.Deep.QuietTactic
import Derived.BigQuiet
import Derived.Lib.Bytealg
import Derived.Deep.RegionWith
namespace Go.Proofs.YtpfdaclmchcbiaaGreatDoor.B64
open Go.RowKit
set_option maxRecDepth 100000

/-- A sign's place in a row; -1: it is none. -/
def ix (row : ByteArray) (c : UInt8) : Int := Lib.indexByte row.data.toList c

theorem indexByte_lt (c : UInt8) : ∀ l : List UInt8, Lib.indexByte l c < l.length ∨ l = []
  | [] => .inr rfl
  | b :: l => .inl (by
    unfold Lib.indexByte
    have := indexByte_lt c l
    split
    · simp
    · split
      · simp; omega
      · rcases this with h | h
        · simp; omega
        · subst h; simp [Lib.indexByte] at *)

theorem ix_bd (row : ByteArray) (c : UInt8) (hrow : row.size = 64) : -1 ≤ ix row c ∧ ix row c < 64 := by
  refine ⟨Lib.indexByte_ge _ _, ?_⟩
  have hl : row.data.toList.length = 64 := by simpa using hrow
  rcases indexByte_lt c row.data.toList with h | h
  · unfold ix; omega
  · rw [h] at hl; simp at hl

set_option maxHeartbeats 400000 in
theorem lite_any (row : ByteArray) (c : UInt8) (w : World) :
    Calls Tryz.prog 89 #[.string row, .int .u8 c.toNat] w fun e w' => e = .returned (.int .i64 (ix row c)) ∧ w' = w := by
  go_enter Tryz.func89, Tryz.ntmps89
  go_wp2
  rw [run_callFunc_extern Tryz.func110 (by kernel_rfl) (by kernel_rfl) (by kernel_rfl) (e := Extern.BytealgIndexByte.indexByte) (by kernel_rfl), Lib.run_indexByteString]
  simp only [Result.andThen]
  rw [Oper.upon_value]
  go_wp2
  go_ret
  exact ⟨by simp [ix], rfl⟩

set_option maxHeartbeats 400000 in
theorem idx_any (row : ByteArray) (c : UInt8) (w : World) :
    Calls Tryz.prog 60 #[.string row, .int .u8 c.toNat] w fun e w' => e = .returned (.int .i64 (ix row c)) ∧ w' = w := by
  go_enter Tryz.func60, Tryz.ntmps60
  go_wp2_with fail
  refine (lite_any row c w).mono ?_
  rintro e w' ⟨rfl, rfl⟩
  go_wp2
  go_ret
  exact ⟨rfl, rfl⟩

set_option maxHeartbeats 400000 in
theorem number_any (row : ByteArray) (c : UInt8) (n : Nat) (hn : ix row c = n) (h64 : n < 64) (w : World) :
    Calls Tryz.prog 90 #[.int .u8 c.toNat, .string row] w fun e w' => e = .returned (.int .u32 n) ∧ w' = w := by
  have H : Hid (ix row c = n) := hn
  clear hn
  go_enter Tryz.func90, Tryz.ntmps90
  go_wp2_with fail
  refine (idx_any row c w).mono ?_
  rintro e w' ⟨rfl, rfl⟩
  rw [H.out]
  go_wp2
  go_ret
  exact ⟨rfl, rfl⟩

/-- number's contract at one sign, kept from the walk's rules. -/
def NumSaid (row : ByteArray) (c : UInt8) (n : Nat) : Prop :=
  ∀ w : World, Calls Tryz.prog 90 #[.int .u8 c.toNat, .string row] w fun e w' => e = .returned (.int .u32 n) ∧ w' = w

theorem numSaid (row : ByteArray) (c : UInt8) (n : Nat) (hn : ix row c = n) (h64 : n < 64) : NumSaid row c n := fun w => number_any row c n hn h64 w

theorem bor4 (n0 n1 n2 n3 : Nat) (l0 : n0 < 64) (l1 : n1 < 64) (l2 : n2 < 64) (l3 : n3 < 64) : bits .or .u32 (bits .or .u32 (bits .or .u32 0 (n3 : Int)) ((n2 : Int) * 64)) (bits .or .u32 ((n1 : Int) * 4096) ((n0 : Int) * 262144)) = ((n0 * 262144 + n1 * 4096 + n2 * 64 + n3 : Nat) : Int) := by
  have e0 : ((n0 : Int) * 262144) = ((n0 * 262144 : Nat) : Int) := by omega
  have e1 : ((n1 : Int) * 4096) = ((n1 * 4096 : Nat) : Int) := by omega
  have e2 : ((n2 : Int) * 64) = ((n2 * 64 : Nat) : Int) := by omega
  have ez : (0 : Int) = ((0 : Nat) : Int) := rfl
  rw [e0, e1, e2, ez, u32_or_nat 0 n3 (by omega) (by omega), Nat.zero_or, u32_or_nat n3 (n2 * 64) (by omega) (by omega), Nat.or_comm n3, nat_join 6 (n2 * 64) n3 (by omega) (by omega), u32_or_nat (n1 * 4096) (n0 * 262144) (by omega) (by omega), Nat.or_comm (n1 * 4096), nat_join 18 (n0 * 262144) (n1 * 4096) (by omega) (by omega),
    u32_or_nat (n2 * 64 + n3) (n0 * 262144 + n1 * 4096) (by omega) (by omega), Nat.or_comm, nat_join 12 (n0 * 262144 + n1 * 4096) (n2 * 64 + n3) (by omega) (by omega)]
  rw [← Nat.add_assoc]

theorem bor3 (n0 n1 n2 : Nat) (l0 : n0 < 64) (l1 : n1 < 64) (l2 : n2 < 64) : bits .or .u32 (bits .or .u32 0 ((n2 : Int) * 64)) (bits .or .u32 ((n1 : Int) * 4096) ((n0 : Int) * 262144)) = ((n0 * 262144 + n1 * 4096 + n2 * 64 : Nat) : Int) := by
  have e0 : ((n0 : Int) * 262144) = ((n0 * 262144 : Nat) : Int) := by omega
  have e1 : ((n1 : Int) * 4096) = ((n1 * 4096 : Nat) : Int) := by omega
  have e2 : ((n2 : Int) * 64) = ((n2 * 64 : Nat) : Int) := by omega
  have ez : (0 : Int) = ((0 : Nat) : Int) := rfl
  rw [e0, e1, e2, ez, u32_or_nat 0 (n2 * 64) (by omega) (by omega), Nat.zero_or, u32_or_nat (n1 * 4096) (n0 * 262144) (by omega) (by omega), Nat.or_comm (n1 * 4096), nat_join 18 (n0 * 262144) (n1 * 4096) (by omega) (by omega),
    u32_or_nat (n2 * 64) (n0 * 262144 + n1 * 4096) (by omega) (by omega), Nat.or_comm, nat_join 12 (n0 * 262144 + n1 * 4096) (n2 * 64) (by omega) (by omega)]


theorem bor2 (n0 n1 : Nat) (l0 : n0 < 64) (l1 : n1 < 64) : bits .or .u32 0 (bits .or .u32 ((n1 : Int) * 4096) ((n0 : Int) * 262144)) = ((n0 * 262144 + n1 * 4096 : Nat) : Int) := by
  have e0 : ((n0 : Int) * 262144) = ((n0 * 262144 : Nat) : Int) := by omega
  have e1 : ((n1 : Int) * 4096) = ((n1 * 4096 : Nat) : Int) := by omega
  have ez : (0 : Int) = ((0 : Nat) : Int) := rfl
  rw [e0, e1, ez, u32_or_nat (n1 * 4096) (n0 * 262144) (by omega) (by omega), Nat.or_comm (n1 * 4096), nat_join 18 (n0 * 262144) (n1 * 4096) (by omega) (by omega),
    u32_or_nat (0) (n0 * 262144 + n1 * 4096) (by omega) (by omega), Nat.or_comm, nat_join 12 (n0 * 262144 + n1 * 4096) (0) (by omega) (by omega)]
  rw [Nat.add_zero]

set_option maxHeartbeats 1000000 in
theorem bits4 (row : ByteArray) (a b c d : UInt8) (n0 n1 n2 n3 : Nat) (C0 : NumSaid row a n0) (C1 : NumSaid row b n1) (C2 : NumSaid row c n2) (C3 : NumSaid row d n3) (l0 : n0 < 64) (l1 : n1 < 64) (l2 : n2 < 64) (l3 : n3 < 64) (w : World) :
    Calls Tryz.prog 61 #[.string ⟨#[a, b, c, d]⟩, .string row] w fun e w' => e = .returned (.int .u32 ((n0 * 262144 + n1 * 4096 + n2 * 64 + n3 : Nat) : Int)) ∧ ∃ q, w' = w.drewN q := by
  go_enter Tryz.func61, Tryz.ntmps61
  go_wp2_with fail
  refine (C3 _).mono ?_
  rintro e w' ⟨rfl, rfl⟩
  go_wp2_with fail
  refine (C2 _).mono ?_
  rintro e w' ⟨rfl, rfl⟩
  go_wp2_with fail
  go_quiet (first | exact Calls.quiet_of_same (C1 _) | exact Calls.quiet_of_same (C0 _))
  go_wp2
  go_ret
  rw [bor4 n0 n1 n2 n3 l0 l1 l2 l3]
  exact ⟨rfl, _, rfl⟩

set_option maxHeartbeats 1000000 in
theorem bits3 (row : ByteArray) (a b c : UInt8) (n0 n1 n2 : Nat) (C0 : NumSaid row a n0) (C1 : NumSaid row b n1) (C2 : NumSaid row c n2) (l0 : n0 < 64) (l1 : n1 < 64) (l2 : n2 < 64) (w : World) :
    Calls Tryz.prog 61 #[.string ⟨#[a, b, c]⟩, .string row] w fun e w' => e = .returned (.int .u32 ((n0 * 262144 + n1 * 4096 + n2 * 64 : Nat) : Int)) ∧ ∃ q, w' = w.drewN q := by
  go_enter Tryz.func61, Tryz.ntmps61
  go_wp2_with fail
  refine (C2 _).mono ?_
  rintro e w' ⟨rfl, rfl⟩
  go_wp2_with fail
  go_quiet (first | exact Calls.quiet_of_same (C1 _) | exact Calls.quiet_of_same (C0 _))
  go_wp2
  go_ret
  rw [bor3 n0 n1 n2 l0 l1 l2]
  exact ⟨rfl, _, rfl⟩

set_option maxHeartbeats 1000000 in
theorem bits2 (row : ByteArray) (a b : UInt8) (n0 n1 : Nat) (C0 : NumSaid row a n0) (C1 : NumSaid row b n1) (l0 : n0 < 64) (l1 : n1 < 64) (w : World) :
    Calls Tryz.prog 61 #[.string ⟨#[a, b]⟩, .string row] w fun e w' => e = .returned (.int .u32 ((n0 * 262144 + n1 * 4096 : Nat) : Int)) ∧ ∃ q, w' = w.drewN q := by
  go_enter Tryz.func61, Tryz.ntmps61
  go_wp2_with fail
  go_quiet (first | exact Calls.quiet_of_same (C1 _) | exact Calls.quiet_of_same (C0 _))
  go_wp2
  go_ret
  rw [bor2 n0 n1 l0 l1]
  exact ⟨rfl, _, rfl⟩

end Go.Proofs.YtpfdaclmchcbiaaGreatDoor.B64