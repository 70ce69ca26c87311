import Derived.Test.YtpfdaclmchcbiaaDoorRows
import Derived.WalkKit
import Derived.WalkSpells
import Derived.WalkLawsBesides
namespace Go.Proofs.YtpfdaclmchcbiaaDoor.B64
open Go.RowKit
set_option maxRecDepth 100000

theorem infoB : (Tryd.prog.info? 5).map (fun i => (i.zero, i.size, i.bytes)) = some (some (.int .u8 0), 1, 1) := by kernel_rfl

/-- A byte as the model's value. -/
def B (c : UInt8) : Value := .int .u8 c.toNat

/-- The sign at a place of a row. -/
def at6 (row : ByteArray) (q : Nat) : UInt8 := row.data.toList.getD q 0

/-- The j-th digit (of four, in the base 64) of 24 bits. -/
def dg (N j : Nat) : Nat := N / 64 ^ (3 - j) % 64

/-- The first n signs of 24 bits. -/
def sg (row : ByteArray) (N n : Nat) : List UInt8 := (List.range n).map fun j => at6 row (dg N j)

theorem dg_lt (N j : Nat) : dg N j < 64 := Nat.mod_lt _ (by decide)

theorem sg_succ (row : ByteArray) (N n : Nat) : sg row N (n + 1) = sg row N n ++ [at6 row (dg N n)] := by
  simp [sg, List.range_succ]

theorem sg_length (row : ByteArray) (N n : Nat) : (sg row N n).length = n := by simp [sg]

theorem at6_get (row : ByteArray) (q : Nat) (h : q < row.size) : row[q] = at6 row q := by
  have h' : q < row.data.toList.length := by simpa using h
  unfold at6
  rw [List.getD_eq_getElem?_getD, List.getElem?_eq_getElem h', Option.getD_some, Array.getElem_toList]
  rfl

theorem or3 (x y z : Nat) (hx : x < 256) (hy : y < 256) (hz : z < 256) : bits .or .u32 (bits .or .u32 (bits .or .u32 0 (z : Int)) ((y : Int) * 256)) ((x : Int) * 65536) = ((x * 65536 + y * 256 + z : Nat) : Int) := by
  have e2 : ((y : Int) * 256) = ((y * 256 : Nat) : Int) := by omega
  have e3 : ((x : Int) * 65536) = ((x * 65536 : Nat) : Int) := by omega
  have e0 : (0 : Int) = ((0 : Nat) : Int) := rfl
  rw [e2, e3, e0, u32_or_nat 0 z (by omega) (by omega), Nat.zero_or, u32_or_nat z (y * 256) (by omega) (by omega), Nat.or_comm z, nat_join 8 (y * 256) z (by omega) (by omega),
    u32_or_nat (y * 256 + z) (x * 65536) (by omega) (by omega), Nat.or_comm, nat_join 16 (x * 65536) (y * 256 + z) (by omega) (by omega), Nat.add_assoc]

theorem or2 (x y : Nat) (hx : x < 256) (hy : y < 256) : bits .or .u32 (bits .or .u32 0 ((y : Int) * 256)) ((x : Int) * 65536) = ((x * 65536 + y * 256 : Nat) : Int) := by
  have e2 : ((y : Int) * 256) = ((y * 256 : Nat) : Int) := by omega
  have e3 : ((x : Int) * 65536) = ((x * 65536 : Nat) : Int) := by omega
  have e0 : (0 : Int) = ((0 : Nat) : Int) := rfl
  rw [e2, e3, e0, u32_or_nat 0 (y * 256) (by omega) (by omega), Nat.zero_or, u32_or_nat (y * 256) (x * 65536) (by omega) (by omega), Nat.or_comm, nat_join 16 (x * 65536) (y * 256) (by omega) (by omega)]

theorem or1 (x : Nat) (hx : x < 256) : bits .or .u32 0 ((x : Int) * 65536) = ((x * 65536 : Nat) : Int) := by
  have e3 : ((x : Int) * 65536) = ((x * 65536 : Nat) : Int) := by omega
  have e0 : (0 : Int) = ((0 : Nat) : Int) := rfl
  rw [e3, e0, u32_or_nat 0 (x * 65536) (by omega) (by omega), Nat.zero_or]

theorem and63 (M : Nat) (h : M < 4294967296) : bits .and .u32 (M : Int) 63 = ((M % 64 : Nat) : Int) := by
  have e : (63 : Int) = ((63 : Nat) : Int) := rfl
  rw [e, u32_and_nat M 63 h (by omega), nat_mask6]

theorem andj (N : Nat) (h : N < 16777216) : bits .and .u32 ((N : Int) / 262144) 63 = (dg N 0 : Int) ∧ bits .and .u32 ((N : Int) / 4096) 63 = (dg N 1 : Int) ∧ bits .and .u32 ((N : Int) / 64) 63 = (dg N 2 : Int) ∧ bits .and .u32 (N : Int) 63 = (dg N 3 : Int) := by
  have e0 : ((N : Int) / 262144) = ((N / 262144 : Nat) : Int) := by omega
  have e1 : ((N : Int) / 4096) = ((N / 4096 : Nat) : Int) := by omega
  have e2 : ((N : Int) / 64) = ((N / 64 : Nat) : Int) := by omega
  rw [e0, e1, e2, and63 _ (by omega), and63 _ (by omega), and63 _ (by omega), and63 _ (by omega)]
  simp [dg]

theorem oneB (l : List UInt8) : ∀ u ∈ l.map B, u.oneCell' = true := by
  intro u hu
  obtain ⟨_, _, rfl⟩ := List.mem_map.1 hu
  rfl

end Go.Proofs.YtpfdaclmchcbiaaDoor.B64