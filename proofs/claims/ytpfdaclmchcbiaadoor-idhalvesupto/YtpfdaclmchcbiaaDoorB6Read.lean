import Derived.Test.YtpfdaclmchcbiaaDoorB6Unf
namespace Go.Proofs.YtpfdaclmchcbiaaDoor.B64
open Go.RowKit
set_option maxRecDepth 100000

/-- A sign's number. -/
def nx (row : ByteArray) (c : UInt8) : Nat := (ix row c).toNat

/-- The 24 bits after j bytes were taken from the front. -/
def bt (N j : Nat) : Nat := N * 256 ^ j % 16777216

theorem bt_lt (N j : Nat) : bt N j < 16777216 := Nat.mod_lt _ (by decide)
theorem bt_succ (N j : Nat) : bt N j * 256 % 16777216 = bt N (j + 1) := by
  unfold bt
  rw [Nat.pow_succ, ← Nat.mul_assoc, Nat.mod_mul_mod]

/-- The first j bytes of 24 bits. -/
def bs (N j : Nat) : List UInt8 := (List.range j).map fun i => UInt8.ofNat (bt N i / 65536)
theorem bs_succ (N j : Nat) : bs N (j + 1) = bs N j ++ [UInt8.ofNat (bt N j / 65536)] := by simp [bs, List.range_succ]
theorem bs_length (N j : Nat) : (bs N j).length = j := by simp [bs]

theorem byte_of (T : Nat) (h : T < 16777216) : (UInt8.ofNat (T / 65536)).toNat = T / 65536 := by
  rw [UInt8.toNat_ofNat']; omega

/-- The 24 bits of a group of signs. -/
def grpN (row : ByteArray) (l : List UInt8) : Nat := match l with
  | [a, b] => nx row a * 262144 + nx row b * 4096
  | [a, b, c] => nx row a * 262144 + nx row b * 4096 + nx row c * 64
  | [a, b, c, d] => nx row a * 262144 + nx row b * 4096 + nx row c * 64 + nx row d
  | _ => 0

/-- The bytes of signs; none: bits are left. -/
def dec (row : ByteArray) : List UInt8 → Option (List UInt8)
  | a :: b :: c :: d :: r => (dec row r).map (bs (grpN row [a, b, c, d]) 3 ++ ·)
  | [a, b, c] => if bt (grpN row [a, b, c]) 2 = 0 then some (bs (grpN row [a, b, c]) 2) else none
  | [a, b] => if bt (grpN row [a, b]) 1 = 0 then some (bs (grpN row [a, b]) 1) else none
  | _ => some []

theorem and24 (T : Nat) (h : T < 16777216) : bits .and .u32 ((T : Int) * 256) 16777215 = ((T * 256 % 16777216 : Nat) : Int) := by
  have e : ((T : Int) * 256) = ((T * 256 : Nat) : Int) := by omega
  have e2 : (16777215 : Int) = ((16777215 : Nat) : Int) := rfl
  rw [e, e2, u32_and_nat _ _ (by omega) (by omega)]
  congr 1
  exact Nat.and_two_pow_sub_one_eq_mod (T * 256) 24

theorem ex4 (l : List UInt8) (k : Nat) (a b c d : UInt8) (r : List UInt8) (h : l.drop k = a :: b :: c :: d :: r) : (⟨l.toArray⟩ : ByteArray).extract k (k + 4) = ⟨#[a, b, c, d]⟩ := by
  rw [Lib.extract_eq]
  show ByteArray.mk ((l.drop k).take (k + 4 - k)).toArray = _
  rw [h, Nat.add_sub_cancel_left]
  rfl
theorem exEnd (l : List UInt8) (k : Nat) (r : List UInt8) (h : l.drop k = r) : (⟨l.toArray⟩ : ByteArray).extract k l.length = ⟨r.toArray⟩ := by
  rw [Lib.extract_eq]
  show ByteArray.mk ((l.drop k).take (l.length - k)).toArray = _
  rw [List.take_of_length_le (by simp), h]

theorem four {l : List UInt8} (h : 4 ≤ l.length) : ∃ a b c d r, l = a :: b :: c :: d :: r := by
  match l, h with
  | a :: b :: c :: d :: r, _ => exact ⟨a, b, c, d, r, rfl⟩
theorem three' {l : List UInt8} (h : l.length = 3) : ∃ a b c, l = [a, b, c] := by
  match l, h with
  | [a, b, c], _ => exact ⟨a, b, c, rfl⟩

end Go.Proofs.YtpfdaclmchcbiaaDoor.B64