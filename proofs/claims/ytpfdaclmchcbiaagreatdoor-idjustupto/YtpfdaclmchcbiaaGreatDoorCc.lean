import Derived.Test.YtpfdaclmchcbiaaGreatDoorCZ
namespace Go.Proofs.YtpfdaclmchcbiaaGreatDoor
open Go.RowKit

theorem land_mask (n : Nat) : n &&& 4294967295 = n % 4294967296 := Nat.and_two_pow_sub_one_eq_mod n 32
theorem bits_low (x : Int) : bits .and .i64 x 4294967295 = x % 4294967296 := by
  show IntKind.i64.wrap (((BitVec.ofInt 64 x) &&& (BitVec.ofInt 64 4294967295)).toNat : Int) = _
  have e2 : (BitVec.ofInt 64 4294967295).toNat = 4294967295 := by decide
  rw [BitVec.toNat_and, e2, land_mask, BitVec.toNat_ofInt]
  have h1 : (((x % (2 ^ 64 : Nat)).toNat % 4294967296 : Nat) : Int) = x % 4294967296 := by
    have : ((2 ^ 64 : Nat) : Int) = 18446744073709551616 := by decide
    rw [this]
    omega
  rw [h1, IntKind.wrap_i64]
  omega

end Go.Proofs.YtpfdaclmchcbiaaGreatDoor
