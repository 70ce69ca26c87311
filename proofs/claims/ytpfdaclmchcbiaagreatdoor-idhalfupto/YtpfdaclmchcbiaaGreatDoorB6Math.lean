import Derived.Test.YtpfdaclmchcbiaaGreatDoorB6Dec
namespace Go.Proofs.YtpfdaclmchcbiaaGreatDoor.B64
open Go.RowKit
set_option maxRecDepth 100000

theorem sg2 (row : ByteArray) (N : Nat) : sg row N 2 = [at6 row (N / 262144 % 64), at6 row (N / 4096 % 64)] := by
  simp [sg, List.range_succ, dg]
theorem sg3 (row : ByteArray) (N : Nat) : sg row N 3 = [at6 row (N / 262144 % 64), at6 row (N / 4096 % 64), at6 row (N / 64 % 64)] := by
  simp [sg, List.range_succ, dg]
theorem sg4 (row : ByteArray) (N : Nat) : sg row N 4 = [at6 row (N / 262144 % 64), at6 row (N / 4096 % 64), at6 row (N / 64 % 64), at6 row (N % 64)] := by
  simp [sg, List.range_succ, dg]

theorem bs1 (N : Nat) : bs N 1 = [UInt8.ofNat (N % 16777216 / 65536)] := by simp [bs, List.range_succ, bt]
theorem bs2 (N : Nat) : bs N 2 = [UInt8.ofNat (N % 16777216 / 65536), UInt8.ofNat (N * 256 % 16777216 / 65536)] := by simp [bs, List.range_succ, bt]
theorem bs3 (N : Nat) : bs N 3 = [UInt8.ofNat (N % 16777216 / 65536), UInt8.ofNat (N * 256 % 16777216 / 65536), UInt8.ofNat (N * 65536 % 16777216 / 65536)] := by simp [bs, List.range_succ, bt]

theorem bv (M : Nat) : (UInt8.ofNat (M % 16777216 / 65536)).toNat = M % 16777216 / 65536 := by
  rw [UInt8.toNat_ofNat']; omega

/-- A row in which no sign stands twice. -/
def Apart (row : ByteArray) : Prop := ∀ q, q < 64 → nx row (at6 row q) = q

theorem apartU : Apart urlRow := by unfold Apart; decide +kernel
theorem byteN (x : UInt8) (n : Nat) (h : n = x.toNat) : UInt8.ofNat n = x := by subst h; simp

/-- What is spelled is read again. -/
theorem dec_enc (row : ByteArray) (hap : Apart row) : ∀ l : List UInt8, dec row (enc row l) = some l
  | [] => rfl
  | [x] => by
    have hx := x.toNat_lt
    rw [enc, sg2]
    have hN : grpN row [at6 row (x.toNat * 65536 / 262144 % 64), at6 row (x.toNat * 65536 / 4096 % 64)] = x.toNat * 65536 := by
      show nx row _ * 262144 + nx row _ * 4096 = _
      rw [hap _ (by omega), hap _ (by omega)]; omega
    rw [dec, hN, if_pos (by show _ % _ = 0; omega), bs1, byteN x _ (by omega)]
  | [x, y] => by
    have hx := x.toNat_lt; have hy := y.toNat_lt
    rw [enc, sg3]
    have hN : grpN row [at6 row ((x.toNat * 65536 + y.toNat * 256) / 262144 % 64), at6 row ((x.toNat * 65536 + y.toNat * 256) / 4096 % 64), at6 row ((x.toNat * 65536 + y.toNat * 256) / 64 % 64)] = x.toNat * 65536 + y.toNat * 256 := by
      show nx row _ * 262144 + nx row _ * 4096 + nx row _ * 64 = _
      rw [hap _ (by omega), hap _ (by omega), hap _ (by omega)]; omega
    rw [dec, hN, if_pos (by show _ % _ = 0; omega), bs2, byteN x _ (by omega), byteN y _ (by omega)]
  | x :: y :: z :: r => by
    have hx := x.toNat_lt; have hy := y.toNat_lt; have hz := z.toNat_lt
    rw [enc_cons3, sg4]
    have hN : grpN row [at6 row ((x.toNat * 65536 + y.toNat * 256 + z.toNat) / 262144 % 64), at6 row ((x.toNat * 65536 + y.toNat * 256 + z.toNat) / 4096 % 64), at6 row ((x.toNat * 65536 + y.toNat * 256 + z.toNat) / 64 % 64), at6 row ((x.toNat * 65536 + y.toNat * 256 + z.toNat) % 64)] = x.toNat * 65536 + y.toNat * 256 + z.toNat := by
      show nx row _ * 262144 + nx row _ * 4096 + nx row _ * 64 + nx row _ = _
      rw [hap _ (by omega), hap _ (by omega), hap _ (by omega), hap _ (by omega)]; omega
    show dec row (_ :: _ :: _ :: _ :: enc row r) = _
    rw [dec, hN, dec_enc row hap r, bs3, byteN x _ (by omega), byteN y _ (by omega), byteN z _ (by omega)]
    rfl

end Go.Proofs.YtpfdaclmchcbiaaGreatDoor.B64