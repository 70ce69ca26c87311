import Derived.Test.YtpfdaclmchcbiaaDoorB6Dec
namespace Go.Proofs.YtpfdaclmchcbiaaDoor.B64
open Go.RowKit
set_option maxRecDepth 100000

theorem indexByte_at (c : UInt8) : ∀ l : List UInt8, 0 ≤ Lib.indexByte l c → l.getD (Lib.indexByte l c).toNat 0 = c
  | [], h => by simp [Lib.indexByte] at h
  | b :: l, h => by
    unfold Lib.indexByte at h ⊢
    by_cases hb : (b == c) = true
    · simp only [hb, if_true]
      simpa using hb
    · have hb' : (b == c) = false := by simpa using hb
      by_cases h1 : (Lib.indexByte l c == -1) = true
      · simp [hb', h1] at h
      · have h1' : (Lib.indexByte l c == -1) = false := by simpa using h1
        have hge := Lib.indexByte_ge l c
        have hne : Lib.indexByte l c ≠ -1 := by simpa using h1'
        simp only [hb', h1', Bool.false_eq_true, if_false] at h ⊢
        have e : (Lib.indexByte l c + 1).toNat = (Lib.indexByte l c).toNat + 1 := by omega
        rw [e, List.getD_cons_succ]
        exact indexByte_at c l (by omega)

theorem at6_nx (row : ByteArray) (c : UInt8) (h : 0 ≤ ix row c) : at6 row (nx row c) = c := indexByte_at c _ h

theorem nx_lt (row : ByteArray) (c : UInt8) (hrow : row.size = 64) : nx row c < 64 := by
  have := ix_bd row c hrow
  unfold nx; omega

theorem sg2 (row : ByteArray) (N : Nat) : sg row N 2 = [at6 row (N / 262144 % 64), at6 row (N / 4096 % 64)] := by
  simp [sg, List.range_succ, dg]
theorem sg3 (row : ByteArray) (N : Nat) : sg row N 3 = [at6 row (N / 262144 % 64), at6 row (N / 4096 % 64), at6 row (N / 64 % 64)] := by
  simp [sg, List.range_succ, dg]
theorem sg4 (row : ByteArray) (N : Nat) : sg row N 4 = [at6 row (N / 262144 % 64), at6 row (N / 4096 % 64), at6 row (N / 64 % 64), at6 row (N % 64)] := by
  simp [sg, List.range_succ, dg]

theorem bs1 (N : Nat) : bs N 1 = [UInt8.ofNat (N % 16777216 / 65536)] := by simp [bs, List.range_succ, bt]
theorem bs2 (N : Nat) : bs N 2 = [UInt8.ofNat (N % 16777216 / 65536), UInt8.ofNat (N * 256 % 16777216 / 65536)] := by simp [bs, List.range_succ, bt]
theorem bs3 (N : Nat) : bs N 3 = [UInt8.ofNat (N % 16777216 / 65536), UInt8.ofNat (N * 256 % 16777216 / 65536), UInt8.ofNat (N * 65536 % 16777216 / 65536)] := by simp [bs, List.range_succ, bt]

theorem bv (M : Nat) : (UInt8.ofNat (M % 16777216 / 65536)).toNat = M % 16777216 / 65536 := by
  rw [UInt8.toNat_ofNat']; omega

/-- What is decoded is the spelling of what it says. -/
theorem enc_dec (row : ByteArray) (hrow : row.size = 64) : ∀ (n : Nat) (s b : List UInt8), s.length ≤ n → (∀ c ∈ s, 0 ≤ ix row c) → s.length % 4 ≠ 1 → dec row s = some b → enc row b = s
  | n, a :: b :: c :: d :: r, o, hn, hall, hm, h => by
    match n, hn with
    | n + 1, hn =>
    rw [dec] at h
    obtain ⟨o', ho', rfl⟩ := Option.map_eq_some_iff.1 h
    have ih := enc_dec row hrow n r o' (by simp at hn; omega) (fun c hc => hall c (by simp [hc])) (by simp at hm; omega) ho'
    have la := nx_lt row a hrow; have lb := nx_lt row b hrow; have lc := nx_lt row c hrow; have ld := nx_lt row d hrow
    have ea := at6_nx row a (hall a (by simp)); have eb := at6_nx row b (hall b (by simp)); have ec := at6_nx row c (hall c (by simp)); have ed := at6_nx row d (hall d (by simp))
    have hN : grpN row [a, b, c, d] = nx row a * 262144 + nx row b * 4096 + nx row c * 64 + nx row d := rfl
    generalize grpN row [a, b, c, d] = N at hN
    rw [bs3]
    show enc row (_ :: _ :: _ :: o') = _
    rw [enc_cons3, bv, bv, bv, ih, sg4]
    have e0 : N % 16777216 / 65536 * 65536 + N * 256 % 16777216 / 65536 * 256 + N * 65536 % 16777216 / 65536 = N := by omega
    rw [e0, show N / 262144 % 64 = nx row a by omega, show N / 4096 % 64 = nx row b by omega, show N / 64 % 64 = nx row c by omega, show N % 64 = nx row d by omega, ea, eb, ec, ed]
    rfl
  | n, [a, b, c], o, hn, hall, hm, h => by
    have la := nx_lt row a hrow; have lb := nx_lt row b hrow; have lc := nx_lt row c hrow
    have ea := at6_nx row a (hall a (by simp)); have eb := at6_nx row b (hall b (by simp)); have ec := at6_nx row c (hall c (by simp))
    have hN : grpN row [a, b, c] = nx row a * 262144 + nx row b * 4096 + nx row c * 64 := rfl
    rw [dec] at h
    generalize grpN row [a, b, c] = N at hN h
    by_cases hz : bt N 2 = 0
    · rw [if_pos hz] at h
      obtain rfl := Option.some.inj h
      have hz' : N * 65536 % 16777216 = 0 := hz
      rw [bs2, enc, bv, bv, sg3]
      have e0 : N % 16777216 / 65536 * 65536 + N * 256 % 16777216 / 65536 * 256 = N := by omega
      rw [e0, show N / 262144 % 64 = nx row a by omega, show N / 4096 % 64 = nx row b by omega, show N / 64 % 64 = nx row c by omega, ea, eb, ec]
    · rw [if_neg hz] at h; cases h
  | n, [a, b], o, hn, hall, hm, h => by
    have la := nx_lt row a hrow; have lb := nx_lt row b hrow
    have ea := at6_nx row a (hall a (by simp)); have eb := at6_nx row b (hall b (by simp))
    have hN : grpN row [a, b] = nx row a * 262144 + nx row b * 4096 := rfl
    rw [dec] at h
    generalize grpN row [a, b] = N at hN h
    by_cases hz : bt N 1 = 0
    · rw [if_pos hz] at h
      obtain rfl := Option.some.inj h
      have hz' : N * 256 % 16777216 = 0 := hz
      rw [bs1, enc, bv, sg2]
      have e0 : N % 16777216 / 65536 * 65536 = N := by omega
      rw [e0, show N / 262144 % 64 = nx row a by omega, show N / 4096 % 64 = nx row b by omega, ea, eb]
    · rw [if_neg hz] at h; cases h
  | n, [a], o, hn, hall, hm, h => by simp at hm
  | n, [], o, hn, hall, hm, h => by
    simp [dec] at h
    subst h
    rfl

/-- A row in which no sign stands twice. -/
def Apart (row : ByteArray) : Prop := ∀ q, q < 64 → nx row (at6 row q) = q

theorem apartU : Apart urlRow := by unfold Apart; decide +kernel
theorem apartS : Apart stdRow := by unfold Apart; decide +kernel

theorem byteN (x : UInt8) (n : Nat) (h : n = x.toNat) : UInt8.ofNat n = x := by subst h; simp

/-- What is spelled is read again. -/
theorem dec_enc (row : ByteArray) (hap : Apart row) : ∀ l : List UInt8, dec row (enc row l) = some l
  | [] => rfl
  | [x] => by
    have hx := x.toNat_lt
    rw [enc, sg2]
    have hN : grpN row [at6 row (x.toNat * 65536 / 262144 % 64), at6 row (x.toNat * 65536 / 4096 % 64)] = x.toNat * 65536 := by
      show nx row _ * 262144 + nx row _ * 4096 = _
      rw [hap _ (by omega), hap _ (by omega)]; omega
    rw [dec, hN, if_pos (by show _ % _ = 0; omega), bs1, byteN x _ (by omega)]
  | [x, y] => by
    have hx := x.toNat_lt; have hy := y.toNat_lt
    rw [enc, sg3]
    have hN : grpN row [at6 row ((x.toNat * 65536 + y.toNat * 256) / 262144 % 64), at6 row ((x.toNat * 65536 + y.toNat * 256) / 4096 % 64), at6 row ((x.toNat * 65536 + y.toNat * 256) / 64 % 64)] = x.toNat * 65536 + y.toNat * 256 := by
      show nx row _ * 262144 + nx row _ * 4096 + nx row _ * 64 = _
      rw [hap _ (by omega), hap _ (by omega), hap _ (by omega)]; omega
    rw [dec, hN, if_pos (by show _ % _ = 0; omega), bs2, byteN x _ (by omega), byteN y _ (by omega)]
  | x :: y :: z :: r => by
    have hx := x.toNat_lt; have hy := y.toNat_lt; have hz := z.toNat_lt
    rw [enc_cons3, sg4]
    have hN : grpN row [at6 row ((x.toNat * 65536 + y.toNat * 256 + z.toNat) / 262144 % 64), at6 row ((x.toNat * 65536 + y.toNat * 256 + z.toNat) / 4096 % 64), at6 row ((x.toNat * 65536 + y.toNat * 256 + z.toNat) / 64 % 64), at6 row ((x.toNat * 65536 + y.toNat * 256 + z.toNat) % 64)] = x.toNat * 65536 + y.toNat * 256 + z.toNat := by
      show nx row _ * 262144 + nx row _ * 4096 + nx row _ * 64 + nx row _ = _
      rw [hap _ (by omega), hap _ (by omega), hap _ (by omega), hap _ (by omega)]; omega
    show dec row (_ :: _ :: _ :: _ :: enc row r) = _
    rw [dec, hN, dec_enc row hap r, bs3, byteN x _ (by omega), byteN y _ (by omega), byteN z _ (by omega)]
    rfl

end Go.Proofs.YtpfdaclmchcbiaaDoor.B64