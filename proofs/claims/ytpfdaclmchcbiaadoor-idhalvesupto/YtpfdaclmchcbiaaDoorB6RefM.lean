import Derived.Test.YtpfdaclmchcbiaaDoorB6Math
namespace Go.Proofs.YtpfdaclmchcbiaaDoor.B64
open Go.RowKit
set_option maxRecDepth 100000

/-- A bit of signs, the highest of the first one first; a bit of bytes. -/
def bitS (row : ByteArray) (s : List UInt8) (t : Nat) : Nat := nx row (s.getD (t / 6) 0) / 2 ^ (5 - t % 6) % 2
def bitB (b : List UInt8) (t : Nat) : Nat := (b.getD (t / 8) 0).toNat / 2 ^ (7 - t % 8) % 2

theorem bitS_shift (row : ByteArray) (a b c d : UInt8) (r : List UInt8) (t : Nat) : bitS row (a :: b :: c :: d :: r) (t + 24) = bitS row r t := by
  unfold bitS
  rw [show (t + 24) / 6 = t / 6 + 4 by omega, show (t + 24) % 6 = t % 6 by omega]
  rfl
theorem bitB_shift (x y z : UInt8) (r : List UInt8) (t : Nat) : bitB (x :: y :: z :: r) (t + 24) = bitB r t := by
  unfold bitB
  rw [show (t + 24) / 8 = t / 8 + 3 by omega, show (t + 24) % 8 = t % 8 by omega]
  rfl

theorem group4 (row : ByteArray) (hrow : row.size = 64) (a b c d : UInt8) (r q : List UInt8) (t : Nat) (ht : t < 24) : bitB (bs (grpN row [a, b, c, d]) 3 ++ q) t = bitS row (a :: b :: c :: d :: r) t := by
  have la := nx_lt row a hrow; have lb := nx_lt row b hrow; have lc := nx_lt row c hrow; have ld := nx_lt row d hrow
  have hN : grpN row [a, b, c, d] = nx row a * 262144 + nx row b * 4096 + nx row c * 64 + nx row d := rfl
  rw [bs3]
  unfold bitB bitS
  generalize grpN row [a, b, c, d] = N at hN
  have e0 := bv N; have e1 := bv (N * 256); have e2 := bv (N * 65536)
  have hc : t = 0 ∨ t = 1 ∨ t = 2 ∨ t = 3 ∨ t = 4 ∨ t = 5 ∨ t = 6 ∨ t = 7 ∨ t = 8 ∨ t = 9 ∨ t = 10 ∨ t = 11 ∨ t = 12 ∨ t = 13 ∨ t = 14 ∨ t = 15 ∨ t = 16 ∨ t = 17 ∨ t = 18 ∨ t = 19 ∨ t = 20 ∨ t = 21 ∨ t = 22 ∨ t = 23 := by omega
  rcases hc with rfl | rfl | rfl | rfl | rfl | rfl | rfl | rfl | rfl | rfl | rfl | rfl | rfl | rfl | rfl | rfl | rfl | rfl | rfl | rfl | rfl | rfl | rfl | rfl
  all_goals
    simp only [List.cons_append, List.nil_append, Nat.reduceDiv, Nat.reduceMod, Nat.reduceSub, Nat.reducePow, List.getD_cons_zero, List.getD_cons_succ, e0, e1, e2]
    omega

theorem group3 (row : ByteArray) (hrow : row.size = 64) (a b c : UInt8) (t : Nat) (ht : t < 16) : bitB (bs (grpN row [a, b, c]) 2) t = bitS row [a, b, c] t := by
  have la := nx_lt row a hrow; have lb := nx_lt row b hrow; have lc := nx_lt row c hrow
  have hN : grpN row [a, b, c] = nx row a * 262144 + nx row b * 4096 + nx row c * 64 := rfl
  rw [bs2]
  unfold bitB bitS
  generalize grpN row [a, b, c] = N at hN
  have e0 := bv N; have e1 := bv (N * 256)
  have hc : t = 0 ∨ t = 1 ∨ t = 2 ∨ t = 3 ∨ t = 4 ∨ t = 5 ∨ t = 6 ∨ t = 7 ∨ t = 8 ∨ t = 9 ∨ t = 10 ∨ t = 11 ∨ t = 12 ∨ t = 13 ∨ t = 14 ∨ t = 15 := by omega
  rcases hc with rfl | rfl | rfl | rfl | rfl | rfl | rfl | rfl | rfl | rfl | rfl | rfl | rfl | rfl | rfl | rfl
  all_goals
    simp only [Nat.reduceDiv, Nat.reduceMod, Nat.reduceSub, Nat.reducePow, List.getD_cons_zero, List.getD_cons_succ, e0, e1]
    omega

theorem group2 (row : ByteArray) (hrow : row.size = 64) (a b : UInt8) (t : Nat) (ht : t < 8) : bitB (bs (grpN row [a, b]) 1) t = bitS row [a, b] t := by
  have la := nx_lt row a hrow; have lb := nx_lt row b hrow
  have hN : grpN row [a, b] = nx row a * 262144 + nx row b * 4096 := rfl
  rw [bs1]
  unfold bitB bitS
  generalize grpN row [a, b] = N at hN
  have e0 := bv N
  have hc : t = 0 ∨ t = 1 ∨ t = 2 ∨ t = 3 ∨ t = 4 ∨ t = 5 ∨ t = 6 ∨ t = 7 := by omega
  rcases hc with rfl | rfl | rfl | rfl | rfl | rfl | rfl | rfl
  all_goals
    simp only [Nat.reduceDiv, Nat.reduceMod, Nat.reduceSub, Nat.reducePow, List.getD_cons_zero, List.getD_cons_succ, e0]
    omega

theorem left3 (row : ByteArray) (hrow : row.size = 64) (a b c : UInt8) : (bt (grpN row [a, b, c]) 2 = 0 ↔ bitS row [a, b, c] 16 = 0 ∧ bitS row [a, b, c] 17 = 0) := by
  have la := nx_lt row a hrow; have lb := nx_lt row b hrow; have lc := nx_lt row c hrow
  have hN : grpN row [a, b, c] = nx row a * 262144 + nx row b * 4096 + nx row c * 64 := rfl
  unfold bitS bt
  generalize grpN row [a, b, c] = N at hN
  simp only [Nat.reduceDiv, Nat.reduceMod, Nat.reduceSub, Nat.reducePow, List.getD_cons_zero, List.getD_cons_succ]
  omega

theorem left2 (row : ByteArray) (hrow : row.size = 64) (a b : UInt8) : (bt (grpN row [a, b]) 1 = 0 ↔ bitS row [a, b] 8 = 0 ∧ bitS row [a, b] 9 = 0 ∧ bitS row [a, b] 10 = 0 ∧ bitS row [a, b] 11 = 0) := by
  have la := nx_lt row a hrow; have lb := nx_lt row b hrow
  have hN : grpN row [a, b] = nx row a * 262144 + nx row b * 4096 := rfl
  unfold bitS bt
  generalize grpN row [a, b] = N at hN
  simp only [Nat.reduceDiv, Nat.reduceMod, Nat.reduceSub, Nat.reducePow, List.getD_cons_zero, List.getD_cons_succ]
  omega

theorem bitS_01 (row : ByteArray) (s : List UInt8) (t : Nat) : bitS row s t = 0 ∨ bitS row s t = 1 := by unfold bitS; omega

/-- What dec answers, told bit by bit. -/
def BitsOf (row : ByteArray) (s : List UInt8) (o : Option (List UInt8)) : Prop :=
  match o with
  | some b => b.length = s.length * 6 / 8 ∧ (∀ t, t < 8 * b.length → bitB b t = bitS row s t) ∧ ∀ t, 8 * b.length ≤ t → t < 6 * s.length → bitS row s t = 0
  | none => ∃ t, 8 * (s.length * 6 / 8) ≤ t ∧ t < 6 * s.length ∧ bitS row s t = 1

theorem dec_bits (row : ByteArray) (hrow : row.size = 64) : ∀ (n : Nat) (s : List UInt8), s.length ≤ n → s.length % 4 ≠ 1 → BitsOf row s (dec row s)
  | 0, a :: r, hn, _ => by simp at hn
  | n + 1, a :: b :: c :: d :: r, hn, hm => by
    simp only [List.length_cons] at hn hm
    have ih := dec_bits row hrow n r (by omega) (by omega)
    rw [dec]
    cases hd : dec row r with
    | none =>
      rw [hd] at ih
      obtain ⟨t, h1, h2, h3⟩ := ih
      refine ⟨t + 24, ?_, ?_, ?_⟩
      · simp only [List.length_cons]; omega
      · simp only [List.length_cons]; omega
      · rw [bitS_shift]; exact h3
    | some q =>
      rw [hd] at ih
      obtain ⟨h1, h2, h3⟩ := ih
      have hl : (bs (grpN row [a, b, c, d]) 3 ++ q).length = q.length + 3 := by simp [bs_length]; omega
      refine ⟨?_, ?_, ?_⟩
      · rw [hl]; simp only [List.length_cons]; omega
      · intro t ht
        rw [hl] at ht
        by_cases h24 : t < 24
        · exact group4 row hrow a b c d r q t h24
        · obtain ⟨u, rfl⟩ : ∃ u, t = u + 24 := ⟨t - 24, by omega⟩
          rw [bitS_shift, bs3]
          show bitB (_ :: _ :: _ :: q) _ = _
          rw [bitB_shift]
          exact h2 u (by omega)
      · intro t ht1 ht2
        rw [hl] at ht1
        simp only [List.length_cons] at ht2
        obtain ⟨u, rfl⟩ : ∃ u, t = u + 24 := ⟨t - 24, by omega⟩
        rw [bitS_shift]
        exact h3 u (by omega) (by omega)
  | n + 1, [a, b, c], hn, hm => by
    rw [dec]
    have hleft := left3 row hrow a b c
    by_cases hz : bt (grpN row [a, b, c]) 2 = 0
    · rw [if_pos hz]
      refine ⟨by simp [bs_length], fun t ht => group3 row hrow a b c t (by rw [bs_length] at ht; omega), fun t h1 h2 => ?_⟩
      rw [bs_length] at h1
      simp only [List.length_cons, List.length_nil] at h2
      have := hleft.1 hz
      have ht : t = 16 ∨ t = 17 := by omega
      rcases ht with rfl | rfl
      · exact this.1
      · exact this.2
    · rw [if_neg hz]
      have h0 := bitS_01 row [a, b, c] 16
      have h1 := bitS_01 row [a, b, c] 17
      by_cases h : bitS row [a, b, c] 16 = 1
      · exact ⟨16, by simp, by simp, h⟩
      · exact ⟨17, by simp, by simp, by omega⟩
  | n + 1, [a, b], hn, hm => by
    rw [dec]
    have hleft := left2 row hrow a b
    by_cases hz : bt (grpN row [a, b]) 1 = 0
    · rw [if_pos hz]
      refine ⟨by simp [bs_length], fun t ht => group2 row hrow a b t (by rw [bs_length] at ht; omega), fun t h1 h2 => ?_⟩
      rw [bs_length] at h1
      simp only [List.length_cons, List.length_nil] at h2
      have := hleft.1 hz
      have ht : t = 8 ∨ t = 9 ∨ t = 10 ∨ t = 11 := by omega
      rcases ht with rfl | rfl | rfl | rfl
      · exact this.1
      · exact this.2.1
      · exact this.2.2.1
      · exact this.2.2.2
    · rw [if_neg hz]
      have h0 := bitS_01 row [a, b] 8
      have h1 := bitS_01 row [a, b] 9
      have h2 := bitS_01 row [a, b] 10
      have h3 := bitS_01 row [a, b] 11
      by_cases e0 : bitS row [a, b] 8 = 1
      · exact ⟨8, by simp, by simp, e0⟩
      · by_cases e1 : bitS row [a, b] 9 = 1
        · exact ⟨9, by simp, by simp, e1⟩
        · by_cases e2 : bitS row [a, b] 10 = 1
          · exact ⟨10, by simp, by simp, e2⟩
          · exact ⟨11, by simp, by simp, by omega⟩
  | n + 1, [a], hn, hm => by simp at hm
  | n, [], hn, hm => by
    have e : dec row [] = some [] := by simp [dec]
    rw [e]
    exact ⟨rfl, fun t ht => by simp at ht, fun t _ ht => by simp at ht⟩

theorem bits8 (n m : Nat) (hn : n < 256) (hm : m < 256) (h : ∀ i, i < 8 → n / 2 ^ (7 - i) % 2 = m / 2 ^ (7 - i) % 2) : n = m := by
  have h0 := h 0 (by omega); have h1 := h 1 (by omega); have h2 := h 2 (by omega); have h3 := h 3 (by omega); have h4 := h 4 (by omega); have h5 := h 5 (by omega); have h6 := h 6 (by omega); have h7 := h 7 (by omega)
  simp only [Nat.reduceSub, Nat.reducePow] at h0 h1 h2 h3 h4 h5 h6 h7
  omega

/-- Bytes are told by their bits. -/
theorem bits_ext (p q : List UInt8) (hl : p.length = q.length) (h : ∀ t, t < 8 * p.length → bitB p t = bitB q t) : p = q := by
  refine List.ext_getElem hl fun j h1 h2 => ?_
  apply UInt8.toNat_inj.1
  refine bits8 _ _ p[j].toNat_lt q[j].toNat_lt fun i hi => ?_
  have := h (8 * j + i) (by omega)
  unfold bitB at this
  rw [show (8 * j + i) / 8 = j by omega, show (8 * j + i) % 8 = i by omega] at this
  simpa [List.getD_eq_getElem?_getD, h1, h2] using this

end Go.Proofs.YtpfdaclmchcbiaaDoor.B64