import Derived.Test.YtgkbbcoagnilgaaSpread
namespace Go.Proofs.Ytgkbbcoagnilgaa
open Go.RowKit

/-- The value of a float32 without a sign, times 2^160; the infinity's is 2^128. -/
def FV (b : Nat) : Nat := fM b * 2 ^ fP b

theorem divK (K e g : Nat) (h : g < K) : (e * K + g) / K = e ∧ (e * K + g) % K = g := by
  rw [Nat.mul_comm, Nat.mul_add_div (by omega), Nat.div_eq_of_lt h, Nat.mul_add_mod, Nat.mod_eq_of_lt h]
  exact ⟨rfl, rfl⟩

theorem FV_gen (K : Nat) (hK : 0 < K) (b : Nat) :
    (if (b + 1) / K = 0 then (b + 1) % K else (b + 1) % K + K) * 2 ^ (if (b + 1) / K = 0 then 11 else (b + 1) / K + 10) = ((if b / K = 0 then b % K else b % K + K) + 1) * 2 ^ (if b / K = 0 then 11 else b / K + 10) := by
  obtain ⟨e, f, hf, rfl⟩ : ∃ e f, f < K ∧ b = e * K + f := ⟨b / K, b % K, Nat.mod_lt _ hK, by rw [Nat.mul_comm]; exact (Nat.div_add_mod _ _).symm⟩
  rw [(divK K e f hf).1, (divK K e f hf).2]
  by_cases hn : f + 1 < K
  · rw [Nat.add_assoc, (divK K e (f + 1) hn).1, (divK K e (f + 1) hn).2]
    by_cases he : e = 0
    · rw [if_pos he, if_pos he, if_pos he]
    · rw [if_neg he, if_neg he, if_neg he, Nat.add_right_comm]
  · have h7 : f + 1 = K := by omega
    have h6 : e * K + f + 1 = (e + 1) * K + 0 := by rw [Nat.add_assoc, h7, Nat.add_mul, Nat.one_mul, Nat.add_zero]
    rw [h6, (divK K (e + 1) 0 hK).1, (divK K (e + 1) 0 hK).2, if_neg (Nat.succ_ne_zero e), if_neg (Nat.succ_ne_zero e), Nat.zero_add]
    by_cases he : e = 0
    · have h8 : e + 1 + 10 = 11 := by omega
      rw [if_pos he, if_pos he, h7, h8]
    · rw [if_neg he, if_neg he, Nat.add_right_comm f, h7, Nat.add_right_comm e 1 10, Nat.pow_succ, Nat.add_mul, Nat.mul_comm _ 2, Nat.mul_left_comm, Nat.two_mul]

theorem FV_succ (b : Nat) : FV (b + 1) = (fM b + 1) * 2 ^ fP b := FV_gen 8388608 (by decide) b

theorem FV_lt (b : Nat) : FV b < FV (b + 1) := by
  rw [FV_succ]
  unfold FV
  exact Nat.mul_lt_mul_of_pos_right (Nat.lt_succ_self _) (Nat.pow_pos (by decide))

theorem FV_mono {a b : Nat} (h : a ≤ b) : FV a ≤ FV b := by
  induction b with
  | zero => obtain rfl : a = 0 := by omega
            exact Nat.le_refl _
  | succ b ih =>
    by_cases e : a = b + 1
    · rw [e]; exact Nat.le_refl _
    · exact Nat.le_trans (ih (by omega)) (Nat.le_of_lt (FV_lt b))

theorem FV_strict {a b : Nat} (h : a < b) : FV a < FV b := Nat.lt_of_lt_of_le (FV_lt a) (FV_mono h)

/-- b is the nearest float32 of num / den (times 2^160): the even one of two. -/
def Rnd (num den b : Nat) : Prop := b ≤ 2139095040 ∧ (∀ a, b = a + 1 → den * (FV a + FV b) < 2 * num ∨ den * (FV a + FV b) = 2 * num ∧ b % 2 = 0) ∧ (b < 2139095040 → 2 * num < den * (FV b + FV (b + 1)) ∨ 2 * num = den * (FV b + FV (b + 1)) ∧ b % 2 = 0)

/-- The nearest goes up with the value. -/
theorem Rnd.climb {n1 d1 b1 n2 d2 b2 : Nat} (h1 : Rnd n1 d1 b1) (h2 : Rnd n2 d2 b2) (hd1 : 0 < d1) (hd2 : 0 < d2) (hle : n1 * d2 ≤ n2 * d1) : b1 ≤ b2 := by
  apply Nat.le_of_not_lt
  intro hlt
  obtain ⟨a, rfl⟩ : ∃ a, b1 = a + 1 := ⟨b1 - 1, by omega⟩
  have l1 := h1.2.1 a rfl
  have l2 := h2.2.2 (by have := h1.1; omega)
  have hab : b2 ≤ a := by omega
  have e1 : FV b2 + FV (b2 + 1) ≤ FV a + FV (a + 1) := Nat.add_le_add (FV_mono hab) (FV_mono (by omega))
  have g1 : d1 * (FV a + FV (a + 1)) ≤ 2 * n1 := by omega
  have g2 : 2 * n2 ≤ d2 * (FV b2 + FV (b2 + 1)) := by omega
  have k1 : d2 * (d1 * (FV a + FV (a + 1))) ≤ d2 * (2 * n1) := Nat.mul_le_mul_left _ g1
  have k2 : d1 * (2 * n2) ≤ d1 * (d2 * (FV b2 + FV (b2 + 1))) := Nat.mul_le_mul_left _ g2
  have k3 : d2 * (2 * n1) ≤ d1 * (2 * n2) := by
    have : d2 * (2 * n1) = 2 * (n1 * d2) := by rw [Nat.mul_left_comm, Nat.mul_comm d2]
    have : d1 * (2 * n2) = 2 * (n2 * d1) := by rw [Nat.mul_left_comm, Nat.mul_comm d1]
    omega
  have k4 : d1 * (d2 * (FV b2 + FV (b2 + 1))) = d2 * (d1 * (FV b2 + FV (b2 + 1))) := by rw [Nat.mul_left_comm]
  have k5 : d2 * (d1 * (FV a + FV (a + 1))) ≤ d2 * (d1 * (FV b2 + FV (b2 + 1))) := by omega
  have k6 : FV a + FV (a + 1) ≤ FV b2 + FV (b2 + 1) := Nat.le_of_mul_le_mul_left (Nat.le_of_mul_le_mul_left k5 hd2) hd1
  have hba : b2 = a := by
    apply Nat.le_antisymm hab
    apply Nat.le_of_not_lt
    intro h
    have := FV_strict h
    have := FV_mono (show b2 + 1 ≤ a + 1 by omega)
    omega
  subst hba
  rcases l1 with l1 | l1
  · have : d2 * (d1 * (FV b2 + FV (b2 + 1))) < d2 * (2 * n1) := Nat.mul_lt_mul_of_pos_left l1 hd2
    omega
  · rcases l2 with l2 | l2
    · have : d1 * (2 * n2) < d1 * (d2 * (FV b2 + FV (b2 + 1))) := Nat.mul_lt_mul_of_pos_left l2 hd1
      omega
    · omega

theorem Rnd.one {n1 d1 b1 n2 d2 b2 : Nat} (h1 : Rnd n1 d1 b1) (h2 : Rnd n2 d2 b2) (hd1 : 0 < d1) (hd2 : 0 < d2) (he : n1 * d2 = n2 * d1) : b1 = b2 :=
  Nat.le_antisymm (h1.climb h2 hd1 hd2 (Nat.le_of_eq he)) (h2.climb h1 hd2 hd1 (Nat.le_of_eq he.symm))

theorem fM_fP (s q : Nat) (hs : 11 ≤ s) (hq : q < 16777216) (h : 8388608 ≤ q ∨ s = 11) : fM ((s - 11) * 8388608 + q) = q ∧ fP ((s - 11) * 8388608 + q) = s := by
  unfold fM fP
  by_cases hb : 8388608 ≤ q
  · have h1 : ((s - 11) * 8388608 + q) / 8388608 = s - 11 + 1 := by omega
    have h2 : ((s - 11) * 8388608 + q) % 8388608 = q - 8388608 := by omega
    rw [h1, h2, if_neg (by omega), if_neg (by omega)]
    omega
  · have h3 : s = 11 := by omega
    subst h3
    have h1 : ((11 - 11) * 8388608 + q) / 8388608 = 0 := by omega
    have h2 : ((11 - 11) * 8388608 + q) % 8388608 = q := by omega
    rw [h1, h2, if_pos rfl, if_pos rfl]
    exact ⟨rfl, rfl⟩

theorem rnd_cut {num b : Nat} (h2 : ∀ a, b = a + 1 → FV a + FV b < 2 * num ∨ FV a + FV b = 2 * num ∧ b % 2 = 0) (h3 : 2 * num < FV b + FV (b + 1) ∨ 2 * num = FV b + FV (b + 1) ∧ b % 2 = 0) : Rnd num 1 (min b 2139095040) := by
  by_cases hb : b ≤ 2139095040
  · rw [Nat.min_eq_left hb]
    refine ⟨hb, fun a ha => ?_, fun h => ?_⟩
    · rw [Nat.one_mul]; exact h2 a ha
    · rw [Nat.one_mul]; exact h3
  · rw [Nat.min_eq_right (by omega)]
    refine ⟨Nat.le_refl _, fun a ha => ?_, fun h => absurd h (Nat.lt_irrefl _)⟩
    rw [Nat.one_mul]
    obtain ⟨c, rfl⟩ : ∃ c, b = c + 1 := ⟨b - 1, by omega⟩
    have := h2 c rfl
    have e1 : FV a < FV c := FV_strict (by omega)
    have e2 : FV 2139095040 < FV (c + 1) := FV_strict (by omega)
    omega

theorem rnd_ok (v s q r up : Nat) (hv : v = q * 2 ^ s + r) (hr : r < 2 ^ s) (hs : 11 ≤ s) (hq : q < 16777216) (h : 8388608 ≤ q ∨ s = 11)
    (hup : (up = 1 ∧ (2 ^ (s - 1) < r ∨ r = 2 ^ (s - 1) ∧ q % 2 = 1)) ∨ (up = 0 ∧ (r < 2 ^ (s - 1) ∨ r = 2 ^ (s - 1) ∧ q % 2 = 0))) :
    Rnd v 1 (min ((s - 11) * 8388608 + q + up) 2139095040) := by
  obtain ⟨e1, e2⟩ := fM_fP s q hs hq h
  have hpar : ((s - 11) * 8388608 + q) % 2 = q % 2 := by rw [show (8388608 : Nat) = 2 * 4194304 from rfl, Nat.mul_left_comm, Nat.mul_add_mod]
  obtain ⟨b0, hb0⟩ : ∃ b0, b0 = (s - 11) * 8388608 + q := ⟨_, rfl⟩
  rw [← hb0] at e1 e2 hpar ⊢
  clear hb0
  have f0 : FV b0 = q * 2 ^ s := by unfold FV; rw [e1, e2]
  have f1 : FV (b0 + 1) = q * 2 ^ s + 2 ^ s := by rw [FV_succ, e1, e2, Nat.add_mul, Nat.one_mul]
  have hp : 2 ^ s = 2 * 2 ^ (s - 1) := by
    obtain ⟨t, rfl⟩ : ∃ t, s = t + 1 := ⟨s - 1, by omega⟩
    rw [Nat.pow_succ, Nat.add_sub_cancel, Nat.mul_comm]
  generalize q * 2 ^ s = Q at hv f0 f1
  generalize 2 ^ (s - 1) = H at hup hp
  rcases hup with ⟨rfl, hu⟩ | ⟨rfl, hu⟩
  · refine rnd_cut (fun a ha => ?_) (.inl ?_)
    · obtain rfl : a = b0 := by omega
      rcases hu with hu | hu
      · left; omega
      · right; omega
    · have := FV_lt (b0 + 1)
      omega
  · rw [Nat.add_zero]
    refine rnd_cut (fun a ha => .inl ?_) ?_
    · subst ha
      have := FV_lt a
      omega
    · rcases hu with hu | hu
      · left; omega
      · right; omega

/-- A number and what stands for what is cut off: the lowest bit. -/
def stk (q r : Nat) : Nat := if r = 0 then q else 2 * (q / 2) + 1

theorem even_FV (b : Nat) : FV b % 2 = 0 := by
  unfold FV
  have h : 11 ≤ fP b := by unfold fP; split <;> omega
  obtain ⟨t, ht⟩ : ∃ t, fP b = t + 1 := ⟨fP b - 1, by omega⟩
  rw [ht, Nat.pow_succ, ← Nat.mul_assoc]
  omega

theorem mid_even (b : Nat) : (FV b + FV (b + 1)) % 4 = 0 := by
  rw [FV_succ]
  unfold FV
  have h : 11 ≤ fP b := by unfold fP; split <;> omega
  obtain ⟨t, ht⟩ : ∃ t, fP b = t + 2 := ⟨fP b - 2, by omega⟩
  rw [ht, Nat.pow_add]
  generalize 2 ^ t = T
  have e : fM b * (T * 2 ^ 2) + (fM b + 1) * (T * 2 ^ 2) = 4 * (fM b * T + (fM b + 1) * T) := by
    rw [← Nat.mul_assoc, ← Nat.mul_assoc, Nat.mul_add, Nat.mul_comm 4, Nat.mul_comm 4]
  rw [e]
  omega

/-- What is cut off does not count for the nearest float32. -/
theorem Rnd.whole {q r num den b : Nat} (h : Rnd (stk q r) 1 b) (hn : num = den * q + r) (hr : r < den) : Rnd num den b := by
  obtain ⟨h1, h2, h3⟩ := h
  have key : ∀ M, M % 4 = 0 → (M < 2 * stk q r → den * M < 2 * num) ∧ (2 * stk q r < M → 2 * num < den * M) ∧ (M = 2 * stk q r → den * M = 2 * num) := by
    intro M hM
    obtain ⟨m, rfl⟩ : ∃ m, M = 2 * m := ⟨M / 2, by omega⟩
    have hm : m % 2 = 0 := by omega
    have e1 : den * (2 * m) = 2 * (den * m) := Nat.mul_left_comm _ _ _
    rw [e1, hn]
    unfold stk
    have up : ∀ x y, x < y → den * x + den ≤ den * y := fun x y hxy => by
      have := Nat.mul_le_mul_left den (show x + 1 ≤ y from hxy)
      rw [Nat.mul_add, Nat.mul_one] at this
      exact this
    by_cases h0 : r = 0
    · rw [if_pos h0]
      subst h0
      refine ⟨fun hlt => ?_, fun hlt => ?_, fun he => ?_⟩
      · have := up m q (by omega)
        omega
      · have := up q m (by omega)
        omega
      · obtain rfl : m = q := by omega
        omega
    · rw [if_neg h0]
      refine ⟨fun hlt => ?_, fun hlt => ?_, fun he => ?_⟩
      · have h5 : m ≤ q := by omega
        have := Nat.mul_le_mul_left den h5
        omega
      · have := up q m (by omega)
        omega
      · omega
  refine ⟨h1, fun a ha => ?_, fun hb => ?_⟩
  · have k := key (FV a + FV b) (by rw [ha]; exact mid_even a)
    have := h2 a ha
    rw [Nat.one_mul] at this
    rcases this with h | h
    · exact .inl (k.1 h)
    · exact .inr ⟨k.2.2 h.1, h.2⟩
  · have k := key (FV b + FV (b + 1)) (mid_even b)
    have := h3 hb
    rw [Nat.one_mul] at this
    rcases this with h | h
    · exact .inl (k.2.1 h)
    · exact .inr ⟨(k.2.2 h.1.symm).symm, h.2⟩

/-- The two top limbs stand for the whole number. -/
theorem window_ok (v W low below sh q rest up : Nat) (hv : v = W * 2 ^ below + low) (hlow : low < 2 ^ below) (hsh : 2 ≤ sh)
    (hq : q = stk W low / 2 ^ sh) (hrest : rest = stk W low % 2 ^ sh) (hs : 11 ≤ below + sh) (hq2 : q < 16777216) (h : 8388608 ≤ q ∨ below + sh = 11)
    (hup : (up = 1 ∧ (2 ^ (sh - 1) < rest ∨ rest = 2 ^ (sh - 1) ∧ q % 2 = 1)) ∨ (up = 0 ∧ (rest < 2 ^ (sh - 1) ∨ rest = 2 ^ (sh - 1) ∧ q % 2 = 0))) :
    Rnd v 1 (min ((below + sh - 11) * 8388608 + q + up) 2139095040) := by
  have hB : 0 < 2 ^ below := Nat.pow_pos (by decide)
  have hS : 0 < 2 ^ sh := Nat.pow_pos (by decide)
  have hpS : 2 ^ sh = 2 * 2 ^ (sh - 1) := by
    obtain ⟨t, rfl⟩ : ∃ t, sh = t + 1 := ⟨sh - 1, by omega⟩
    rw [Nat.pow_succ, Nat.add_sub_cancel, Nat.mul_comm]
  have hpH : 2 ^ (sh - 1) = 2 * 2 ^ (sh - 2) := by
    obtain ⟨t, rfl⟩ : ∃ t, sh = t + 2 := ⟨sh - 2, by omega⟩
    show 2 ^ (t + 1) = 2 * 2 ^ t
    rw [Nat.pow_succ, Nat.mul_comm]
  have hsum : 2 ^ (below + sh) = 2 ^ sh * 2 ^ below := by rw [Nat.pow_add, Nat.mul_comm]
  have hsumH : 2 ^ (below + sh - 1) = 2 ^ (sh - 1) * 2 ^ below := by
    rw [show below + sh - 1 = below + (sh - 1) by omega, Nat.pow_add, Nat.mul_comm]
  have hW : stk W low = q * 2 ^ sh + rest := by rw [hq, hrest, Nat.mul_comm]; exact (Nat.div_add_mod _ _).symm
  have hrlt : rest < 2 ^ sh := by rw [hrest]; exact Nat.mod_lt _ hS
  generalize hP : 2 ^ sh = P at *
  generalize hH : 2 ^ (sh - 1) = H at *
  generalize 2 ^ (sh - 2) = G at hpH
  have hqP : q * P = 2 * (q * H) := by rw [hpS, Nat.mul_left_comm]
  by_cases h0 : low = 0
  · unfold stk at hW
    rw [if_pos h0] at hW
    refine rnd_ok v (below + sh) q (rest * 2 ^ below) up ?_ ?_ hs hq2 h ?_
    · rw [hv, hW, h0, hsum, Nat.add_mul, Nat.mul_assoc, Nat.add_zero]
    · rw [hsum]; exact Nat.mul_lt_mul_of_pos_right hrlt hB
    · rw [hsumH]
      rcases hup with ⟨h1, h2⟩ | ⟨h1, h2⟩
      · refine .inl ⟨h1, ?_⟩
        rcases h2 with h2 | ⟨h2, h3⟩
        · exact .inl (Nat.mul_lt_mul_of_pos_right h2 hB)
        · exact .inr ⟨by rw [h2], h3⟩
      · refine .inr ⟨h1, ?_⟩
        rcases h2 with h2 | ⟨h2, h3⟩
        · exact .inl (Nat.mul_lt_mul_of_pos_right h2 hB)
        · exact .inr ⟨by rw [h2], h3⟩
  · unfold stk at hW
    rw [if_neg h0] at hW
    obtain ⟨x, hx1, hx2⟩ : ∃ x, W = q * P + x ∧ (x = rest ∨ x + 1 = rest) := by
      by_cases hw : W % 2 = 1
      · exact ⟨rest, by omega, .inl rfl⟩
      · exact ⟨rest - 1, by omega, .inr (by omega)⟩
    have hodd : rest % 2 = 1 := by omega
    have hxr : 2 * (x / 2) + 1 = rest := by omega
    have hxP : x < P := by omega
    refine rnd_ok v (below + sh) q (x * 2 ^ below + low) up ?_ ?_ hs hq2 h ?_
    · rw [hv, hx1, hsum, Nat.add_mul, Nat.mul_assoc, Nat.add_assoc]
    · rw [hsum]
      have : (x + 1) * 2 ^ below ≤ P * 2 ^ below := Nat.mul_le_mul_right _ hxP
      rw [Nat.add_mul, Nat.one_mul] at this
      omega
    · rw [hsumH]
      rcases hup with ⟨h1, h2⟩ | ⟨h1, h2⟩
      · refine .inl ⟨h1, .inl ?_⟩
        have hxH : H ≤ x := by omega
        have := Nat.mul_le_mul_right (2 ^ below) hxH
        omega
      · refine .inr ⟨h1, .inl ?_⟩
        have hxH : x + 1 ≤ H := by omega
        have := Nat.mul_le_mul_right (2 ^ below) hxH
        rw [Nat.add_mul, Nat.one_mul] at this
        omega

end Go.Proofs.Ytgkbbcoagnilgaa
