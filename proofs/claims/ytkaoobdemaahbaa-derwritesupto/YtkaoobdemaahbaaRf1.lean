import Derived.Test.YtkaoobdemaahbaaRd6
import Derived.Test.YtkaoobdemaahbaaWr1
namespace Go.Proofs.Ytkaoobdemaahbaa
open Go.RowKit

/-- The document's: is it a tag that may be. -/
def tagR (t : Int) : Bool := isTg t && !(t == 16 || t == 17 || t == 33 || t == 34 || t == 35 || t == 37 || t == 38)

theorem sound_prim (t : Int) (l : List UInt8) (hc : con t = false) : sound ⟨t, l, 0⟩ = (tagR t && right t l) := by
  unfold sound tagR
  simp only [hc]
  by_cases h : t == 16 || t == 17 || t == 33 || t == 34 || t == 35 || t == 37 || t == 38
  · have : right t l = false := by
      simp only [Bool.or_eq_true, beq_iff_eq] at h
      rcases h with (((((h | h) | h) | h) | h) | h) | h <;> subst h <;> rfl
    rw [this]
    simp
  · rw [Bool.not_eq_true] at h
    rw [h]
    simp
theorem sound_cons (t : Int) (hc : con t = true) : sound ⟨t, [], 0⟩ = tagR t := by
  unfold sound tagR
  simp only [hc]
  by_cases h : t == 16 || t == 17 || t == 33 || t == 34 || t == 35 || t == 37 || t == 38
  · have : right t [] = false := by
      simp only [Bool.or_eq_true, beq_iff_eq] at h
      rcases h with (((((h | h) | h) | h) | h) | h) | h <;> subst h <;> rfl
    rw [this, h]
    simp
  · rw [Bool.not_eq_true] at h
    have hne : t ≠ 1 ∧ t ≠ 2 ∧ t ≠ 3 ∧ t ≠ 5 ∧ t ≠ 6 := by
      refine ⟨?_, ?_, ?_, ?_, ?_⟩ <;> (intro e; subst e; revert hc; decide)
    have : right t [] = true := by
      unfold right
      rw [if_neg hne.1, if_neg hne.2.1, if_neg hne.2.2.1, if_neg hne.2.2.2.1, if_neg hne.2.2.2.2, h]
      rfl
    rw [this, h]
    simp

theorem tagR_nat (n : Nat) : tagR (n : Int) = (decide (n ≤ 255) && (n % 32 != 31) && !((n == 16) || (n == 17) || (n == 33) || (n == 34) || (n == 35) || (n == 37) || (n == 38))) := by
  unfold tagR isTg
  have : ∀ k : Nat, ((n : Int) == (k : Int)) = (n == k) := fun k => by
    by_cases h : n = k
    · simp [h]
    · rw [beq_eq_false_iff_ne.2 h, beq_eq_false_iff_ne.2 (by omega)]
  have e := fun k => this k
  rw [show ((n : Int) == 16) = (n == 16) from e 16, show ((n : Int) == 17) = (n == 17) from e 17, show ((n : Int) == 33) = (n == 33) from e 33, show ((n : Int) == 34) = (n == 34) from e 34, show ((n : Int) == 35) = (n == 35) from e 35, show ((n : Int) == 37) = (n == 37) from e 37, show ((n : Int) == 38) = (n == 38) from e 38]
  rw [decide_eq_true (show (0 : Int) ≤ (n : Int) by omega), Int.toNat_natCast, show decide ((n : Int) ≤ 255) = decide (n ≤ 255) from decide_eq_decide.2 (by omega)]
  rfl

set_option maxRecDepth 100000 in
set_option maxHeartbeats 1000000 in
theorem rtag_any (n : Nat) (hn : n < 256) (w : World) :
    Calls Try.prog 28 #[.int .i64 (n : Int)] w fun e w' => e = .returned (.bool (tagR n)) ∧ w' = w := by
  rcases (show n = 16 ∨ n = 17 ∨ n = 33 ∨ n = 34 ∨ n = 35 ∨ n = 37 ∨ n = 38 ∨ (n ≠ 16 ∧ n ≠ 17 ∧ n ≠ 33 ∧ n ≠ 34 ∧ n ≠ 35 ∧ n ≠ 37 ∧ n ≠ 38) by omega) with rfl | rfl | rfl | rfl | rfl | rfl | rfl | ⟨h1, h2, h3, h4, h5, h6, h7⟩
  iterate 7
    · go_enter Try.func28, Try.ntmps28
      go_wp2
      go_ret
      exact ⟨rfl, rfl⟩
  · have b0 : decide ((n : Int) < 0) = false := decide_eq_false (by omega)
    have b9 : decide ((255 : Int) < (n : Int)) = false := decide_eq_false (by omega)
    have b1 : ((n : Int) == 16) = false := by rw [beq_eq_false_iff_ne]; omega
    have b2 : ((n : Int) == 17) = false := by rw [beq_eq_false_iff_ne]; omega
    have b3 : ((n : Int) != 33) = true := by rw [bne_iff_ne]; omega
    have b4 : ((n : Int) != 34) = true := by rw [bne_iff_ne]; omega
    have b5 : ((n : Int) != 35) = true := by rw [bne_iff_ne]; omega
    have b6 : ((n : Int) != 37) = true := by rw [bne_iff_ne]; omega
    have b7 : ((n : Int) != 38) = true := by rw [bne_iff_ne]; omega
    have HT : Hid (tagR (n : Int) = (n % 32 != 31)) := by
      show _ = _
      rw [tagR_nat, decide_eq_true (show n ≤ 255 by omega), beq_eq_false_iff_ne.2 h1, beq_eq_false_iff_ne.2 h2, beq_eq_false_iff_ne.2 h3, beq_eq_false_iff_ne.2 h4, beq_eq_false_iff_ne.2 h5, beq_eq_false_iff_ne.2 h6, beq_eq_false_iff_ne.2 h7]
      simp
    by_cases hm : n % 32 = 31
    · have b8 : ((n : Int) % 32 == 31) = true := by rw [beq_iff_eq]; omega
      have HF : Hid (tagR (n : Int) = false) := by show _ = _; rw [HT.out, hm]; rfl
      clear HT hm h1 h2 h3 h4 h5 h6 h7
      go_enter Try.func28, Try.ntmps28
      go_wp2
      go_ret
      exact ⟨by rw [HF.out]; rfl, rfl⟩
    · have b8 : ((n : Int) % 32 == 31) = false := by rw [beq_eq_false_iff_ne]; omega
      have HF : Hid (tagR (n : Int) = true) := by show _ = _; rw [HT.out, bne_iff_ne]; exact hm
      clear HT hm h1 h2 h3 h4 h5 h6 h7
      go_enter Try.func28, Try.ntmps28
      go_wp2
      go_ret
      exact ⟨by rw [HF.out]; rfl, rfl⟩

set_option maxRecDepth 100000 in
set_option maxHeartbeats 1000000 in
theorem rinner_any (n : Nat) (hn : n < 256) (w : World) :
    Calls Try.prog 26 #[.int .i64 (n : Int)] w fun e w' => e = .returned (.bool (con n)) ∧ w' = w := by
  have HE : Hid (True → ((n : Int) / 32 % 2 == 1) = con n) := fun _ => by
    unfold con
    rw [Int.toNat_natCast]
    by_cases h : n / 32 % 2 = 1
    · rw [h, beq_iff_eq.2 (show (n : Int) / 32 % 2 = 1 by omega)]; rfl
    · rw [beq_eq_false_iff_ne.2 h, beq_eq_false_iff_ne.2 (show (n : Int) / 32 % 2 ≠ 1 by omega)]
  go_enter Try.func26, Try.ntmps26
  go_wp2
  go_ret
  exact ⟨by rw [← HE.out trivial]; rfl, rfl⟩

/-- The document's length: the number, how many bytes it has. -/
def lenR : List UInt8 → Nat × Nat
  | [] => (0, 0)
  | x :: q =>
    if x < 128 then (x.toNat, 1)
    else if x.toNat = 128 ∨ 132 < x.toNat ∨ q.length < x.toNat - 128 then (0, 0)
    else if q.getD 0 0 = 0 ∨ be 0 (q.take (x.toNat - 128)) < 128 then (0, 0)
    else (be 0 (q.take (x.toNat - 128)), 1 + (x.toNat - 128))

theorem meas_lenR (t : UInt8) (r : List UInt8) {n k : Nat} (h : lenR r = (n, k)) : meas (t :: r) = if k = 0 ∨ r.length - k < n then none else some (1 + k, 1 + k + n) := by
  cases r with
  | nil =>
    simp only [lenR, Prod.mk.injEq] at h
    rw [if_pos (.inl h.2.symm)]; rfl
  | cons x q =>
    simp only [lenR] at h
    simp only [meas, List.length_cons]
    by_cases h1 : x < 128
    · rw [if_pos h1] at h
      rw [if_pos h1]
      simp only [Prod.mk.injEq] at h
      obtain ⟨rfl, rfl⟩ := h
      by_cases h2 : x.toNat ≤ q.length
      · rw [if_pos h2, if_neg (by omega)]
      · rw [if_neg h2, if_pos (by omega)]
    · rw [if_neg h1] at h
      rw [if_neg h1]
      by_cases h2 : x.toNat = 128 ∨ 132 < x.toNat ∨ q.length < x.toNat - 128
      · rw [if_pos h2] at h
        simp only [Prod.mk.injEq] at h
        rw [if_pos (by
          rcases h2 with h | h | h
          · exact .inl h
          · exact .inr (.inl h)
          · exact .inr (.inr (.inl h))), if_pos (.inl h.2.symm)]
      · rw [if_neg h2] at h
        by_cases h3 : q.getD 0 0 = 0
        · rw [if_pos (.inl h3)] at h
          simp only [Prod.mk.injEq] at h
          rw [if_pos (.inr (.inr (.inr h3))), if_pos (.inl h.2.symm)]
        · rw [if_neg (show ¬ (x.toNat = 128 ∨ 132 < x.toNat ∨ q.length < x.toNat - 128 ∨ q.getD 0 0 = 0) by
            rintro (h | h | h | h)
            · exact h2 (.inl h)
            · exact h2 (.inr (.inl h))
            · exact h2 (.inr (.inr h))
            · exact h3 h)]
          by_cases h4 : be 0 (q.take (x.toNat - 128)) < 128
          · rw [if_pos (.inr h4)] at h
            simp only [Prod.mk.injEq] at h
            rw [if_pos (.inl h4), if_pos (.inl h.2.symm)]
          · rw [if_neg (by
              rintro (h | h)
              · exact h3 h
              · exact h4 h)] at h
            simp only [Prod.mk.injEq] at h
            obtain ⟨rfl, rfl⟩ := h
            generalize be 0 (q.take (x.toNat - 128)) = N at *
            by_cases h5 : q.length - (x.toNat - 128) < N
            · rw [if_pos (.inr h5), if_pos (by omega)]
            · rw [if_neg (by omega), if_neg (by omega)]
              simp only [Option.some.injEq, Prod.mk.injEq]
              omega

end Go.Proofs.Ytkaoobdemaahbaa
