import Derived.Test.YtpfdaclmchcbiaaDoorB6Math
namespace Go.Proofs.YtpfdaclmchcbiaaDoor.B64
open Go.RowKit
set_option maxRecDepth 100000

theorem dec_none_len (row : ByteArray) (s : List UInt8) (h : dec row s = none) : 1 ≤ s.length := by
  cases s with
  | nil => simp [dec] at h
  | cons a r => simp

/-- Decode takes a text, and it is the spelling of what it says; or there is an error and its place. -/
theorem decU_cases (s : List UInt8) : (∃ b, decU s = (some b, 0, 0) ∧ enc urlRow b = s) ∨ (∃ e p, decU s = (none, e, p) ∧ e ≠ 0 ∧ 0 ≤ p ∧ p ≤ s.length) := by
  unfold decU
  by_cases h1 : firstNo urlRow s < s.length
  · rw [if_pos h1]; exact .inr ⟨_, _, rfl, by decide, by omega, by omega⟩
  · rw [if_neg h1]
    by_cases h2 : s.length % 4 = 1
    · rw [if_pos h2]; exact .inr ⟨_, _, rfl, by decide, by omega, by omega⟩
    · rw [if_neg h2]
      cases hd : dec urlRow s with
      | none => exact .inr ⟨_, _, rfl, by decide, by have := dec_none_len _ _ hd; omega, by omega⟩
      | some b => exact .inl ⟨b, rfl, enc_dec urlRow rfl s.length s b (Nat.le_refl _) (all_of_first _ _ h1) h2 hd⟩

theorem cut1_app (l : List UInt8) : ∃ k, k ≤ 1 ∧ l = cut1 l ++ List.replicate k 61 := by
  unfold cut1
  by_cases h : l.getLast? = some 61
  · rw [if_pos h]
    refine ⟨1, Nat.le_refl _, ?_⟩
    obtain ⟨m, rfl⟩ := List.getLast?_eq_some_iff.1 h
    simp
  · rw [if_neg h]; exact ⟨0, Nat.zero_le _, by simp⟩

theorem cut2_app (l : List UInt8) : ∃ k, k ≤ 2 ∧ l = cut1 (cut1 l) ++ List.replicate k 61 := by
  obtain ⟨k1, h1, e1⟩ := cut1_app l
  obtain ⟨k2, h2, e2⟩ := cut1_app (cut1 l)
  refine ⟨k2 + k1, by omega, ?_⟩
  rw [← List.replicate_append_replicate, ← List.append_assoc, ← e2, ← e1]

theorem decS_cases (s : List UInt8) : (∃ b, decS s = (some b, 0, 0) ∧ enc stdRow b ++ fill b.length = s) ∨ (∃ e p, decS s = (none, e, p) ∧ e ≠ 0) := by
  obtain ⟨k, hk, hs⟩ := cut2_app s
  unfold decS decM
  generalize cut1 (cut1 s) = m at hs
  by_cases h1 : firstNo stdRow m < m.length
  · rw [if_pos h1]; exact .inr ⟨_, _, rfl, by decide⟩
  · rw [if_neg h1]
    by_cases h2 : s.length % 4 ≠ 0
    · rw [if_pos h2]; exact .inr ⟨_, _, rfl, by decide⟩
    · rw [if_neg h2]
      cases hd : dec stdRow m with
      | none => exact .inr ⟨_, _, rfl, by decide⟩
      | some b =>
        have hl : s.length = m.length + k := by rw [hs]; simp
        have he := enc_dec stdRow rfl m.length m b (Nat.le_refl _) (all_of_first _ _ h1) (by omega) hd
        refine .inl ⟨b, rfl, ?_⟩
        have hb := enc_length stdRow b
        rw [he] at hb
        rw [he]
        have hf : fill b.length = List.replicate k 61 := by
          unfold fill
          congr 1
          have h3 : b.length % 3 = 0 ∨ b.length % 3 = 1 ∨ b.length % 3 = 2 := by omega
          rcases h3 with h3 | h3 | h3 <;> simp [h3] <;> omega
        rw [hf]
        exact hs.symm

end Go.Proofs.YtpfdaclmchcbiaaDoor.B64