import Derived.Test.YtccfcplhifbjlaaGreatDoorSg
import Derived.Test.YtccfcplhifbjlaaGreatDoorB6Back1
namespace Go.Proofs.YtccfcplhifbjlaaGreatDoor
open Go.RowKit
set_option maxRecDepth 100000

theorem enc_nodot (l : List UInt8) : (B64.enc B64.urlRow l).count 46 = 0 := by
  have h := B64.decU_enc l
  have hn : ¬ B64.firstNo B64.urlRow (B64.enc B64.urlRow l) < (B64.enc B64.urlRow l).length := fun e => by
    unfold B64.decU at h
    rw [if_pos e] at h
    cases h
  have ha := B64.all_of_first B64.urlRow _ hn
  refine List.count_eq_zero.2 fun hm => ?_
  exact absurd (ha 46 hm) (by decide +kernel)

/-- A token that is decoded is that of its parts. -/
theorem cm_dc {t a b c : List UInt8} (h : dcF t = ((a, b, c), 0)) : cmF a b c = (t, 0) := by
  have hs0 : (splF t).2 = 0 := by
    unfold dcF at h
    by_cases e : (splF t).2 = 0
    · exact e
    · rw [if_pos e] at h
      simp only [Prod.mk.injEq] at h
      exact absurd h.2 e
  have hl : ¬ 65536 < t.length := fun e => by rw [splF_large e] at hs0; cases hs0
  have h2 : t.count 46 = 2 := by
    by_cases e : t.count 46 = 2
    · exact e
    · rw [splF_dots (by omega) e] at hs0; cases hs0
  obtain ⟨x, y, z, rfl, hx, hy, hz⟩ := three h2
  have hs := splF_ok (by omega) hx hy hz
  unfold dcF at h
  rw [hs] at h
  simp only at h
  rw [if_neg (by simp)] at h
  by_cases ex : dcN x = 0
  · rw [if_neg (by simpa using ex)] at h
    by_cases ey : dcN y = 0
    · rw [if_neg (by simpa using ey)] at h
      by_cases ez : dcN z = 0
      · rw [if_neg (by simpa using ez)] at h
        simp only [Prod.mk.injEq] at h
        obtain ⟨⟨rfl, rfl, rfl⟩, _⟩ := h
        have key : ∀ l, dcN l = 0 → B64.enc B64.urlRow (dbF l) = l := fun l e => by
          rcases B64.decU_cases l with ⟨b, h1, h2⟩ | ⟨m, n, h1, h2, _⟩
          · unfold dbF
            rw [h1]
            exact h2
          · have := decU_code l
            rw [e, h1] at this
            exact absurd this h2
        have hlen := cmF_len (dbF x) (dbF y) (dbF z)
        rw [key x ex, key y ey, key z ez] at hlen
        unfold cmF
        rw [if_neg (by rw [← hlen]; simp at hl ⊢; omega), key x ex, key y ey, key z ez]
        simp
      · rw [if_pos ez] at h
        simp only [Prod.mk.injEq] at h
        exact absurd h.2 ez
    · rw [if_pos ey] at h
      simp only [Prod.mk.injEq] at h
      exact absurd h.2 ey
  · rw [if_pos ex] at h
    simp only [Prod.mk.injEq] at h
    exact absurd h.2 ex

/-- What is made of parts is decoded to them. -/
theorem dc_cm {t a b c : List UInt8} (h : cmF a b c = (t, 0)) : dcF t = ((a, b, c), 0) ∧ t.length ≤ 65536 := by
  unfold cmF at h
  by_cases hq : 65536 < sgN a + 1 + sgN b + 1 + sgN c
  · rw [if_pos hq] at h
    simp at h
  · rw [if_neg hq] at h
    simp only [Prod.mk.injEq, and_true] at h
    have hlen := cmF_len a b c
    rw [h] at hlen
    have e : t = B64.enc B64.urlRow a ++ 46 :: (B64.enc B64.urlRow b ++ 46 :: B64.enc B64.urlRow c) := by rw [← h]; simp
    have hl : t.length ≤ 65536 := by omega
    refine ⟨?_, hl⟩
    have hs : splF t = ((B64.enc B64.urlRow a, B64.enc B64.urlRow b, B64.enc B64.urlRow c), 0) := by
      rw [e]
      exact splF_ok (by rw [← e]; exact hl) (enc_nodot a) (enc_nodot b) (enc_nodot c)
    have k0 : ∀ l, dcN (B64.enc B64.urlRow l) = 0 := fun l => by unfold dcN; rw [B64.decU_enc]; rfl
    have k1 : ∀ l, dbF (B64.enc B64.urlRow l) = l := fun l => by unfold dbF; rw [B64.decU_enc]; rfl
    unfold dcF
    rw [hs]
    simp only [k0, k1]
    rfl

/-- The code of a token that is not decoded. -/
theorem dc_no {t : List UInt8} (h : (dcF t).2 ≠ 0) : ∃ n, dcF t = (([], [], []), n) ∧ (n = 10 ∨ n = 20 ∨ n = 21 ∨ n = 22 ∨ n = 120) := by
  unfold dcF at *
  by_cases e : (splF t).2 = 0
  · rw [if_neg (by simpa using e)] at h ⊢
    by_cases e1 : dcN (splF t).1.1 = 0
    · rw [if_neg (by simpa using e1)] at h ⊢
      by_cases e2 : dcN (splF t).1.2.1 = 0
      · rw [if_neg (by simpa using e2)] at h ⊢
        by_cases e3 : dcN (splF t).1.2.2 = 0
        · rw [if_neg (by simpa using e3)] at h
          exact absurd rfl h
        · rw [if_pos e3]
          exact ⟨_, rfl, by have := dc_le (splF t).1.2.2; omega⟩
      · rw [if_pos e2]
        exact ⟨_, rfl, by have := dc_le (splF t).1.2.1; omega⟩
    · rw [if_pos e1]
      exact ⟨_, rfl, by have := dc_le (splF t).1.1; omega⟩
  · rw [if_pos e]
    refine ⟨_, rfl, ?_⟩
    by_cases h1 : 65536 < t.length
    · rw [splF_large h1]; simp
    · by_cases h2 : t.count 46 = 2
      · obtain ⟨x, y, z, rfl, hx, hy, hz⟩ := three h2
        rw [splF_ok (by omega) hx hy hz] at e
        exact absurd rfl e
      · rw [splF_dots (by omega) h2]; simp

theorem cm_large {h p s : List UInt8} (hq : 65536 < sgN h + 1 + sgN p + 1 + sgN s) : ((h.length : Int) + p.length + s.length) * 4 / 3 > 65528 := by
  unfold sgN at hq
  omega
theorem db_le (t : List UInt8) : (dcF t).1.1.length ≤ 65536 ∧ (dcF t).1.2.1.length ≤ 65536 ∧ (dcF t).1.2.2.length ≤ 65536 := by
  have key : ∀ l : List UInt8, l.length ≤ 65536 → (dbF l).length ≤ 65536 := fun l hl => by
    unfold dbF
    rcases B64.decU_cases l with ⟨b, e, he⟩ | ⟨x, y, e, _⟩
    · rw [e]
      have h := B64.enc_length B64.urlRow b
      rw [he] at h
      show b.length ≤ _
      omega
    · rw [e]
      show 0 ≤ _
      omega
  obtain ⟨l1, l2, l3⟩ := splF_len t
  unfold dcF
  split
  · simp
  · split
    · simp
    · split
      · simp
      · split
        · simp
        · exact ⟨key _ l1, key _ l2, key _ l3⟩

end Go.Proofs.YtccfcplhifbjlaaGreatDoor
