import Derived.Test.YtkaoobdemaahbaaStd
namespace Go.Proofs.Ytkaoobdemaahbaa
open Go.RowKit

theorem parse_err {l : List UInt8} (h : (parse l).2.1 ≠ 0) : (parse l).1 = [] ∧ ((parse l).2.1 = 80 ∨ (parse l).2.1 = 11 ∨ ((parse l).2.1 = 10 ∧ 65536 < l.length)) ∧ (parse l).2.2 ≤ l.length := by
  unfold parse at *
  split
  · rename_i hl
    exact ⟨rfl, .inr (.inr ⟨rfl, hl⟩), Nat.zero_le _⟩
  · rename_i hl
    rw [if_neg hl] at h
    generalize hr : pe 32 l = r at *
    match r, hr with
    | .error (p, c), hr =>
      have h1 := pe_code _ _ _ _ hr
      have h2 := pe_err _ _ _ _ (by omega) hr
      exact ⟨rfl, by rcases h1 with h1 | h1 <;> simp [h1], h2⟩
    | .ok (ts, n), hr =>
      simp only at h ⊢
      split at h
      · rename_i hn
        rw [if_pos hn]
        exact ⟨rfl, .inl rfl, by show n ≤ l.length; omega⟩
      · exact absurd rfl h

theorem parse_good {l : List UInt8} (h : (parse l).2.1 = 0) : El 32 (parse l).1 l ∧ (parse l).2.2 = 0 ∧ l.length ≤ 65536 ∧ pe 32 l = .ok ((parse l).1, l.length) := by
  have h2 : parse l = ((parse l).1, 0, (parse l).2.2) := by rw [← h]
  have := parse_ok h2
  exact ⟨this.1, this.2.1, this.2.2.1, this.2.2.2.2⟩

theorem tot_El {d : Nat} {v : List E} {bs : List UInt8} (h : El d v bs) (hl : bs.length ≤ 65536) : tot v < 16777216 := by
  have h1 : ∀ (d : Nat) (ts : List E) (bs : List UInt8), El d ts bs → tot ts ≤ 10 * bs.length := by
    have e0 : ∀ ts us : List E, tot (ts ++ us) = tot ts + tot us := fun ts us => by
      induction ts with
      | nil => simp [tot]
      | cons t r ih => simp only [List.cons_append, tot, ih]; omega
    have e1 : ∀ {P : List E → List UInt8 → Prop}, (∀ ts bs, P ts bs → tot ts ≤ 10 * bs.length) → ∀ {n ts bs}, Els P n ts bs → tot ts ≤ 10 * bs.length := by
      intro P hP n ts bs h
      induction h with
      | nil => simp [tot]
      | cons h1 h2 ih => have := hP _ _ h1; rw [e0, List.length_append]; omega
    intro d
    induction d with
    | zero =>
      rintro ts bs ⟨t, rfl, _, _, rfl⟩
      have := (hd_length t.tag t.data.length).1
      simp only [tot, List.length_append]; omega
    | succ d ih =>
      rintro ts bs (⟨t, rfl, _, _, rfl⟩ | ⟨t, q, body, rfl, hs, hc, rfl, hk⟩)
      · have := (hd_length t.tag t.data.length).1
        simp only [tot, List.length_append]; omega
      · have h1 := e1 ih hk
        have := (hd_length t.tag body.length).1
        have h0 := (data_con hs hc).1
        simp only [tot, List.length_append, h0, List.length_nil]; omega
  have := h1 _ _ _ h
  omega

end Go.Proofs.Ytkaoobdemaahbaa
