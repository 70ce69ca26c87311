import Derived.Test.YtkaoobdemaahbaaWd2
namespace Go.Proofs.Ytkaoobdemaahbaa
open Go.RowKit

/-- Sound is right by itself, and of no fewer than none. -/
theorem sound_alone (t : E) : sound t = (aloneR t && decide (0 ≤ t.kids)) := by
  obtain ⟨tg, l, k⟩ := t
  cases hc : con tg with
  | false =>
    by_cases hk : k = 0
    · subst hk
      rw [sound_doc tg l hc]
      unfold aloneR
      simp [hc]
    · have e1 : sound ⟨tg, l, k⟩ = false := by unfold sound; simp [hc, hk]
      have e2 : aloneR ⟨tg, l, k⟩ = false := by unfold aloneR; simp [hc, hk]
      rw [e1, e2]; rfl
  | true =>
    have h1 : tg ≠ 1 := fun e => by rw [e] at hc; simp [con] at hc
    have h2 : tg ≠ 2 := fun e => by rw [e] at hc; simp [con] at hc
    have h3 : tg ≠ 3 := fun e => by rw [e] at hc; simp [con] at hc
    have h5 : tg ≠ 5 := fun e => by rw [e] at hc; simp [con] at hc
    have h6 : tg ≠ 6 := fun e => by rw [e] at hc; simp [con] at hc
    unfold sound aloneR tagR right
    simp only [hc, if_true, if_neg h1, if_neg h2, if_neg h3, if_neg h5, if_neg h6, Bool.and_assoc]

theorem bh_rb (N : Nat) : ∀ (d : Nat) (l r : List E), l.length ≤ N → bh d l = some r → rb N 1 l = some r ∧ dpV N d l = true ∧ ∃ p, l = p ++ r ∧ 1 ≤ p.length ∧ ∀ t ∈ p, aloneR t = true := by
  have kid : ∀ t : E, sound t = true → aloneR t = true ∧ 0 ≤ t.kids := fun t h => by
    rw [sound_alone] at h; simpa using h
  intro d
  induction d with
  | zero =>
    intro l r hl h
    cases l with
    | nil => cases h
    | cons t q =>
      simp only [bh] at h
      by_cases hs : (sound t && !con t.tag) = true
      · rw [if_pos hs] at h
        injection h with h
        subst h
        simp only [Bool.and_eq_true, Bool.not_eq_true'] at hs
        obtain ⟨ha, h0⟩ := kid t hs.1
        have hk := aloneR_prim ha hs.2
        refine ⟨?_, ?_, [t], rfl, Nat.le_refl _, fun x hx => ?_⟩
        · rw [rb_cons, if_neg (by omega), hk]; exact rb_zero N q
        · show (!con t.tag) = true; rw [hs.2]; rfl
        · rw [List.mem_singleton.1 hx]; exact ha
      · rw [if_neg hs] at h; cases h
  | succ d ih =>
    have many : ∀ (n : Nat) (l r : List E), l.length ≤ N → bks (bh d) n l = some r → rb N n l = some r ∧ dks N (dpV N d) n l = true ∧ ∃ p, l = p ++ r ∧ n ≤ p.length ∧ ∀ t ∈ p, aloneR t = true := by
      intro n
      induction n with
      | zero =>
        intro l r _ h
        injection h with h
        exact ⟨by rw [rb_zero, h], rfl, [], by rw [h]; rfl, Nat.le_refl _, fun t ht => by cases ht⟩
      | succ n ihn =>
        intro l r hl h
        unfold bks at h
        cases hq : bh d l with
        | none => rw [hq] at h; cases h
        | some q =>
          rw [hq] at h
          obtain ⟨a1, a2, p, a3, a4, a5⟩ := ih l q hl hq
          obtain ⟨b1, b2, p', b3, b4, b5⟩ := ihn q r (by rw [a3, List.length_append] at hl; omega) h
          refine ⟨?_, ?_, p ++ p', by rw [a3, b3, List.append_assoc], by rw [List.length_append]; omega, fun t ht => ?_⟩
          · rw [Nat.add_comm, rb_add, a1]; exact b1
          · unfold dks; rw [a2, a1]; exact b2
          · rcases List.mem_append.1 ht with ht | ht
            · exact a5 t ht
            · exact b5 t ht
    intro l r hl h
    cases l with
    | nil => cases h
    | cons t q =>
      simp only [bh] at h
      by_cases hs : sound t = true
      · rw [if_pos hs] at h
        obtain ⟨ha, h0⟩ := kid t hs
        rw [List.length_cons] at hl
        obtain ⟨b1, b2, p, b3, b4, b5⟩ := many _ q r (by omega) h
        have hkl : t.kids.toNat ≤ q.length := by rw [b3, List.length_append]; omega
        refine ⟨?_, b2, t :: p, by rw [b3]; rfl, by simp, fun x hx => ?_⟩
        · rw [rb_cons, if_neg (by omega), Nat.zero_add]; exact b1
        · rcases List.mem_cons.1 hx with rfl | hx
          · exact ha
          · exact b5 x hx
      · rw [if_neg hs] at h; cases h

theorem rb_bh (N : Nat) : ∀ (d : Nat) (l r : List E), (∀ t ∈ l, aloneR t = true) → rb N 1 l = some r → dpV N d l = true → bh d l = some r := by
  intro d
  induction d with
  | zero =>
    intro l r ha h hd
    obtain ⟨t, q, rfl, k1, k2, h3⟩ := rb_one h
    have hat := ha t (by simp)
    have hc : con t.tag = false := by simpa [dpV] using hd
    have hk := aloneR_prim hat hc
    rw [hk] at h3
    rw [show (0 : Int).toNat = 0 from rfl, rb_zero] at h3
    have hs : sound t = true := by rw [sound_alone, hat, decide_eq_true k1]; rfl
    simp only [bh, hs, hc]
    exact h3
  | succ d ih =>
    have many : ∀ (n : Nat) (l r : List E), (∀ t ∈ l, aloneR t = true) → rb N n l = some r → dks N (dpV N d) n l = true → bks (bh d) n l = some r := by
      intro n
      induction n with
      | zero => intro l r _ h _; rw [rb_zero] at h; exact h
      | succ n ihn =>
        intro l r ha h hd
        obtain ⟨q, h1, h2⟩ := rb_succ h
        unfold dks at hd
        rw [h1] at hd
        simp only [Bool.and_eq_true] at hd
        have hb := ih l q ha h1 hd.1
        obtain ⟨k, _, hk, _⟩ := rb_drop N l 1 q h1
        unfold bks
        rw [hb]
        exact ihn q r (fun t ht => ha t (by rw [hk] at ht; exact List.mem_of_mem_drop ht)) h2 hd.2
    intro l r ha h hd
    obtain ⟨t, q, rfl, k1, k2, h3⟩ := rb_one h
    have hat := ha t (by simp)
    have hs : sound t = true := by rw [sound_alone, hat, decide_eq_true k1]; rfl
    simp only [bh, hs, if_true]
    exact many _ q r (fun x hx => ha x (List.mem_cons_of_mem _ hx)) h3 hd

/-- The document's Shaped is the program's. -/
theorem shaped_doc (v : List E) : shaped v = (decide (v ≠ []) && (decide (rb v.length 1 v = some []) && (v.all aloneR && dpV v.length 32 v))) := by
  rw [Bool.eq_iff_iff]
  unfold shaped
  rw [beq_iff_eq]
  simp only [Bool.and_eq_true, decide_eq_true_eq, List.all_eq_true]
  constructor
  · intro h
    obtain ⟨a1, a2, p, a3, _, a5⟩ := bh_rb v.length 32 v [] (Nat.le_refl _) h
    refine ⟨fun e => ?_, a1, fun t ht => a5 t ?_, a2⟩
    · rw [e] at h; cases h
    · rw [a3, List.append_nil] at ht; exact ht
  · rintro ⟨_, h2, h3, h4⟩
    exact rb_bh v.length 32 v [] h3 h2 h4

end Go.Proofs.Ytkaoobdemaahbaa
