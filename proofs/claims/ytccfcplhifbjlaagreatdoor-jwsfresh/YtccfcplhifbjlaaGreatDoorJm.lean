import Derived.Test.YtccfcplhifbjlaaGreatDoorLt
import Derived.Test.YtccfcplhifbjlaaGreatDoorB6Facts
namespace Go.Proofs.YtccfcplhifbjlaaGreatDoor
open Go.RowKit
set_option maxRecDepth 100000

/-- The places of the dots of a text, counted from i on. -/
def pos : Nat → List UInt8 → List Nat
  | _, [] => []
  | i, x :: r => if x = 46 then i :: pos (i + 1) r else pos (i + 1) r
theorem pos_append (m : List UInt8) : ∀ (l : List UInt8) (i : Nat), pos i (l ++ m) = pos i l ++ pos (i + l.length) m
  | [], i => by simp [pos]
  | x :: r, i => by
    rw [List.cons_append, pos, pos, pos_append m r (i + 1), List.length_cons, show i + 1 + r.length = i + (r.length + 1) by omega]
    split <;> rfl
theorem pos_length : ∀ (l : List UInt8) (i : Nat), (pos i l).length = l.count 46
  | [], _ => rfl
  | x :: r, i => by
    rw [pos, List.count_cons]
    by_cases h : x = 46
    · rw [if_pos h, List.length_cons, pos_length r]; simp [h]
    · rw [if_neg h, pos_length r]; simp [h]
theorem pos_none {l : List UInt8} (i : Nat) (h : l.count 46 = 0) : pos i l = [] := List.eq_nil_of_length_eq_zero (by rw [pos_length]; exact h)
theorem pos_bound : ∀ (l : List UInt8) (i j : Nat), j ∈ pos i l → j < i + l.length
  | [], _, _, h => by simp [pos] at h
  | x :: r, i, j, h => by
    rw [pos] at h
    rw [List.length_cons]
    split at h
    · rcases List.mem_cons.1 h with h | h
      · omega
      · have := pos_bound r (i + 1) j h; omega
    · have := pos_bound r (i + 1) j h; omega
theorem pos_two (a b c : List UInt8) (ha : a.count 46 = 0) (hb : b.count 46 = 0) (hc : c.count 46 = 0) : pos 0 (a ++ 46 :: (b ++ 46 :: c)) = [a.length, a.length + 1 + b.length] := by
  rw [pos_append, pos_none 0 ha, pos, if_pos rfl, pos_append, pos_none _ hb, pos, if_pos rfl, pos_none _ hc]
  simp
theorem first_dot : ∀ (l : List UInt8), 0 < l.count 46 → ∃ a b, l = a ++ 46 :: b ∧ a.count 46 = 0 ∧ b.count 46 + 1 = l.count 46
  | [], h => by simp at h
  | x :: r, h => by
    by_cases hx : x = 46
    · subst hx
      exact ⟨[], r, rfl, rfl, by simp⟩
    · have h2 : (x :: r).count 46 = r.count 46 := by rw [List.count_cons]; simp [hx]
      rw [h2] at h ⊢
      obtain ⟨a, b, e, h3, h4⟩ := first_dot r h
      exact ⟨x :: a, b, by rw [e]; rfl, by rw [List.count_cons]; simp [hx, h3], h4⟩
theorem three {t : List UInt8} (h : t.count 46 = 2) : ∃ a b c, t = a ++ 46 :: (b ++ 46 :: c) ∧ a.count 46 = 0 ∧ b.count 46 = 0 ∧ c.count 46 = 0 := by
  obtain ⟨a, r, rfl, ha, hr⟩ := first_dot t (by omega)
  obtain ⟨b, c, rfl, hb, hc⟩ := first_dot r (by omega)
  exact ⟨a, b, c, rfl, ha, hb, by omega⟩

/-- What is ahead of the first dot, what behind it. -/
def hdD : List UInt8 → List UInt8
  | [] => []
  | x :: r => if x = 46 then [] else x :: hdD r
def tlD : List UInt8 → List UInt8
  | [] => []
  | x :: r => if x = 46 then r else tlD r
theorem hdD_app (b : List UInt8) : ∀ (a : List UInt8), a.count 46 = 0 → hdD (a ++ 46 :: b) = a
  | [], _ => by simp [hdD]
  | x :: r, h => by
    have hx : x ≠ 46 := fun e => by rw [e] at h; simp at h
    rw [List.count_cons] at h
    rw [List.cons_append, hdD, if_neg hx, hdD_app b r (by omega)]
theorem tlD_app (b : List UInt8) : ∀ (a : List UInt8), a.count 46 = 0 → tlD (a ++ 46 :: b) = b
  | [], _ => by simp [tlD]
  | x :: r, h => by
    have hx : x ≠ 46 := fun e => by rw [e] at h; simp at h
    rw [List.count_cons] at h
    rw [List.cons_append, tlD, if_neg hx, tlD_app b r (by omega)]

/-- A token's three texts, and the code. -/
def splF (t : List UInt8) : (List UInt8 × List UInt8 × List UInt8) × Nat :=
  if 65536 < t.length then (([], [], []), 10) else if t.count 46 = 2 then ((hdD t, hdD (tlD t), tlD (tlD t)), 0) else (([], [], []), 120)
theorem splF_ok {a b c : List UInt8} (hl : (a ++ 46 :: (b ++ 46 :: c)).length ≤ 65536) (ha : a.count 46 = 0) (hb : b.count 46 = 0) (hc : c.count 46 = 0) : splF (a ++ 46 :: (b ++ 46 :: c)) = ((a, b, c), 0) := by
  unfold splF
  rw [if_neg (by omega), if_pos (by simp [ha, hb, hc]), hdD_app _ a ha, tlD_app _ a ha, hdD_app _ b hb, tlD_app _ b hb]
theorem splF_dots {t : List UInt8} (hl : t.length ≤ 65536) (h : t.count 46 ≠ 2) : splF t = (([], [], []), 120) := by
  unfold splF
  rw [if_neg (by omega), if_neg h]
theorem splF_large {t : List UInt8} (hl : 65536 < t.length) : splF t = (([], [], []), 10) := by
  unfold splF
  rw [if_pos hl]
theorem splF_len (t : List UInt8) : (splF t).1.1.length ≤ 65536 ∧ (splF t).1.2.1.length ≤ 65536 ∧ (splF t).1.2.2.length ≤ 65536 := by
  by_cases h1 : 65536 < t.length
  · rw [splF_large h1]; simp
  · by_cases h2 : t.count 46 = 2
    · obtain ⟨a, b, c, rfl, ha, hb, hc⟩ := three h2
      rw [splF_ok (by omega) ha hb hc]
      simp at h1 ⊢
      omega
    · rw [splF_dots (by omega) h2]; simp

/-- The bytes of a text's decoding, none where it has none. -/
def dbF (l : List UInt8) : List UInt8 := (B64.decU l).1.getD []
def dcN (l : List UInt8) : Nat := (B64.decU l).2.1.toNat
theorem decU_cases (l : List UInt8) : ((B64.decU l).1.isSome ∧ (B64.decU l).2.1 = 0) ∨ ((B64.decU l).1 = none ∧ ((B64.decU l).2.1 = 20 ∨ (B64.decU l).2.1 = 21 ∨ (B64.decU l).2.1 = 22)) := by
  unfold B64.decU
  split
  · exact .inr ⟨rfl, .inl rfl⟩
  · split
    · exact .inr ⟨rfl, .inr (.inl rfl)⟩
    · split
      · exact .inl ⟨rfl, rfl⟩
      · exact .inr ⟨rfl, .inr (.inr rfl)⟩
theorem decU_code (l : List UInt8) : (B64.decU l).2.1 = (dcN l : Int) := by
  unfold dcN
  rcases decU_cases l with ⟨_, h⟩ | ⟨_, h | h | h⟩ <;> rw [h] <;> rfl
theorem dc_le (l : List UInt8) : dcN l = 0 ∨ dcN l = 20 ∨ dcN l = 21 ∨ dcN l = 22 := by
  unfold dcN
  rcases decU_cases l with ⟨_, h⟩ | ⟨_, h | h | h⟩ <;> rw [h] <;> decide
/-- A token's three parts, and the code. -/
def dcF (t : List UInt8) : (List UInt8 × List UInt8 × List UInt8) × Nat :=
  if (splF t).2 ≠ 0 then (([], [], []), (splF t).2)
  else if dcN (splF t).1.1 ≠ 0 then (([], [], []), dcN (splF t).1.1)
  else if dcN (splF t).1.2.1 ≠ 0 then (([], [], []), dcN (splF t).1.2.1)
  else if dcN (splF t).1.2.2 ≠ 0 then (([], [], []), dcN (splF t).1.2.2)
  else ((dbF (splF t).1.1, dbF (splF t).1.2.1, dbF (splF t).1.2.2), 0)

/-- How many signs the bytes are spelled with. -/
def sgN (l : List UInt8) : Nat := (8 * l.length + 5) / 6
theorem enc_sgN (l : List UInt8) : (B64.enc B64.urlRow l).length = sgN l := by
  have := B64.enc_length B64.urlRow l
  unfold sgN
  omega
/-- The token of three parts, and the code. -/
def cmF (h p s : List UInt8) : List UInt8 × Nat :=
  if 65536 < sgN h + 1 + sgN p + 1 + sgN s then ([], 10) else (B64.enc B64.urlRow h ++ [46] ++ B64.enc B64.urlRow p ++ [46] ++ B64.enc B64.urlRow s, 0)

theorem owb_rd {w : World} {B0 : Nat} {a : Option Addr} {n c : Nat} {l : List UInt8} (h : Owb w B0 (.slice a n c) l) : Rd w a l := by
  obtain ⟨a', c', e, _, hr⟩ := h.nb
  injection e with e1 e2 e3
  subst e1
  exact hr
/-- An answer of bytes as a row of one's own. -/
theorem ans_own {w : World} {B0 : Nat} {v : Value} {o : Option (List UInt8)} (h : B64.Ans w B0 v o) : Owb w B0 v (o.getD []) := by
  cases o with
  | none => rw [show v = .slice none 0 0 from h]; exact Owb.nil _ _
  | some bs => obtain ⟨g, cap, _, _, h2⟩ := h; exact h2
theorem rd_b64 {w : World} {ao : Option Addr} {l : List UInt8} (h : Rd w ao l) : B64.Rd w ao l := h

end Go.Proofs.YtccfcplhifbjlaaGreatDoor
