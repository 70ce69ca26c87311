import Derived.Test.YtkaoobdemaahbaaRd4
namespace Go.Proofs.Ytkaoobdemaahbaa
open Go.RowKit

/-- What has been read, and what comes of the rest. -/
def comb (i : Nat) (us : List E) (m : Nat) : Res → Res
  | .error (p, c) => .error (i + p, c)
  | .ok (vs, q) => .ok (us ++ vs, m + q)

theorem comb_step (i n : Nat) (us ts : List E) (m : Nat) (r : Res) :
    comb i us m (match r with | .error (p, c) => .error (n + p, c) | .ok (vs, q) => .ok (ts ++ vs, q + 1)) = comb (i + n) (us ++ ts) (m + 1) r := by
  match r with
  | .error (p, c) => simp only [comb]; rw [Nat.add_assoc]
  | .ok (vs, q) => simp only [comb]; rw [List.append_assoc]; congr 2; omega

theorem els_len {P : List E → List UInt8 → Prop} (hP : ∀ ts bs, P ts bs → ts.length ≤ bs.length) {n : Nat} {ts : List E} {bs : List UInt8} (h : Els P n ts bs) : ts.length ≤ bs.length := by
  induction h with
  | nil => exact Nat.le_refl _
  | cons h1 h2 ih => have := hP _ _ h1; simp only [List.length_append]; omega
theorem El_len : ∀ (d : Nat) (ts : List E) (bs : List UInt8), El d ts bs → ts.length ≤ bs.length := by
  intro d
  induction d with
  | zero =>
    rintro ts bs ⟨t, rfl, _, _, rfl⟩
    have := (hd_length t.tag t.data.length).1
    simp only [List.length_append, List.length_cons, List.length_nil]; omega
  | succ d ih =>
    rintro ts bs (⟨t, rfl, _, _, rfl⟩ | ⟨t, q, body, rfl, _, _, rfl, hk⟩)
    · have := (hd_length t.tag t.data.length).1
      simp only [List.length_append, List.length_cons, List.length_nil]; omega
    · have h1 := els_len ih hk
      have := (hd_length t.tag body.length).1
      simp only [List.length_append, List.length_cons]; omega
theorem pe_count {d : Nat} {l : List UInt8} {ts : List E} {n : Nat} (hl : l.length ≤ 65536) (h : pe d l = .ok (ts, n)) : ts.length ≤ n ∧ n ≤ l.length ∧ 0 < n := by
  obtain ⟨h1, h2, h3⟩ := pe_sound d l ts n hl h
  have := El_len _ _ _ h3
  rw [List.length_take] at this
  omega

theorem own_some {w : World} {base n size : Nat} {e : TypeId} {v : Value} {xs : List Value} (h : w.ownsRow base e size v n xs) (hn : 0 < n) : ∃ g c, v = .slice (some ⟨g, 0, none⟩) n c ∧ n ≤ c ∧ c ≤ 9223372036854775807 := by
  rcases h.2 with ⟨h', h0⟩ | ⟨g, cap, cur, h', _, _, h1, h2, _⟩
  · omega
  · exact ⟨_, _, h', h1, by unfold maxLen at h2; omega⟩

theorem es_append (xs ys : List X) : es (xs ++ ys) = es xs ++ es ys := by simp [es]

end Go.Proofs.Ytkaoobdemaahbaa
