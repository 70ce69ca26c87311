import Derived.Test.YtidmjojlhcgedaaTm
import Derived.Test.YtidmjojlhcgedaaSe
namespace Go.Proofs.Ytidmjojlhcgedaa
open Go.RowKit Go.Maps
set_option maxRecDepth 100000

/-- Only rows of bytes have changed. -/
structure Cu (f : Nat → Prop) (w w' : World) : Prop where
  c : Chf f w w'
  t : ∀ k, f k → ∃ cs fr, w.heap[k]? = some (.cells cs 5 fr)
theorem Bl.cu {t : TypeId} {f : Nat → Prop} {w w' : World} {g : Nat} {cs : List Value} (h : Bl t w g cs) (hc : Cu f w w') (ht : t ≠ 5) : Bl t w' g cs :=
  h.chf hc.c (fun hf => by
    obtain ⟨cs', fr, e⟩ := hc.t g hf
    unfold Bl at h
    rw [h] at e
    simp at e
    exact ht e.2.1)
theorem own_cu {f : Nat → Prop} {w w' : World} {b0 n s : Nat} {e : TypeId} {v : Value} {xs : List Value} (h : w.ownsRow b0 e s v n xs) (hc : Cu f w w') (ht : e ≠ 5) : w'.ownsRow b0 e s v n xs :=
  own_chf h hc.c (fun g hg hf => by
    obtain ⟨cs', fr, e1⟩ := hc.t g hf
    rcases h.2 with ⟨rfl, _⟩ | ⟨g', cap, cur, rfl, _, hh, _⟩
    · cases hg
    · have e2 : g' = g := by simpa [Value.ownBlock] using hg
      subst e2
      rw [hh] at e1
      simp at e1
      exact ht e1.2.1)
theorem Bok.cu {f : Nat → Prop} {w w' : World} {bb mb : Nat} {b : Bk} (h : Bok w bb mb b) (hc : Cu f w w') : Bok w' bb mb b :=
  ⟨h.cells.cu hc (by decide), map_chf h.own hc.c (fun hf => by
    obtain ⟨cs', fr, e⟩ := hc.t mb hf
    obtain ⟨es, clock, e2, _⟩ := h.own
    rw [e2] at e
    cases e), h.ne⟩
theorem Mq.cu {f : Nat → Prop} {w w' : World} {B0 gm : Nat} {b : Bk} (h : Mq w B0 gm b) (hc : Cu f w w') : Mq w' B0 gm b := by
  obtain ⟨v, l, h1, h2⟩ := h
  exact ⟨v, l, ⟨h1.cells.cu hc (by decide), own_cu h1.own hc (by decide), h1.low⟩, h2⟩
theorem Owb.typ {w : World} {base : Nat} {v : Value} {xs : List UInt8} (h : Owb w base v xs) : ∀ g, v.ownBlock = some g → ∃ cs fr, w.heap[g]? = some (.cells cs 5 fr) := by
  intro g hg
  rcases h.2 with ⟨rfl, _⟩ | ⟨g', cap, cur, rfl, _, hh, _⟩
  · cases hg
  · have e : g' = g := by simpa [Value.ownBlock] using hg
    subst e
    exact ⟨_, _, hh⟩
/-- append of one byte, and where its row lies. -/
theorem append_bl {wr : World} {ops : Array Oper} {rest : List Oper} {o : Oper} {a : Act} {Q : Exit → Act → World → Prop} (hgd : o.guard = none) (s x : Operand)
    (ho : o.op = .call { callee := .builtin .append, args := #[s, x], argTypes := #[30, 30] })
    (B0 : Nat) (v : Value) (vs : List UInt8) (z : UInt8) (y : Int) (hy : y = (z.toNat : Int)) (n : Nat) (hn : vs.length = n) (hs : a.eval s = v) (hob : Owb wr B0 v vs) (hx : a.eval x = .slice (some ⟨wr.heap.size, 0, none⟩) 1 1) (hl : n ≤ 1000000000) (hB : B0 ≤ wr.heap.size)
    (h : ∀ g cap w', Owb w' B0 (.slice (some ⟨g, 0, none⟩) (n + 1) cap) (vs ++ [z]) → Cu (fun k => v.ownBlock = some k) wr w' → (v.ownBlock = some g ∨ wr.heap.size ≤ g) → g < w'.heap.size → wpList Try.prog ops Q rest (a.put o.dst (.slice (some ⟨g, 0, none⟩) (n + 1) cap)) w') : wpList Try.prog ops Q (o :: rest) a (wr.alloc (.cells #[.int .u8 y] 5)) := by
  subst hn hy
  obtain ⟨i, hi, hz, hsize, hby⟩ := info_parts infoB
  have hbl := alloc_bl wr (([z] : List UInt8).map B) 5
  have hb := alloc_below wr (.cells #[.int .u8 (z.toNat : Int)] 5)
  refine wpList_append_lies _ hgd s x 30 ho B0 5 i _ 1 1 Try.underlying30 hi hz hsize hby rfl (by decide) v vs.length (vs.map B) hs (hob.below hb (Nat.le_refl _)) ⟨wr.heap.size, 0, none⟩ 1 1 (([z] : List UInt8).map B) hx rfl ?_ (oneB [z]) (by decide) (by unfold maxLen; omega) (by omega) (by rw [World.size_alloc]; omega) _ rfl ?_
  · intro j u hu
    have hj : j < (([z] : List UInt8).map B).length := (List.getElem?_eq_some_iff.1 hu).1
    rw [Addr.add_lit, Nat.zero_add]
    have := hbl.cell j hj
    rw [List.getElem?_eq_getElem hj] at hu
    rw [← hu]
    exact this
  · intro g cap w' h1 h2 h3 h4
    refine h g cap w' ?_ ⟨((Chf.refl _ wr).alloc _).grown h2 (fun g hg => .inl hg), fun k hk => hob.typ k hk⟩ ?_ h4
    · unfold Owb
      rw [List.length_append, List.map_append]
      exact h1
    · rcases h3 with h3 | h3
      · exact .inl h3
      · right; rw [h3, World.size_alloc]; omega
theorem Owb.cell {w : World} {base g n c : Nat} {xs : List UInt8} (h : Owb w base (.slice (some ⟨g, 0, none⟩) n c) xs) {j : Nat} (hj : j < xs.length) : w.cell? ⟨g, j, none⟩ = some (.int .u8 ((xs.getD j 0).toNat : Int)) := by
  obtain ⟨ao, c', e, _, hr⟩ := h.nb
  cases e
  rcases hr with h0 | ⟨g', off, e, _, hc⟩
  · rw [h0] at hj; simp at hj
  · cases e
    have := hc j hj
    rw [Nat.zero_add] at this
    exact this
theorem Owb.room {w : World} {base g n c : Nat} {xs : List UInt8} (h : Owb w base (.slice (some ⟨g, 0, none⟩) n c) xs) : n ≤ c ∧ xs.length = n ∧ base ≤ g ∧ g < w.heap.size := by
  rcases h.2 with ⟨h0, _⟩ | ⟨g', cap, cur, e, hg, hh, hn, _⟩
  · cases h0
  · cases e
    have h1 := h.1
    have hc : xs.length ≤ c := hn
    have hx : xs.length = xs.length := rfl
    exact ⟨hc, hx, hg, (Array.getElem?_eq_some_iff.1 hh).1⟩
theorem Owb.frozen {w : World} {base g n c : Nat} {xs : List UInt8} (h : Owb w base (.slice (some ⟨g, 0, none⟩) n c) xs) (j : Nat) : w.frozen? ⟨g, j, none⟩ = false := by
  rcases h.2 with ⟨h0, _⟩ | ⟨g', cap, cur, e, hg, hh, hn, _⟩
  · cases h0
  · cases e
    have hB : Bl 5 w g cur.toList := by unfold Bl; simpa using hh
    exact hB.frozen j
theorem set_cu {w : World} {base g n c : Nat} {xs : List UInt8} (h : Owb w base (.slice (some ⟨g, 0, none⟩) n c) xs) (j : Nat) (v : Value) : Cu (fun k => k = g) w (w.setCell ⟨g, j, none⟩ v) :=
  ⟨Chf.set (f := fun k => k = g) (Chf.refl _ w) (.inl rfl) _, fun k hk => by rw [hk]; exact h.typ g rfl⟩

/-- The marks. -/
def marks : Nat → List UInt8
  | 0 => []
  | n + 1 => marks n ++ [UInt8.ofNat (100 + n)]
theorem marks_length : ∀ n, (marks n).length = n
  | 0 => rfl
  | n + 1 => by rw [marks, List.length_append, marks_length n]; rfl
theorem marks_get : ∀ n j, j < n → (marks n).getD j 0 = UInt8.ofNat (100 + j)
  | 0, j, h => by omega
  | n + 1, j, h => by
    rw [marks]
    by_cases hj : j < n
    · rw [List.getD_eq_getElem?_getD, List.getElem?_append_left (by rw [marks_length]; exact hj), ← List.getD_eq_getElem?_getD]
      exact marks_get n j hj
    · have : j = n := by omega
      subst this
      rw [List.getD_eq_getElem?_getD, List.getElem?_append_right (by rw [marks_length]; omega), marks_length, Nat.sub_self]
      rfl

end Go.Proofs.Ytidmjojlhcgedaa
