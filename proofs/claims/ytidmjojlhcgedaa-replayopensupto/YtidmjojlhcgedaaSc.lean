import Derived.Test.YtidmjojlhcgedaaSb
namespace Go.Proofs.Ytidmjojlhcgedaa
open Go.RowKit Go.Maps
set_option maxRecDepth 100000

theorem infoE : (Try.prog.info? 47).map (fun i => (i.zero, i.size, i.bytes)) = some (some (.agg #[.string .empty, .int .i64 0]), 2, 24) := by kernel_rfl

def eC (p : En) : List Value := [.string ⟨p.1.toArray⟩, .int .i64 p.2]
def eCs (L : List En) : List Value := L.flatMap eC
theorem eCs_length (L : List En) : (eCs L).length = L.length * 2 := by
  induction L with
  | nil => rfl
  | cons p r ih => simp only [eCs, List.flatMap_cons, List.length_append, List.length_cons] at ih ⊢; rw [ih]; simp [eC]; omega
theorem eCs_get : ∀ (L : List En) (i : Nat), i < L.length → (eCs L)[i * 2]? = some (.string ⟨(L.getD i en0).1.toArray⟩) ∧ (eCs L)[i * 2 + 1]? = some (.int .i64 (L.getD i en0).2)
  | [], i, h => by simp at h
  | p :: r, 0, _ => by simp [eCs, eC]
  | p :: r, i + 1, h => by
    have ih := eCs_get r i (by simpa using h)
    have e : eCs (p :: r) = .string ⟨p.1.toArray⟩ :: .int .i64 p.2 :: eCs r := rfl
    rw [e, show (i + 1) * 2 = i * 2 + 1 + 1 by omega, List.getElem?_cons_succ, List.getElem?_cons_succ, List.getElem?_cons_succ, List.getElem?_cons_succ, List.getD_cons_succ]
    exact ih
/-- A list of names and ends of one's own. -/
def Oe (w : World) (base : Nat) (v : Value) (L : List En) : Prop := w.ownsRow base 47 2 v L.length (eCs L)
theorem Oe.nil (w : World) (base : Nat) : Oe w base (.slice none 0 0) [] := ⟨rfl, .inl ⟨rfl, rfl⟩⟩
theorem Oe.chf {f : Nat → Prop} {w w' : World} {base : Nat} {v : Value} {L : List En} (h : Oe w base v L) (hc : Chf f w w') (hf : ∀ g, v.ownBlock = some g → ¬ f g) : Oe w' base v L := by
  rcases h.2 with h0 | ⟨g, cap, cur, e, hg, hh, r⟩
  · exact ⟨h.1, .inl h0⟩
  · exact ⟨h.1, .inr ⟨g, cap, cur, e, hg, by rw [hc.block g (Array.getElem?_eq_some_iff.1 hh).1 (hf g (by rw [e]; rfl))]; exact hh, r⟩⟩
theorem Oe.below {w w' : World} {base n : Nat} {v : Value} {L : List En} (h : Oe w base v L) (hb : Below n w w') (hn : w.heap.size ≤ n) : Oe w' base v L :=
  h.chf (f := fun _ => False) ⟨hb.os, hb.tape, hb.output, hb.size, fun k hk _ => hb.block k (by omega)⟩ (fun _ _ h => h)
theorem Oe.drewN {w : World} {base : Nat} {v : Value} {L : List En} (h : Oe w base v L) (q : Nat) : Oe (w.drewN q) base v L := h
theorem Oe.rd {w : World} {base : Nat} {v : Value} {L : List En} (h : Oe w base v L) : ∃ ao c, v = .slice ao L.length c ∧ RdE w ao L := by
  rcases h.2 with ⟨rfl, h0⟩ | ⟨g, cap, cur, rfl, hg, hh, hn, hc, hsz, ht⟩
  · have : L = [] := List.eq_nil_of_length_eq_zero h0
    subst this
    exact ⟨none, 0, rfl, .inl rfl⟩
  · refine ⟨_, cap, rfl, .inr ⟨g, rfl, (World.ownsRow.lt h g rfl).2, fun i hi => ?_⟩⟩
    have hl := eCs_length L
    obtain ⟨e0, e1⟩ := eCs_get L i hi
    rw [World.ownsRow.cellAt h (i * 2) (by omega), World.ownsRow.cellAt h (i * 2 + 1) (by omega)]
    exact ⟨e0, e1⟩
theorem Oe.ne {w : World} {base bb mb : Nat} {b : Bk} {v : Value} {L : List En} (h : Oe w base v L) (hB : Bok w bb mb b) : ∀ g, v.ownBlock = some g → ¬ (g = bb ∨ g = mb) := by
  intro g hg
  rcases h.2 with ⟨rfl, _⟩ | ⟨g', cap, cur, rfl, _, hh, _⟩
  · cases hg
  · have e : g' = g := by simpa [Value.ownBlock] using hg
    subst e
    rintro (e | e)
    · subst e
      have h1 := hB.cells
      unfold Bl at h1
      rw [hh] at h1
      simp at h1
    · subst e
      obtain ⟨es, clock, h1, _⟩ := hB.own
      rw [hh] at h1
      simp at h1
/-- append of one. -/
theorem append_en {wr : World} {ops : Array Oper} {rest : List Oper} {o : Oper} {a : Act} {Q : Exit → Act → World → Prop} (hgd : o.guard = none) (s x : Operand)
    (ho : o.op = .call { callee := .builtin .append, args := #[s, x], argTypes := #[43, 43] })
    (B0 : Nat) (v : Value) (L : List En) (p : En) (hs : a.eval s = v) (hob : Oe wr B0 v L) (hx : a.eval x = .slice (some ⟨wr.heap.size, 0, none⟩) 1 1) (hl : L.length ≤ 1000000000) (hB : B0 ≤ wr.heap.size)
    (h : ∀ v' w', Oe w' B0 v' (L ++ [p]) → Chf (fun k => v.ownBlock = some k) wr w' → wpList Try.prog ops Q rest (a.put o.dst v') w') : wpList Try.prog ops Q (o :: rest) a (wr.alloc (.cells #[.string ⟨p.1.toArray⟩, .int .i64 p.2] 47)) := by
  obtain ⟨i, hi, hz, hsize, hby⟩ := info_parts infoE
  have hbl := alloc_bl wr (eC p) 47
  refine wpList_append_own_wide _ hgd s x 43 ho B0 47 i _ 2 24 Try.underlying43 hi hz hsize hby rfl (by decide) v L.length (eCs L) hs (hob.below (alloc_below wr _) (Nat.le_refl _)) ⟨wr.heap.size, 0, none⟩ 1 1 (eC p) hx rfl ?_ ?_ (by unfold maxLen; omega) (by omega) (by rw [World.size_alloc]; omega) ?_
  · intro j u hu
    have hj : j < (eC p).length := (List.getElem?_eq_some_iff.1 hu).1
    rw [Addr.add_lit, Nat.zero_add]
    have := hbl.cell j hj
    rw [List.getElem?_eq_getElem hj] at hu
    rw [← hu]
    exact this
  · intro u hu
    simp [eC] at hu
    rcases hu with rfl | rfl <;> rfl
  · intro v' w' h1 h2 _
    refine h v' w' ?_ ?_
    · unfold Oe
      rw [List.length_append, show eCs (L ++ [p]) = eCs L ++ eC p by simp [eCs]]
      exact h1
    · exact ((Chf.refl _ wr).alloc _).grown h2 (fun g hg => .inl hg)

end Go.Proofs.Ytidmjojlhcgedaa
