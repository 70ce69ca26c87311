import Derived.Test.YtidmjojlhcgedaaTd
import Derived.Test.YtidmjojlhcgedaaSc
import Derived.Deep.MidRow
namespace Go.Proofs.Ytidmjojlhcgedaa
open Go.RowKit Go.Maps
set_option maxRecDepth 100000

/-! ### the document's lists of names -/
theorem infoQ : (Try.prog.info? 78).map (fun i => (i.zero, i.size, i.bytes)) = some (some (.agg #[.string .empty, .int .i64 0]), 2, 24) := by kernel_rfl
/-- A list of the document's entries of one's own. -/
def Oq (w : World) (base : Nat) (v : Value) (L : List En) : Prop := w.ownsRow base 78 2 v L.length (eCs L)
theorem Oq.nil (w : World) (base : Nat) : Oq w base (.slice none 0 0) [] := ⟨rfl, .inl ⟨rfl, rfl⟩⟩
theorem Oq.base {w : World} {base base' : Nat} {v : Value} {L : List En} (h : Oq w base v L) (hb : base' ≤ base) : Oq w base' v L := by
  rcases h.2 with h0 | ⟨g, cap, cur, e, hg, r⟩
  · exact ⟨h.1, .inl h0⟩
  · exact ⟨h.1, .inr ⟨g, cap, cur, e, Nat.le_trans hb hg, r⟩⟩
theorem Oq.chf {f : Nat → Prop} {w w' : World} {base : Nat} {v : Value} {L : List En} (h : Oq w base v L) (hc : Chf f w w') (hf : ∀ g, v.ownBlock = some g → ¬ f g) : Oq w' base v L := own_chf h hc hf
theorem Oq.below {w w' : World} {base n : Nat} {v : Value} {L : List En} (h : Oq w base v L) (hb : Below n w w') (hn : w.heap.size ≤ n) : Oq w' base v L :=
  h.chf (f := fun _ => False) ⟨hb.os, hb.tape, hb.output, hb.size, fun k hk _ => hb.block k (by omega)⟩ (fun _ _ h => h)
theorem Oq.drewN {w : World} {base : Nat} {v : Value} {L : List En} (h : Oq w base v L) (q : Nat) : Oq (w.drewN q) base v L := h
theorem Oq.low {w : World} {base : Nat} {v : Value} {L : List En} (h : Oq w base v L) : ∀ g, v.ownBlock = some g → base ≤ g := by
  intro g hg
  rcases h.2 with ⟨rfl, _⟩ | ⟨g', cap, cur, rfl, hg', _⟩
  · cases hg
  · have e : g' = g := by simpa [Value.ownBlock] using hg
    omega
theorem Oq.lt {w : World} {base : Nat} {v : Value} {L : List En} (h : Oq w base v L) : ∀ g, v.ownBlock = some g → g < w.heap.size := fun g hg => (World.ownsRow.lt h g hg).2
theorem Oq.rd {w : World} {base : Nat} {v : Value} {L : List En} (h : Oq w base v L) : ∃ ao c, v = .slice ao L.length c ∧ RdE w ao L := by
  rcases h.2 with ⟨rfl, h0⟩ | ⟨g, cap, cur, rfl, hg, hh, hn, hc, hsz, ht⟩
  · have : L = [] := List.eq_nil_of_length_eq_zero h0
    subst this
    exact ⟨none, 0, rfl, .inl rfl⟩
  · refine ⟨_, cap, rfl, .inr ⟨g, rfl, (World.ownsRow.lt h g rfl).2, fun i hi => ?_⟩⟩
    have hl := eCs_length L
    obtain ⟨e0, e1⟩ := eCs_get L i hi
    rw [World.ownsRow.cellAt h (i * 2) (by omega), World.ownsRow.cellAt h (i * 2 + 1) (by omega)]
    exact ⟨e0, e1⟩
theorem Oq.typ {w : World} {base : Nat} {v : Value} {L : List En} (h : Oq w base v L) : ∀ g, v.ownBlock = some g → ∃ cs, w.heap[g]? = some (.cells cs 78 (0, 0)) := by
  intro g hg
  rcases h.2 with ⟨rfl, _⟩ | ⟨g', cap, cur, rfl, _, hh, _⟩
  · cases hg
  · have e : g' = g := by simpa [Value.ownBlock] using hg
    subst e
    exact ⟨cur, hh⟩
theorem Oq.ne {w : World} {base bb mb : Nat} {b : Bk} {v : Value} {L : List En} (h : Oq w base v L) (hB : Bok w bb mb b) : ∀ g, v.ownBlock = some g → ¬ (g = bb ∨ g = mb) := by
  intro g hg
  obtain ⟨cs, hh⟩ := h.typ g hg
  rintro (e | e)
  · subst e
    have h1 := hB.cells
    unfold Bl at h1
    rw [hh] at h1
    simp at h1
  · subst e
    obtain ⟨es, clock, h1, _⟩ := hB.own
    rw [hh] at h1
    simp at h1
theorem Oq.nm {w : World} {base gm : Nat} {v : Value} {L : List En} {cs : List Value} (h : Oq w base v L) (hM : Bl 74 w gm cs) : ∀ g, v.ownBlock = some g → g ≠ gm := by
  rintro g hg rfl
  obtain ⟨cs', hh⟩ := h.typ g hg
  unfold Bl at hM
  rw [hh] at hM
  simp at hM
/-- append of one. -/
theorem append_rq {wr : World} {ops : Array Oper} {rest : List Oper} {o : Oper} {a : Act} {Q : Exit → Act → World → Prop} (hgd : o.guard = none) (s x : Operand)
    (ho : o.op = .call { callee := .builtin .append, args := #[s, x], argTypes := #[72, 72] })
    (B0 : Nat) (v : Value) (L : List En) (p : En) (hs : a.eval s = v) (hob : Oq wr B0 v L) (hx : a.eval x = .slice (some ⟨wr.heap.size, 0, none⟩) 1 1) (hl : L.length ≤ 1000000000) (hB : B0 ≤ wr.heap.size)
    (h : ∀ v' w', Oq w' B0 v' (L ++ [p]) → Chf (fun k => v.ownBlock = some k) wr w' → wpList Try.prog ops Q rest (a.put o.dst v') w') : wpList Try.prog ops Q (o :: rest) a (wr.alloc (.cells #[.string ⟨p.1.toArray⟩, .int .i64 p.2] 78)) := by
  obtain ⟨i, hi, hz, hsize, hby⟩ := info_parts infoQ
  have hbl := alloc_bl wr (eC p) 78
  refine wpList_append_own_wide _ hgd s x 72 ho B0 78 i _ 2 24 Try.underlying72 hi hz hsize hby rfl (by decide) v L.length (eCs L) hs (hob.below (alloc_below wr _) (Nat.le_refl _)) ⟨wr.heap.size, 0, none⟩ 1 1 (eC p) hx rfl ?_ ?_ (by unfold maxLen; omega) (by omega) (by rw [World.size_alloc]; omega) ?_
  · intro j u hu
    have hj : j < (eC p).length := (List.getElem?_eq_some_iff.1 hu).1
    rw [Addr.add_lit, Nat.zero_add]
    have := hbl.cell j hj
    rw [List.getElem?_eq_getElem hj] at hu
    rw [← hu]
    exact this
  · intro u hu
    simp [eC] at hu
    rcases hu with rfl | rfl <;> rfl
  · intro v' w' h1 h2 _
    refine h v' w' ?_ ?_
    · unfold Oq
      rw [List.length_append, show eCs (L ++ [p]) = eCs L ++ eC p by simp [eCs]]
      exact h1
    · exact ((Chf.refl _ wr).alloc _).grown h2 (fun g hg => .inl hg)
/-- An entry is written over. -/
theorem eCs_set (p : En) : ∀ (L : List En) (i : Nat), i < L.length → ((eCs L).set (i * 2) (.string ⟨p.1.toArray⟩)).set (i * 2 + 1) (.int .i64 p.2) = eCs (L.set i p)
  | [], i, h => by simp at h
  | q :: r, 0, _ => by simp [eCs, eC]
  | q :: r, i + 1, h => by
    have ih := eCs_set p r i (by simpa using h)
    have e : ∀ (x : En) (s : List En), eCs (x :: s) = .string ⟨x.1.toArray⟩ :: .int .i64 x.2 :: eCs s := fun _ _ => rfl
    rw [List.set_cons_succ, e, e, show (i + 1) * 2 = i * 2 + 1 + 1 by omega, List.set_cons_succ, List.set_cons_succ, List.set_cons_succ, List.set_cons_succ, ih]
theorem Oq.put {w : World} {base g n c : Nat} {L : List En} (hn : L.length = n) (h : Oq w base (.slice (some ⟨g, 0, none⟩) n c) L) {i : Nat} (hi : i < L.length) (p : En) :
    Oq ((w.setCell ⟨g, i * 2, none⟩ (.string ⟨p.1.toArray⟩)).setCell ⟨g, i * 2 + 1, none⟩ (.int .i64 p.2)) base (.slice (some ⟨g, 0, none⟩) n c) (L.set i p) ∧ w.grownBy ((w.setCell ⟨g, i * 2, none⟩ (.string ⟨p.1.toArray⟩)).setCell ⟨g, i * 2 + 1, none⟩ (.int .i64 p.2)) (some g) := by
  subst hn
  have h1 := World.ownsRow.stored h (i * 2) (.string ⟨p.1.toArray⟩)
  have h2 := World.ownsRow.stored h1.1 (i * 2 + 1) (.int .i64 p.2)
  rw [eCs_set p L i hi] at h2
  refine ⟨?_, ⟨h2.2.os.trans h1.2.os, h2.2.tape.trans h1.2.tape, h2.2.output.trans h1.2.output, Nat.le_trans h1.2.size h2.2.size, fun k hk hne => ?_⟩⟩
  · unfold Oq
    rw [List.length_set]
    exact h2.1
  · exact (h2.2.block k (Nat.lt_of_lt_of_le hk h1.2.size) hne).trans (h1.2.block k hk hne)
theorem Oq.there {w : World} {base g n c : Nat} {L : List En} (hn : L.length = n) (h : Oq w base (.slice (some ⟨g, 0, none⟩) n c) L) {i : Nat} (hi : i < L.length) : w.there g (i * 2) 2 := by
  subst hn
  have hl := eCs_length L
  rcases h.2 with ⟨h0, _⟩ | ⟨g', cap, cur, e, hg, hh, hn, hc, hsz, ht⟩
  · cases h0
  · cases e
    have hB : Bl 78 w g cur.toList := by unfold Bl; simpa using hh
    have hz : L.length * 2 ≤ cur.size := by omega
    intro j hj
    refine ⟨?_, hB.frozen _⟩
    rw [hB.cell (i * 2 + j) (by simp; omega)]
    rfl

/-! ### a name is put in from behind -/
theorem ins_cut {k : List UInt8} {e : Int} : ∀ {L : List En} {j : Nat}, Srt L → hasF k L = false → j ≤ L.length → (∀ q ∈ L.drop j, bytesBefore k q.1 = true) → (∀ _ : 0 < j, bytesBefore k (L.getD (j - 1) en0).1 = false) → insF k e L = L.take j ++ (k, e) :: L.drop j
  | [], j, _, _, hj, _, _ => by
    have : j = 0 := by simpa using hj
    subst this
    rfl
  | p :: r, 0, _, _, _, h, _ => by
    have := h p (by simp)
    unfold insF
    rw [if_pos this]
    rfl
  | p :: r, j + 1, hs, hk, hj, h, hb => by
    obtain ⟨h1, h2⟩ := List.pairwise_cons.1 hs
    simp only [hasF, List.any_cons, Bool.or_eq_false_iff] at hk
    obtain ⟨k1, k2⟩ := hk
    have hb0 := hb (by omega)
    have hp : bytesBefore k p.1 = false := by
      cases hq : bytesBefore k p.1 with
      | false => rfl
      | true =>
        cases j with
        | zero => simp only [Nat.zero_add, Nat.sub_self, List.getD_cons_zero] at hb0; rw [hq] at hb0; cases hb0
        | succ m =>
          simp only [Nat.add_sub_cancel, List.getD_cons_succ] at hb0
          have hm : m < r.length := by simp only [List.length_cons] at hj; omega
          rw [getD_eq _ _ hm] at hb0
          have := bb_trans hq (h1 _ (List.getElem_mem hm))
          rw [this] at hb0; cases hb0
    have ih := ins_cut (e := e) (j := j) h2 k2 (by simpa using hj) (by simpa using h) (fun h0 => by
      have := hb0
      cases j with
      | zero => omega
      | succ m => simpa using this)
    unfold insF
    rw [if_neg (by rw [hp]; simp), ih]
    rfl
theorem srt_perm {L M : List En} (hL : Srt L) (hM : Srt M) (h : L.Perm M) : L = M := srt_ext hL hM (fun _ => h.mem_iff)
theorem hasF_nodup {p : En} {l : List En} {i : Nat} (hn : (l.map (·.1)).Nodup) (hi : i < l.length) (hp : l[i] = p) : ∀ k, k < l.length → k ≠ i → (l.getD k en0).1 ≠ p.1 := by
  intro k hk hne e
  rw [getD_eq _ _ hk, ← hp] at e
  have := (List.nodup_iff_pairwise_ne.1 hn)
  have h2 := List.pairwise_iff_getElem.1 this
  have a1 : k < (l.map (·.1)).length := by simpa using hk
  have a2 : i < (l.map (·.1)).length := by simpa using hi
  rcases Nat.lt_or_gt_of_ne hne with hlt | hlt
  · exact h2 k i a1 a2 hlt (by simpa using e)
  · exact h2 i k a2 a1 hlt (by simpa using e.symm)

end Go.Proofs.Ytidmjojlhcgedaa
