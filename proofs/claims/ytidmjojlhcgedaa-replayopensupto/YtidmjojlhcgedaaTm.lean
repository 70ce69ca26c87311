import Derived.Test.YtidmjojlhcgedaaTl
import Derived.Deep.AppendLies
namespace Go.Proofs.Ytidmjojlhcgedaa
open Go.RowKit Go.Maps
set_option maxRecDepth 100000

/-! ### lists of images -/
theorem infoS : (Try.prog.info? 30).map (fun i => (i.zero, i.size, i.bytes)) = some (some (.slice none 0 0), 1, 24) := by kernel_rfl
/-- A list of slices of one's own. -/
def Osl (w : World) (base : Nat) (v : Value) (vs : List Value) : Prop := w.ownsRow base 30 1 v vs.length vs
theorem Osl.nil (w : World) (base : Nat) : Osl w base (.slice none 0 0) [] := ⟨rfl, .inl ⟨rfl, rfl⟩⟩
theorem Osl.typ {w : World} {base : Nat} {v : Value} {vs : List Value} (h : Osl w base v vs) : ∀ g, v.ownBlock = some g → ∃ cs fr, w.heap[g]? = some (.cells cs 30 fr) := by
  intro g hg
  rcases h.2 with ⟨rfl, _⟩ | ⟨g', cap, cur, rfl, _, hh, _⟩
  · cases hg
  · have e : g' = g := by simpa [Value.ownBlock] using hg
    subst e
    exact ⟨_, _, hh⟩
theorem Osl.form {w : World} {base : Nat} {v : Value} {vs : List Value} (h : Osl w base v vs) : ∃ ao c, v = .slice ao vs.length c := by
  rcases h.2 with ⟨rfl, h0⟩ | ⟨g, cap, cur, rfl, _⟩
  · exact ⟨none, 0, by rw [h0]⟩
  · exact ⟨_, cap, rfl⟩
theorem Osl.cell {w : World} {base n c : Nat} {ao : Option Addr} {vs : List Value} (h : Osl w base (.slice ao n c) vs) {j : Nat} (hj : j < vs.length) : ∃ g, ao = some ⟨g, 0, none⟩ ∧ w.cell? ⟨g, j, none⟩ = some (vs.getD j undef) := by
  rcases h.2 with ⟨_, h0⟩ | ⟨g, cap, cur, e, _, hh, _⟩
  · omega
  · cases e
    refine ⟨g, rfl, ?_⟩
    have := World.ownsRow.cellAt h j (by omega)
    rw [this, List.getElem?_eq_getElem hj, getD_eq _ _ hj]
theorem append_sl {wr : World} {ops : Array Oper} {rest : List Oper} {o : Oper} {a : Act} {Q : Exit → Act → World → Prop} (hgd : o.guard = none) (s x : Operand)
    (ho : o.op = .call { callee := .builtin .append, args := #[s, x], argTypes := #[58, 58] })
    (B0 : Nat) (v : Value) (vs : List Value) (p : Value) (hp : p.oneCell' = true) (hs : a.eval s = v) (hob : Osl wr B0 v vs) (hx : a.eval x = .slice (some ⟨wr.heap.size, 0, none⟩) 1 1) (hl : vs.length ≤ 1000000000) (hB : B0 ≤ wr.heap.size)
    (h : ∀ g cap w', Osl w' B0 (.slice (some ⟨g, 0, none⟩) (vs.length + 1) cap) (vs ++ [p]) → Chf (fun k => v.ownBlock = some k) wr w' → (v.ownBlock = some g ∨ wr.heap.size ≤ g) → wpList Try.prog ops Q rest (a.put o.dst (.slice (some ⟨g, 0, none⟩) (vs.length + 1) cap)) w') : wpList Try.prog ops Q (o :: rest) a (wr.alloc (.cells #[p] 30)) := by
  obtain ⟨i, hi, hz, hsize, hby⟩ := info_parts infoS
  have hbl := alloc_bl wr [p] 30
  have hb := alloc_below wr (.cells #[p] 30)
  refine wpList_append_lies _ hgd s x 58 ho B0 30 i _ 1 24 Try.underlying58 hi hz hsize hby rfl (by decide) v vs.length vs hs (own_chf (f := fun _ => False) hob ⟨hb.os, hb.tape, hb.output, hb.size, fun k hk _ => hb.block k hk⟩ (fun _ _ h => h)) ⟨wr.heap.size, 0, none⟩ 1 1 [p] hx rfl ?_ ?_ (by decide) (by unfold maxLen; omega) (by omega) (by rw [World.size_alloc]; omega) _ rfl ?_
  · intro j u hu
    have hj : j < ([p] : List Value).length := (List.getElem?_eq_some_iff.1 hu).1
    rw [Addr.add_lit, Nat.zero_add]
    have := hbl.cell j hj
    rw [List.getElem?_eq_getElem hj] at hu
    rw [← hu]
    exact this
  · intro u hu
    simp at hu
    rw [hu]; exact hp
  · intro g cap w' h1 h2 h3 _
    refine h g cap w' ?_ (((Chf.refl _ wr).alloc _).grown h2 (fun g hg => .inl hg)) ?_
    · unfold Osl
      rw [List.length_append]
      exact h1
    · rcases h3 with h3 | h3
      · exact .inl h3
      · right; rw [h3, World.size_alloc]; omega
/-- Only rows of slices have changed. -/
structure Ch (f : Nat → Prop) (w w' : World) : Prop where
  c : Chf f w w'
  t : ∀ k, f k → ∃ cs fr, w.heap[k]? = some (.cells cs 30 fr)
theorem Bl.ch {t : TypeId} {f : Nat → Prop} {w w' : World} {g : Nat} {cs : List Value} (h : Bl t w g cs) (hc : Ch f w w') (ht : t ≠ 30) : Bl t w' g cs :=
  h.chf hc.c (fun hf => by
    obtain ⟨cs', fr, e⟩ := hc.t g hf
    unfold Bl at h
    rw [h] at e
    simp at e
    exact ht e.2.1)
theorem own_ch {f : Nat → Prop} {w w' : World} {b0 n s : Nat} {e : TypeId} {v : Value} {xs : List Value} (h : w.ownsRow b0 e s v n xs) (hc : Ch f w w') (ht : e ≠ 30) : w'.ownsRow b0 e s v n xs :=
  own_chf h hc.c (fun g hg hf => by
    obtain ⟨cs', fr, e1⟩ := hc.t g hf
    rcases h.2 with ⟨rfl, _⟩ | ⟨g', cap, cur, rfl, _, hh, _⟩
    · cases hg
    · have e2 : g' = g := by simpa [Value.ownBlock] using hg
      subst e2
      rw [hh] at e1
      simp at e1
      exact ht e1.2.1)
theorem Bok.ch {f : Nat → Prop} {w w' : World} {bb mb : Nat} {b : Bk} (h : Bok w bb mb b) (hc : Ch f w w') : Bok w' bb mb b :=
  ⟨h.cells.ch hc (by decide), map_chf h.own hc.c (fun hf => by
    obtain ⟨cs', fr, e⟩ := hc.t mb hf
    obtain ⟨es, clock, e2, _⟩ := h.own
    rw [e2] at e
    cases e), h.ne⟩
theorem Mq.ch {f : Nat → Prop} {w w' : World} {B0 gm : Nat} {b : Bk} (h : Mq w B0 gm b) (hc : Ch f w w') : Mq w' B0 gm b := by
  obtain ⟨v, l, h1, h2⟩ := h
  exact ⟨v, l, ⟨h1.cells.ch hc (by decide), own_ch h1.own hc (by decide), h1.low⟩, h2⟩
/-- A list of images, each in a row of its own. -/
def Lr (w : World) (B0 : Nat) (v : Value) (Ims : List (List UInt8)) : Prop := ∃ vs, Osl w B0 v vs ∧ vs.length = Ims.length ∧ ∀ j, j < Ims.length → Owb w B0 (vs.getD j undef) (Ims.getD j [])
theorem Lr.nil (w : World) (B0 : Nat) : Lr w B0 (.slice none 0 0) [] := ⟨[], Osl.nil _ _, rfl, fun j hj => by simp at hj⟩
theorem Lr.below {w w' : World} {B0 n : Nat} {v : Value} {Ims : List (List UInt8)} (h : Lr w B0 v Ims) (hb : Below n w w') (hn : w.heap.size ≤ n) : Lr w' B0 v Ims := by
  obtain ⟨vs, h1, h2, h3⟩ := h
  exact ⟨vs, own_chf (f := fun _ => False) h1 ⟨hb.os, hb.tape, hb.output, hb.size, fun k hk _ => hb.block k (by omega)⟩ (fun _ _ h => h), h2, fun j hj => (h3 j hj).below hb hn⟩
theorem Lr.drewN {w : World} {B0 : Nat} {v : Value} {Ims : List (List UInt8)} (h : Lr w B0 v Ims) (q : Nat) : Lr (w.drewN q) B0 v Ims := h.below (below_drewN (Below.refl _ _) q) (Nat.le_refl _)
theorem Lr.fr {w w' : World} {bb mb B0 : Nat} {v : Value} {Ims : List (List UInt8)} {b : Bk} (h : Lr w B0 v Ims) (hB : Bok w bb mb b) (hc : Fr bb mb w w') : Lr w' B0 v Ims := by
  obtain ⟨vs, h1, h2, h3⟩ := h
  exact ⟨vs, own_fr h1 hB hc (by decide) (by decide) (by decide), h2, fun j hj => (h3 j hj).fr hB hc⟩
theorem Lr.ch {f : Nat → Prop} {w w' : World} {B0 : Nat} {v : Value} {Ims : List (List UInt8)} (h : Lr w B0 v Ims) (hc : Ch f w w') (hf : ∀ g, v.ownBlock = some g → ¬ f g) : Lr w' B0 v Ims := by
  obtain ⟨vs, h1, h2, h3⟩ := h
  exact ⟨vs, own_chf h1 hc.c hf, h2, fun j hj => own_ch (h3 j hj) hc (by decide)⟩
theorem Lr.push {f : Nat → Prop} {w w' : World} {B0 : Nat} {v' x : Value} {vs : List Value} {Ims : List (List UInt8)} {im : List UInt8} (h2 : vs.length = Ims.length) (h3 : ∀ j, j < Ims.length → Owb w B0 (vs.getD j undef) (Ims.getD j [])) (hx : Owb w B0 x im) (hc : Ch f w w') (ho : Osl w' B0 v' (vs ++ [x])) : Lr w' B0 v' (Ims ++ [im]) := by
  refine ⟨_, ho, by simp [h2], fun j hj => ?_⟩
  by_cases hlt : j < Ims.length
  · rw [List.getD_eq_getElem?_getD, List.getElem?_append_left (by omega), ← List.getD_eq_getElem?_getD, List.getD_eq_getElem?_getD (l := Ims ++ [im]), List.getElem?_append_left hlt, ← List.getD_eq_getElem?_getD]
    exact own_ch (h3 j hlt) hc (by decide)
  · have : j = Ims.length := by simp at hj; omega
    subst this
    rw [List.getD_eq_getElem?_getD, List.getElem?_append_right (by omega), h2, Nat.sub_self, List.getD_eq_getElem?_getD (l := Ims ++ [im]), List.getElem?_append_right (Nat.le_refl _), Nat.sub_self]
    exact own_ch hx hc (by decide)
theorem Osl.below {w w' : World} {base n : Nat} {v : Value} {L : List Value} (h : Osl w base v L) (hb : Below n w w') (hn : w.heap.size ≤ n) : Osl w' base v L :=
  own_chf (f := fun _ => False) h ⟨hb.os, hb.tape, hb.output, hb.size, fun k hk _ => hb.block k (by omega)⟩ (fun _ _ h => h)
theorem Osl.ch {w w' : World} {base : Nat} {v : Value} {vs : List Value} (h : Osl w base v vs) (hc : Chf (fun k => v.ownBlock = some k) w w') : Ch (fun k => v.ownBlock = some k) w w' := ⟨hc, fun k hk => h.typ k hk⟩
/-- Two rows lie in unlike blocks. -/
def Apt (v1 v2 : Value) : Prop := ∀ g, v1.ownBlock = some g → v2.ownBlock ≠ some g
theorem Apt.symm {v1 v2 : Value} (h : Apt v1 v2) : Apt v2 v1 := fun g h1 h2 => h g h2 h1
theorem apt_new {v1 vw : Value} {n g s cap : Nat} (h : Apt v1 vw) (hd : v1.ownBlock = some g ∨ s ≤ g) (hlt : ∀ g, vw.ownBlock = some g → g < s) : Apt (.slice (some ⟨g, 0, none⟩) n cap) vw := by
  intro g' e1 e2
  have e3 : g = g' := by simpa [Value.ownBlock] using e1
  subst e3
  rcases hd with hd | hd
  · exact h g hd e2
  · have := hlt g e2
    omega
theorem Lr.lt {w : World} {B0 : Nat} {v : Value} {Ims : List (List UInt8)} (h : Lr w B0 v Ims) : ∀ g, v.ownBlock = some g → g < w.heap.size := by
  obtain ⟨vs, h1, _⟩ := h
  intro g hg
  obtain ⟨cs, fr, e⟩ := h1.typ g hg
  exact (Array.getElem?_eq_some_iff.1 e).1

end Go.Proofs.Ytidmjojlhcgedaa
