import Derived.Test.YtibgpcheembdkaaDoorPlayB
namespace Go.Proofs.YtibgpcheembdkaaDoor
open Go.RowKit

section
variable {w0 : Nat} {h : Int} {w w' : World} {gs cs gt ct n : Nat} {es : List En}
theorem but_grown {r : Nat} (hg : w.grownBy w' (some r)) : But w w' r := ⟨hg.os, hg.tape, hg.output, hg.size, fun k hk hne => hg.block k hk (fun e => hne (by cases e; rfl))⟩
theorem below_grown (hg : w.grownBy w' none) : Below w.heap.size w w' := ⟨hg.os, hg.tape, hg.output, hg.size, fun k hk => hg.block k hk (fun e => by cases e)⟩
theorem Bk.grown {r : Option Nat} (H : Bk w0 h w gs cs gt ct n es) (hg : w.grownBy w' r) (hf : ∀ x, r = some x → Fr es gs gt x) : Bk w0 h w' gs cs gt ct n es := by
  cases r with
  | none => exact H.below (below_grown hg) (Nat.le_refl _)
  | some x => exact H.but (but_grown hg) (hf x rfl)
theorem Bk.write' (H : Bk w0 h w gs cs gt ct n es) (i b : Nat) (m : List UInt8) (p : Prt) (hi : i < es.length) (he : es[i] = ⟨b, m, p⟩) (hb : But w w' b) (m' : List UInt8) (hs : Sta w' b h m') : Bk w0 h w' gs cs gt ct n (es.set i ⟨b, m', p⟩) := by
  have := H.write i hi (by rw [he]; exact hb) m' (by rw [he]; exact hs)
  rw [he] at this
  exact this
theorem Bk.text' (H : Bk w0 h w gs cs gt ct n es) (i b : Nat) (m : List UInt8) (p : Prt) (hi : i < es.length) (he : es[i] = ⟨b, m, p⟩) (p' : Prt) (ht : Txt w p') (hg : ∀ g, p'.l ≠ [] → p'.a = some ⟨g, 0, none⟩ → g ≠ gt) : Bk w0 h (w.setCell ⟨gt, i, none⟩ (prV p')) gs cs gt ct n (es.set i ⟨b, m, p'⟩) := by
  have := H.text i hi p' ht hg
  rw [he] at this
  exact this
theorem Bk.at (H : Bk w0 h w gs cs gt ct n es) (i b : Nat) (m : List UInt8) (p : Prt) (hi : i < es.length) (he : es[i] = ⟨b, m, p⟩) : w0 ≤ b ∧ Sta w b h m ∧ Txt w p ∧ w.cell? ⟨gs, i, none⟩ = some (.pointer (some ⟨b, 0, none⟩)) ∧ w.cell? ⟨gt, i, none⟩ = some (.slice p.a p.l.length p.c) ∧ w.frozen? ⟨gt, i, none⟩ = false := by
  have hm := List.getElem_mem hi
  have h1 := H.pc.st _ hm
  have h2 := H.pc.tx _ hm
  rw [he] at h1 h2
  refine ⟨h1.1, h1.2, h2, ?_, ?_, H.rt.frozenAt i⟩
  · exact row_at H.rs i _ (by rw [List.getElem?_map, List.getElem?_eq_getElem hi, he]; rfl)
  · exact row_at H.rt i _ (by rw [List.getElem?_map, List.getElem?_eq_getElem hi, he]; rfl)
theorem Fr.set' {x : Nat} (hf : Fr es gs gt x) (i b : Nat) (m : List UInt8) (p : Prt) (hi : i < es.length) (he : es[i] = ⟨b, m, p⟩) (m' : List UInt8) : Fr (es.set i ⟨b, m', p⟩) gs gt x := by
  have := hf.set i hi m'
  rw [he] at this
  exact this

/-- One state more in the book. -/
theorem Bk.push (H : Bk w0 h w gs cs gt ct n es) (b' : Nat) (m' : List UInt8) (p' : Prt) (hs : Sta w b' h m') (h0 : w0 ≤ b') (hn : ∀ e ∈ es, e.b ≠ b') (ht : Txt w p') (htg : ∀ g, p'.l ≠ [] → p'.a = some ⟨g, 0, none⟩ → g ≠ gs ∧ g ≠ gt)
    {o1 o2 : Obj} {w2 w4 : World} {vs vt : Value} (r2 : w2.ownsRow w0 25 1 vs (n + 1) ((es.map fun e => pV e.b) ++ [pV b'])) (g2 : (w.alloc o1).grownBy w2 (some gs)) (r4 : w4.ownsRow w0 23 1 vt (n + 1) ((es.map fun e => prV e.p) ++ [prV p'])) (g4 : (w2.alloc o2).grownBy w4 (some gt)) :
    ∃ gs' cs' gt' ct', vs = .slice (some ⟨gs', 0, none⟩) (n + 1) cs' ∧ vt = .slice (some ⟨gt', 0, none⟩) (n + 1) ct' ∧ Bk w0 h w4 gs' cs' gt' ct' (n + 1) (es ++ [⟨b', m', p'⟩]) := by
  obtain ⟨gs', cs', rfl, hgs', hlt'⟩ := row_some r2 (by omega)
  obtain ⟨gt', ct', rfl, hgt', hlt4⟩ := row_some r4 (by omega)
  have hsne := H.stne hs
  have a1 := alloc_below w o1
  have a2 := alloc_below w2 o2
  have b2 := but_grown g2
  have b4 := but_grown g4
  have p1 : Pc w0 h (w.alloc o1) es := H.pc.below a1 (Nat.le_refl _)
  have p2 : Pc w0 h w2 es := p1.but b2 (fun e he e2 => (H.stne (H.pc.st e he).2).1 e2.symm) (fun e he g hl ha => (H.txne e he g hl ha).1)
  have p3 : Pc w0 h (w2.alloc o2) es := p2.below a2 (Nat.le_refl _)
  have p4 : Pc w0 h w4 es := p3.but b4 (fun e he e2 => (H.stne (H.pc.st e he).2).2 e2.symm) (fun e he g hl ha => (H.txne e he g hl ha).2)
  have s1 : Sta w2 b' h m' := b2.other (hs.below a1 hs.lt) (fun e => hsne.1 e.symm)
  have s2 : Sta w4 b' h m' := b4.other (s1.below a2 s1.lt) (fun e => hsne.2 e.symm)
  have t1 : Txt w2 p' := (ht.below a1 (Nat.le_refl _)).but b2 (fun g hl ha => (htg g hl ha).1)
  have t2 : Txt w4 p' := (t1.below a2 (Nat.le_refl _)).but b4 (fun g hl ha => (htg g hl ha).2)
  refine ⟨gs', cs', gt', ct', rfl, rfl, ⟨p4.push ⟨b', m', p'⟩ hn h0 s2 t2, ?_, ?_, by omega⟩⟩
  · rw [List.map_append]
    refine own_but' (own_below r2 a2 (Nat.le_refl _)) b4 (fun e => ?_)
    have e2 : gs' = gt := by cases e; rfl
    subst e2
    have hl : 0 < es.length := by rw [H.len]; exact H.n0
    have c1 : w2.cell? ⟨gs', 0, none⟩ = some (pV es[0].b) := row_at r2 0 _ (by simp [hl])
    have c2 : w2.cell? ⟨gs', 0, none⟩ = some (prV es[0].p) := by
      refine cell_but (cell_but (row_at H.rt 0 _ (by simp [hl])) fun hg => a1.block gs' hg) fun hg => b2.block gs' hg (fun e => H.gsgt e.symm)
    rw [c1] at c2
    unfold pV prV at c2
    cases c2
  · rw [List.map_append]
    exact r4
end

theorem fill77 (l M : List UInt8) (k : Nat) (hk : k < l.length) : ((List.replicate k 77 ++ l.drop k ++ M).map B).set k (B 77) = (List.replicate (k + 1) 77 ++ l.drop (k + 1) ++ M).map B := by
  rw [← List.map_set]
  congr 1
  rw [List.append_assoc, List.set_append_right _ _ (by simp), List.length_replicate, Nat.sub_self, List.drop_eq_getElem_cons hk, List.cons_append, List.set_cons_zero, List.replicate_succ', List.append_assoc, List.append_assoc]
  rfl

end Go.Proofs.YtibgpcheembdkaaDoor
