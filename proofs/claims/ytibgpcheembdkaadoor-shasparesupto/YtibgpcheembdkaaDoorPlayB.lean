import Derived.Test.YtibgpcheembdkaaDoorPlayM
import Derived.Laws.OwnMore
namespace Go.Proofs.YtibgpcheembdkaaDoor
open Go.RowKit

/-- A row of one's own, one of its cells another one. -/
theorem own_set {w : World} {base n g c : Nat} {t : TypeId} {xs : List Value} (h : w.ownsRow base t 1 (.slice (some ⟨g, 0, none⟩) n c) n xs) (i : Nat) (x : Value) : (w.setCell ⟨g, i, none⟩ x).ownsRow base t 1 (.slice (some ⟨g, 0, none⟩) n c) n (xs.set i x) := by
  exact (h.stored i x).1

/-- The book: its states and texts, and the two rows that hold them. -/
structure Bk (w0 : Nat) (h : Int) (w : World) (gs cs gt ct n : Nat) (es : List En) : Prop where
  pc : Pc w0 h w es
  rs : w.ownsRow w0 25 1 (.slice (some ⟨gs, 0, none⟩) n cs) n (es.map fun e => pV e.b)
  rt : w.ownsRow w0 23 1 (.slice (some ⟨gt, 0, none⟩) n ct) n (es.map fun e => prV e.p)
  n0 : 0 < n
/-- A block that the book doesn't reach. -/
def Fr (es : List En) (gs gt x : Nat) : Prop := gs ≠ x ∧ gt ≠ x ∧ ∀ e ∈ es, e.b ≠ x ∧ ∀ g, e.p.l ≠ [] → e.p.a = some ⟨g, 0, none⟩ → g ≠ x

section
variable {w0 : Nat} {h : Int} {w w' : World} {gs cs gt ct n : Nat} {es : List En}
theorem Bk.len (H : Bk w0 h w gs cs gt ct n es) : es.length = n := by have := H.rs.1; simpa using this
theorem Bk.below {k : Nat} (H : Bk w0 h w gs cs gt ct n es) (hb : Below k w w') (hk : w.heap.size ≤ k) : Bk w0 h w' gs cs gt ct n es := ⟨H.pc.below hb hk, own_below H.rs hb hk, own_below H.rt hb hk, H.n0⟩
theorem Bk.drewN (H : Bk w0 h w gs cs gt ct n es) (q : Nat) : Bk w0 h (w.drewN q) gs cs gt ct n es := ⟨⟨H.pc.nd, H.pc.st, H.pc.tx⟩, H.rs, H.rt, H.n0⟩
theorem Bk.gslt (H : Bk w0 h w gs cs gt ct n es) : gs < w.heap.size := (H.rs.lt gs rfl).2
theorem Bk.gtlt (H : Bk w0 h w gs cs gt ct n es) : gt < w.heap.size := (H.rt.lt gt rfl).2
theorem Bk.fr (H : Bk w0 h w gs cs gt ct n es) (x : Nat) (hx : w.heap.size ≤ x) : Fr es gs gt x := by
  refine ⟨by have := H.gslt; omega, by have := H.gtlt; omega, fun e he => ⟨by have := (H.pc.st e he).2.lt; omega, fun g hl ha => ?_⟩⟩
  rcases (H.pc.tx e he).1 with h0 | ⟨g2, e2, hg, _⟩
  · exact absurd h0 hl
  · rw [ha] at e2; cases e2; omega
theorem Fr.set {x : Nat} (hf : Fr es gs gt x) (i : Nat) (hi : i < es.length) (m' : List UInt8) : Fr (es.set i ⟨es[i].b, m', es[i].p⟩) gs gt x :=
  ⟨hf.1, hf.2.1, fun e he => by
    rcases List.mem_or_eq_of_mem_set he with h1 | rfl
    · exact hf.2.2 e h1
    · exact hf.2.2 es[i] (List.getElem_mem hi)⟩
theorem Bk.but {x : Nat} (H : Bk w0 h w gs cs gt ct n es) (hb : But w w' x) (hf : Fr es gs gt x) : Bk w0 h w' gs cs gt ct n es :=
  ⟨H.pc.but hb (fun e he => (hf.2.2 e he).1) (fun e he => (hf.2.2 e he).2), own_but' H.rs hb (fun e => hf.1 (by cases e; rfl)), own_but' H.rt hb (fun e => hf.2.1 (by cases e; rfl)), H.n0⟩
/-- The rows' blocks hold no state, and no text. -/
theorem Bk.gsc (H : Bk w0 h w gs cs gt ct n es) : ∃ b, w.cell? ⟨gs, 0, none⟩ = some (pV b) := by
  have hl : 0 < es.length := by rw [H.len]; exact H.n0
  exact ⟨es[0].b, row_at H.rs 0 _ (by simp [hl])⟩
theorem Bk.gtc (H : Bk w0 h w gs cs gt ct n es) : ∃ p, w.cell? ⟨gt, 0, none⟩ = some (prV p) := by
  have hl : 0 < es.length := by rw [H.len]; exact H.n0
  exact ⟨es[0].p, row_at H.rt 0 _ (by simp [hl])⟩
theorem Bk.gsgt (H : Bk w0 h w gs cs gt ct n es) : gs ≠ gt := by
  obtain ⟨b, h1⟩ := H.gsc
  obtain ⟨p, h2⟩ := H.gtc
  rintro rfl
  rw [h1] at h2
  unfold pV prV at h2
  cases h2
theorem Bk.stne (H : Bk w0 h w gs cs gt ct n es) {b : Nat} {m : List UInt8} (hs : Sta w b h m) : gs ≠ b ∧ gt ≠ b := by
  obtain ⟨b1, h1⟩ := H.gsc
  obtain ⟨p, h2⟩ := H.gtc
  have h3 := sta_cell hs
  constructor
  · rintro rfl; rw [h1] at h3; unfold pV at h3; cases h3
  · rintro rfl; rw [h2] at h3; unfold prV at h3; cases h3
theorem Bk.txne (H : Bk w0 h w gs cs gt ct n es) (e : En) (he : e ∈ es) (g : Nat) (hl : e.p.l ≠ []) (ha : e.p.a = some ⟨g, 0, none⟩) : g ≠ gs ∧ g ≠ gt := by
  obtain ⟨b1, h1⟩ := H.gsc
  obtain ⟨p, h2⟩ := H.gtc
  rcases (H.pc.tx e he).1 with h0 | ⟨g2, e2, hg, hc⟩
  · exact absurd h0 hl
  · rw [ha] at e2
    cases e2
    have h3 := hc 0 (List.length_pos_iff.2 hl)
    constructor
    · rintro rfl; rw [h1] at h3; unfold pV B at h3; cases h3
    · rintro rfl; rw [h2] at h3; unfold prV B at h3; cases h3
theorem set_map {α : Type} (f : En → α) (es : List En) (i : Nat) (hi : i < es.length) (e : En) (he : f e = f es[i]) : (es.set i e).map f = es.map f := by
  rw [List.map_set, he]
  have e2 : (es.map f).set i ((es.map f)[i]'(by simpa using hi)) = es.map f := List.set_getElem_self _
  rw [List.getElem_map] at e2
  exact e2
theorem Bk.write (H : Bk w0 h w gs cs gt ct n es) (i : Nat) (hi : i < es.length) (hb : But w w' es[i].b) (m' : List UInt8) (hs : Sta w' es[i].b h m') : Bk w0 h w' gs cs gt ct n (es.set i ⟨es[i].b, m', es[i].p⟩) := by
  have hne := H.stne (H.pc.st es[i] (List.getElem_mem hi)).2
  refine ⟨H.pc.write hi hb m' hs, ?_, ?_, H.n0⟩
  · rw [set_map (fun e => pV e.b) es i hi ⟨es[i].b, m', es[i].p⟩ rfl]
    exact own_but' H.rs hb (fun e => hne.1 (by cases e; rfl))
  · rw [set_map (fun e => prV e.p) es i hi ⟨es[i].b, m', es[i].p⟩ rfl]
    exact own_but' H.rt hb (fun e => hne.2 (by cases e; rfl))
theorem Bk.text (H : Bk w0 h w gs cs gt ct n es) (i : Nat) (hi : i < es.length) (p' : Prt) (ht : Txt w p') (hg : ∀ g, p'.l ≠ [] → p'.a = some ⟨g, 0, none⟩ → g ≠ gt) : Bk w0 h (w.setCell ⟨gt, i, none⟩ (prV p')) gs cs gt ct n (es.set i ⟨es[i].b, es[i].m, p'⟩) := by
  have hb : But w (w.setCell ⟨gt, i, none⟩ (prV p')) gt := (But.refl _ _).set _ _
  have hpc : Pc w0 h (w.setCell ⟨gt, i, none⟩ (prV p')) es := H.pc.but hb (fun e he => fun e2 => (H.stne (H.pc.st e he).2).2 e2.symm) (fun e he g hl ha => (H.txne e he g hl ha).2)
  refine ⟨hpc.text hi p' (ht.but hb hg), ?_, ?_, H.n0⟩
  · rw [set_map (fun e => pV e.b) es i hi ⟨es[i].b, es[i].m, p'⟩ rfl]
    exact own_but' H.rs hb (fun e => H.gsgt (by cases e; rfl))
  · have h1 := own_set H.rt i (prV p')
    rw [List.map_set]
    exact h1
end

end Go.Proofs.YtibgpcheembdkaaDoor
