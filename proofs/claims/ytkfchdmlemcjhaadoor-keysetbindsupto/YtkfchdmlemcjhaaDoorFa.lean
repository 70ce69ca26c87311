import Derived.Test.YtkfchdmlemcjhaaDoorXZ
import Derived.Test.YtkfchdmlemcjhaaDoorWc
import Derived.Deep.AppendLies
import Derived.Laws.AppendOwnNone
import Derived.Deep.MidRow
namespace Go.Proofs.YtkfchdmlemcjhaaDoor
open Go.RowKit Go.Shelf

/-- Since a only two of its blocks have changed. -/
structure Ky (w0 a : World) (g1 g2 : Option Nat) (w : World) : Prop where
  bel : Below w0.heap.size w0 w
  size : a.heap.size ≤ w.heap.size
  blk : ∀ g, g < a.heap.size → some g ≠ g1 → some g ≠ g2 → w.heap[g]? = a.heap[g]?
theorem Ky.refl {w0 a : World} (g1 g2 : Option Nat) (h : Below w0.heap.size w0 a) : Ky w0 a g1 g2 a := ⟨h, Nat.le_refl _, fun _ _ _ _ => rfl⟩
theorem Ky.below {w0 a w w' : World} {g1 g2 : Option Nat} (h : Ky w0 a g1 g2 w) (hb : Below w.heap.size w w') : Ky w0 a g1 g2 w' :=
  ⟨h.bel.trans (hb.mono h.bel.size), Nat.le_trans h.size hb.size, fun g hg h1 h2 => (hb.block g (Nat.lt_of_lt_of_le hg h.size)).trans (h.blk g hg h1 h2)⟩
theorem Ky.drewN {w0 a w : World} {g1 g2 : Option Nat} (h : Ky w0 a g1 g2 w) (n : Nat) : Ky w0 a g1 g2 (w.drewN n) := ⟨below_drewN h.bel n, h.size, h.blk⟩
theorem Ky.grown {w0 a w w' : World} {g1 g2 row : Option Nat} (h : Ky w0 a g1 g2 w) (hg : w.grownBy w' row) (hr : ∀ k, row = some k → w0.heap.size ≤ k ∧ (some k = g1 ∨ some k = g2 ∨ a.heap.size ≤ k)) : Ky w0 a g1 g2 w' := by
  refine ⟨h.bel.grown hg h.bel.size (fun k hk => (hr k hk).1), Nat.le_trans h.size hg.size, fun g hga h1 h2 => ?_⟩
  rw [hg.block g (Nat.lt_of_lt_of_le hga h.size) (fun e => ?_)]
  · exact h.blk g hga h1 h2
  · rcases (hr g e.symm).2 with h3 | h3 | h3
    · exact h1 h3
    · exact h2 h3
    · omega

theorem NR.ky {w0 a w : World} {g1 g2 : Option Nat} {v : Value} {l : List Nd} {ao : Option Addr} {cap : Nat} (h : NR a v l ao cap) (hk : Ky w0 a g1 g2 w) (hne : ∀ g off, ao = some ⟨g, off, none⟩ → some g ≠ g1 ∧ some g ≠ g2) : NR w v l ao cap := by
  refine ⟨h.val, h.cap, ?_⟩
  rcases h.cell with h0 | ⟨g, off, e, hg, hc⟩
  · exact .inl h0
  · exact .inr ⟨g, off, e, Nat.lt_of_lt_of_le hg hk.size, fun j u hu => cell_but (hc j u hu) fun hlt => hk.blk g hlt (hne g off e).1 (hne g off e).2⟩

/-- Numbers that can be read. -/
structure IR (w : World) (v : Value) (l : List Int) (ao : Option Addr) (cap : Nat) : Prop where
  val : v = .slice ao l.length cap
  cap : l.length ≤ cap
  cell : l = [] ∨ ∃ g off : Nat, ao = some ⟨g, off, none⟩ ∧ g < w.heap.size ∧ ∀ j, j < l.length → w.cell? ⟨g, off + j, none⟩ = some (.int .i64 (l.getD j 0))
theorem IR.ky {w0 a w : World} {g1 g2 : Option Nat} {v : Value} {l : List Int} {ao : Option Addr} {cap : Nat} (h : IR a v l ao cap) (hk : Ky w0 a g1 g2 w) (hne : ∀ g off, ao = some ⟨g, off, none⟩ → some g ≠ g1 ∧ some g ≠ g2) : IR w v l ao cap := by
  refine ⟨h.val, h.cap, ?_⟩
  rcases h.cell with h0 | ⟨g, off, e, hg, hc⟩
  · exact .inl h0
  · exact .inr ⟨g, off, e, Nat.lt_of_lt_of_le hg hk.size, fun j hj => cell_but (hc j hj) fun hlt => hk.blk g hlt (hne g off e).1 (hne g off e).2⟩
theorem IR.below {w w' : World} {v : Value} {l : List Int} {ao : Option Addr} {cap n : Nat} (h : IR w v l ao cap) (hb : Below n w w') (hn : w.heap.size ≤ n) : IR w' v l ao cap := by
  refine ⟨h.val, h.cap, ?_⟩
  rcases h.cell with h0 | ⟨g, off, e, hg, hc⟩
  · exact .inl h0
  · exact .inr ⟨g, off, e, Nat.lt_of_lt_of_le hg hb.size, fun j hj => cell_but (hc j hj) fun _ => hb.block g (by omega)⟩
theorem IR.drewN {w : World} {v : Value} {l : List Int} {ao : Option Addr} {cap : Nat} (h : IR w v l ao cap) (n : Nat) : IR (w.drewN n) v l ao cap := ⟨h.val, h.cap, h.cell⟩
theorem IR.at {w : World} {v : Value} {l : List Int} {ao : Option Addr} {cap : Nat} (h : IR w v l ao cap) {i : Nat} (hi : i < l.length) : ∃ g off : Nat, ao = some ⟨g, off, none⟩ ∧ w.cell? ⟨g, off + i, none⟩ = some (.int .i64 (l.getD i 0)) := by
  rcases h.cell with h0 | ⟨g, off, e, _, hc⟩
  · subst h0; simp at hi
  · exact ⟨g, off, e, hc i hi⟩
/-- A list of numbers of one's own: where it lies. -/
def Own1 (B : Nat) (w : World) (v : Value) (l : List Int) : Prop := w.ownsRow B 3 1 v l.length (l.map zV)
/-- A row of one's own, several cells set. -/
def setL (xs : List Value) : Nat → List Value → List Value
  | _, [] => xs
  | o, c :: cs => setL (xs.set o c) (o + 1) cs
end Go.Proofs.YtkfchdmlemcjhaaDoor
