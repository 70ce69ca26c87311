import Derived.Test.YtkaoobdemaahbaaWdE
namespace Go.Proofs.Ytkaoobdemaahbaa
open Go.RowKit

/-- Since ws only blocks that f names, and new ones, have changed. -/
structure Chf (f : Nat → Prop) (ws wr : World) : Prop where
  os : wr.os = ws.os
  tape : wr.tape = ws.tape
  output : wr.output = ws.output
  size : ws.heap.size ≤ wr.heap.size
  block : ∀ k, k < ws.heap.size → ¬ f k → wr.heap[k]? = ws.heap[k]?
theorem Chf.refl (f : Nat → Prop) (w : World) : Chf f w w := ⟨rfl, rfl, rfl, Nat.le_refl _, fun _ _ _ => rfl⟩
theorem Chf.grown {f : Nat → Prop} {ws wr w' : World} {r : Option Nat} (h : Chf f ws wr) (hg : wr.grownBy w' r) (hr : ∀ g, r = some g → f g ∨ ws.heap.size ≤ g) : Chf f ws w' :=
  ⟨hg.os.trans h.os, hg.tape.trans h.tape, hg.output.trans h.output, Nat.le_trans h.size hg.size, fun k hk hc => (hg.block k (Nat.lt_of_lt_of_le hk h.size) (fun e => by rcases hr k e.symm with h1 | h1; exact hc h1; omega)).trans (h.block k hk hc)⟩
theorem Chf.alloc {f : Nat → Prop} {ws wr : World} (h : Chf f ws wr) (o : Obj) : Chf f ws (wr.alloc o) := by
  have b := alloc_below wr o
  exact ⟨b.os.trans h.os, b.tape.trans h.tape, b.output.trans h.output, Nat.le_trans h.size b.size, fun k hk hc => (b.block k (Nat.lt_of_lt_of_le hk h.size)).trans (h.block k hk hc)⟩
theorem Chf.drewN {f : Nat → Prop} {ws wr : World} (h : Chf f ws wr) (q : Nat) : Chf f ws (wr.drewN q) := ⟨h.os, h.tape, h.output, h.size, h.block⟩
theorem Rd.chf {f : Nat → Prop} {ws wr : World} {ao : Option Addr} {l : List UInt8} (h : Rd ws ao l) (hc : Chf f ws wr) (hf : ∀ a, ao = some a → ¬ f a.block) : Rd wr ao l := by
  rcases h with h | ⟨g, off, e, hg, hcell⟩
  · exact .inl h
  · exact .inr ⟨g, off, e, Nat.lt_of_lt_of_le hg hc.size, fun j hj => cell_but (hcell j hj) fun h1 => hc.block g h1 (hf _ e)⟩
theorem Chf.below {f : Nat → Prop} {W ws wr : World} (h : Chf f ws wr) (hb : Below W.heap.size W ws) (hf : ∀ k, k < W.heap.size → ¬ f k) : Below W.heap.size W wr :=
  ⟨h.os.trans hb.os, h.tape.trans hb.tape, h.output.trans hb.output, Nat.le_trans hb.size h.size, fun k hk => (h.block k (Nat.lt_of_lt_of_le hk hb.size) (hf k hk)).trans (hb.block k hk)⟩
theorem Chf.setCell {f : Nat → Prop} {ws wr : World} (h : Chf f ws wr) {g : Nat} (hg : f g ∨ ws.heap.size ≤ g) (j : Nat) (v : Value) : Chf f ws (wr.setCell ⟨g, j, none⟩ v) := by
  have hb : But wr (wr.setCell ⟨g, j, none⟩ v) g := (But.refl wr g).set j v
  exact ⟨hb.os.trans h.os, hb.tape.trans h.tape, hb.output.trans h.output, Nat.le_trans h.size hb.size, fun k hk hc => (hb.block k (Nat.lt_of_lt_of_le hk h.size) (fun e => by subst e; rcases hg with h1 | h1; exact hc h1; omega)).trans (h.block k hk hc)⟩
theorem own_chf {f : Nat → Prop} {ws wr : World} {base n size : Nat} {e : TypeId} {v : Value} {xs : List Value} (h : ws.ownsRow base e size v n xs) (hc : Chf f ws wr) (hf : ∀ g, v.ownBlock = some g → ¬ f g) : wr.ownsRow base e size v n xs :=
  own_keep h fun g hg => hc.block g (h.lt g hg).2 (hf g hg)
/-- A twin stands where its blocks are not among those that changed. -/
theorem Tm.chf {f : Nat → Prop} {ws wr : World} {base : Nat} {v : Value} {ys : List X} {j : Nat} (h : Tm base ws v ys j) (hc : Chf f ws wr) (hv : ∀ g, v.ownBlock = some g → ¬ f g) (hy : ∀ y ∈ ys, ∀ g, (xD y).ownBlock = some g → ¬ f g) : Tm base wr v ys j :=
  ⟨own_chf h.own hc hv, fun y hm => own_chf (h.dat y hm) hc (fun g hg => hy y hm g (by rw [← own_blk y (y.e.data.length + 90)]; exact hg)), h.sep⟩

end Go.Proofs.Ytkaoobdemaahbaa
