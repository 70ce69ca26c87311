import Derived.Test.YtkfchdmlemcjhaaDoorRows
import Derived.Laws.MakeOwn
import Derived.Laws.AppendOwn
import Derived.WalkKit
import Derived.WalkSpells
import Derived.WalkLawsBesides
import Derived.Deep.QuietTactic
import Derived.BigQuiet
import Derived.StillTail
import Derived.Deep.RegionWith
import Derived.Laws.NewBlocks
import Derived.Laws.Alloc2
import Derived.Laws.Rows
import Derived.Laws.BitsAllLaws
import Derived.Deep.MidRow
import Derived.Deep.DeepAppendWide
import Derived.OwnWalk
import Derived.Laws.OwnMore
namespace Go.Proofs.YtkfchdmlemcjhaaDoor
open Go.RowKit

theorem below_drewN {B : Nat} {a w : World} (h : Below B a w) (q : Nat) : Below B a (w.drewN q) := ⟨h.os, h.tape, h.output, h.size, h.block⟩

/-- A walk that leaves one world alone, each operation's value told for that world. -/
theorem still_of_quiet {P : Program} {ops : Array Oper} {w : World} {Q : Act → Prop} : ∀ (l : List Oper) (a : Act), wpQuiet P ops (fun w' => w' = w) Q l a → wpStill P ops w Q l a
  | [], _, h => h
  | o :: r, a, h => by
    unfold wpQuiet at h
    unfold wpStill
    by_cases hw : Region.wanted o (yielded ops a.tmps) = true
    · rw [if_pos hw] at h ⊢
      obtain ⟨v, h1, h2⟩ := h
      have h3 := h1 w rfl
      have h4 := still_of_quiet r _ h2
      unfold Oper.quietAt at h3
      unfold Oper.still
      generalize (execOp a.eval o).run P w = res at h3
      cases res with
      | ok n w' =>
        cases n with
        | value u => obtain ⟨e1, e2⟩ := h3; subst e1; subst e2; exact ⟨rfl, h4⟩
        | skip => obtain ⟨e1, e2⟩ := h3; subst e1; subst e2; exact ⟨rfl, h4⟩
        | enter f args => obtain ⟨e1, hc⟩ := h3; subst e1; exact ⟨rfl, v, hc, h4⟩
        | _ => exact h3.elim
      | halt x w' => exact h3.elim
    · rw [if_neg hw] at h ⊢
      exact still_of_quiet r _ h

/-- A region that draws its order, all but the last operations of which only read, the last ones waiting for all of them. -/
theorem wp_region_tail {P : Program} {id : Nat} {Q : Exit → Act → World → Prop} {a : Act} {w : World} {l : List Oper} (n : Nat) (hm : P.follows .mixedOrders = true) (hB : Region.lexTailB .any l.toArray n = true)
    (h : wpQuiet P l.toArray (fun w' => w' = w.drewN 1) (fun a' => wpList P l.toArray Q (l.drop n) a' (w.drewN 1)) (l.take n) a) : (Code.region id l.toArray true).wp P Q a w :=
  wp_region_still_tail n hm hB (still_of_quiet _ _ h)

/-- A byte as the model's value; a limb. -/
def B (c : UInt8) : Value := .int .u8 c.toNat
def U (x : Nat) : Value := .int .u32 (x : Int)

/-- A block of cells, all of it one may write. -/
def Cl (w : World) (b : Nat) (vs : List Value) : Prop := ∃ t, w.heap[b]? = some (.cells vs.toArray t (0, 0))

theorem Cl.cell {w : World} {b : Nat} {vs : List Value} (h : Cl w b vs) (j : Nat) (hj : j < vs.length) : w.cell? ⟨b, j, none⟩ = some vs[j] := by
  obtain ⟨t, ht⟩ := h
  unfold World.cell?
  simp [ht, hj]

theorem Cl.frozen {w : World} {b : Nat} {vs : List Value} (h : Cl w b vs) (j : Nat) : w.frozen? ⟨b, j, none⟩ = false := by
  obtain ⟨t, ht⟩ := h
  unfold World.frozen?
  simp [ht]

theorem Cl.set {w : World} {b : Nat} {vs : List Value} (h : Cl w b vs) (j : Nat) (v : Value) : Cl (w.setCell ⟨b, j, none⟩ v) b (vs.set j v) := by
  obtain ⟨t, ht⟩ := h
  refine ⟨t, ?_⟩
  rw [heap_setCell_same w b j _ t _ ht]
  simp

theorem Cl.lt {w : World} {b : Nat} {vs : List Value} (h : Cl w b vs) : b < w.heap.size := by
  obtain ⟨t, ht⟩ := h
  exact (Array.getElem?_eq_some_iff.1 ht).1

/-- All blocks that there were but this one stand as they stood. -/
structure But (w w' : World) (b : Nat) : Prop where
  os : w'.os = w.os
  tape : w'.tape = w.tape
  output : w'.output = w.output
  size : w.heap.size ≤ w'.heap.size
  block : ∀ k, k < w.heap.size → k ≠ b → w'.heap[k]? = w.heap[k]?

theorem But.refl (w : World) (b : Nat) : But w w b := ⟨rfl, rfl, rfl, Nat.le_refl _, fun _ _ _ => rfl⟩
theorem But.set {w w' : World} {b : Nat} (h : But w w' b) (j : Nat) (v : Value) : But w (w'.setCell ⟨b, j, none⟩ v) b :=
  ⟨h.os, h.tape, h.output, by simpa using h.size, fun k hk hb => by rw [heap_setCell_other w' _ k v hb]; exact h.block k hk hb⟩
theorem But.drewN {w w' : World} {b : Nat} (h : But w w' b) (q : Nat) : But w (w'.drewN q) b := ⟨h.os, h.tape, h.output, h.size, h.block⟩
theorem But.trans {w w' w'' : World} {b : Nat} (h : But w w' b) (h2 : But w' w'' b) : But w w'' b :=
  ⟨h2.os.trans h.os, h2.tape.trans h.tape, h2.output.trans h.output, Nat.le_trans h.size h2.size, fun k hk hb => by rw [h2.block k (Nat.lt_of_lt_of_le hk h.size) hb]; exact h.block k hk hb⟩
theorem But.of_below {w w' : World} {b : Nat} (h : Below w.heap.size w w') : But w w' b := ⟨h.os, h.tape, h.output, h.size, fun k hk _ => h.block k hk⟩
theorem But.below {w w' : World} {b : Nat} (h : But w w' b) {n : Nat} (hn : n ≤ w.heap.size) (hb : n ≤ b) : Below n w w' := ⟨h.os, h.tape, h.output, h.size, fun k hk => h.block k (by omega) (by omega)⟩
theorem Cl.below {w w' : World} {b n : Nat} {vs : List Value} (h : Cl w b vs) (hb : Below n w w') (hn : b < n) : Cl w' b vs := by
  obtain ⟨t, ht⟩ := h
  exact ⟨t, by rw [hb.block b hn]; exact ht⟩

/-- A block of cells of that type, all of it one may write. -/
def Bl (t : TypeId) (w : World) (b : Nat) (vs : List Value) : Prop := w.heap[b]? = some (.cells vs.toArray t (0, 0))
theorem Bl.cl {t : TypeId} {w : World} {b : Nat} {vs : List Value} (h : Bl t w b vs) : Cl w b vs := ⟨t, h⟩
theorem Bl.cell {t : TypeId} {w : World} {b : Nat} {vs : List Value} (h : Bl t w b vs) (j : Nat) (hj : j < vs.length) : w.cell? ⟨b, j, none⟩ = some vs[j] := h.cl.cell j hj
theorem Bl.frozen {t : TypeId} {w : World} {b : Nat} {vs : List Value} (h : Bl t w b vs) (j : Nat) : w.frozen? ⟨b, j, none⟩ = false := h.cl.frozen j
theorem Bl.lt {t : TypeId} {w : World} {b : Nat} {vs : List Value} (h : Bl t w b vs) : b < w.heap.size := h.cl.lt
theorem Bl.set {t : TypeId} {w : World} {b : Nat} {vs : List Value} (h : Bl t w b vs) (j : Nat) (v : Value) : Bl t (w.setCell ⟨b, j, none⟩ v) b (vs.set j v) := by
  unfold Bl at *
  rw [heap_setCell_same w b j _ t _ h]
  simp
theorem Bl.drewN {t : TypeId} {w : World} {b : Nat} {vs : List Value} (h : Bl t w b vs) (q : Nat) : Bl t (w.drewN q) b vs := h
theorem Bl.below {t : TypeId} {w w' : World} {b n : Nat} {vs : List Value} (h : Bl t w b vs) (hb : Below n w w') (hn : b < n) : Bl t w' b vs := by
  unfold Bl at *
  rw [hb.block b hn]; exact h
theorem Bl.but {t : TypeId} {w w' : World} {b c : Nat} {vs : List Value} (h : Bl t w c vs) (hb : But w w' b) (hne : c ≠ b) : Bl t w' c vs := by
  have := h.lt
  unfold Bl at *
  rw [hb.block c this hne]; exact h

theorem cell_but {w w' : World} {g o : Nat} {v : Value} (h : w.cell? ⟨g, o, none⟩ = some v) (hb : g < w.heap.size → w'.heap[g]? = w.heap[g]?) : w'.cell? ⟨g, o, none⟩ = some v := by
  have hg : g < w.heap.size := World.block_lt_of_cell? w _ h
  have e2 := hb hg
  unfold World.cell? at h ⊢
  simp only at h ⊢
  rw [e2]
  exact h

/-- The bytes can be read at that place. -/
def Rd (w : World) (ao : Option Addr) (l : List UInt8) : Prop :=
  l = [] ∨ ∃ g off : Nat, ao = some ⟨g, off, none⟩ ∧ g < w.heap.size ∧ ∀ j, j < l.length → w.cell? ⟨g, off + j, none⟩ = some (B (l.getD j 0))
theorem Rd.below {w w' : World} {ao : Option Addr} {l : List UInt8} {n : Nat} (h : Rd w ao l) (hb : Below n w w') (hn : w.heap.size ≤ n) : Rd w' ao l := by
  rcases h with h | ⟨g, off, e, hg, hc⟩
  · exact .inl h
  · exact .inr ⟨g, off, e, Nat.lt_of_lt_of_le hg hb.size, fun j hj => cell_but (hc j hj) fun h1 => hb.block g (by omega)⟩
theorem Rd.drewN {w : World} {ao : Option Addr} {l : List UInt8} (h : Rd w ao l) (q : Nat) : Rd (w.drewN q) ao l := h

theorem alloc_bl (w : World) (vs : List Value) (t : TypeId) : Bl t (w.alloc (.cells vs.toArray t)) w.heap.size vs := by unfold Bl World.alloc; simp
theorem alloc_size (w : World) (o : Obj) : (w.alloc o).heap.size = w.heap.size + 1 := by unfold World.alloc; simp
theorem alloc_below (w : World) (o : Obj) : Below w.heap.size w (w.alloc o) := Below.alloc (Below.refl _ _) (Nat.le_refl _) _
theorem own_block {w : World} {base n size : Nat} {e : TypeId} {v : Value} {xs : List Value} (h : w.ownsRow base e size v n xs) : ∀ k, v.ownBlock = some k → base ≤ k := fun k hk => (h.lt k hk).1
theorem Rd.cell {w : World} {ao : Option Addr} {l : List UInt8} (h : Rd w ao l) (hl : 0 < l.length) : ∃ g off : Nat, ao = some ⟨g, off, none⟩ ∧ g < w.heap.size ∧ ∀ j, j < l.length → w.cell? ⟨g, off + j, none⟩ = some (.int .u8 ((l.getD j 0).toNat : Int)) := by
  rcases h with h | h
  · subst h; simp at hl
  · exact h
theorem Rd.nil (w : World) (ao : Option Addr) : Rd w ao [] := .inl rfl
theorem Rd.take {w : World} {ao : Option Addr} {l : List UInt8} (h : Rd w ao l) (k : Nat) : Rd w ao (l.take k) := by
  rcases h with h | ⟨g, off, e, hg, hc⟩
  · exact .inl (by rw [h]; simp)
  · refine .inr ⟨g, off, e, hg, fun j hj => ?_⟩
    have hj' : j < k ∧ j < l.length := by rw [List.length_take] at hj; omega
    rw [hc j hj'.2]
    simp [List.getD_eq_getElem?_getD, hj'.1]
theorem Rd.drop {w : World} {g off : Nat} {l : List UInt8} (h : Rd w (some ⟨g, off, none⟩) l) (k : Nat) : Rd w (some ⟨g, off + k, none⟩) (l.drop k) := by
  rcases h with h | ⟨g', off', e, hg, hc⟩
  · exact .inl (by rw [h]; simp)
  · cases e
    refine .inr ⟨g, off + k, rfl, hg, fun j hj => ?_⟩
    rw [List.length_drop] at hj
    rw [Nat.add_assoc, hc (k + j) (by omega)]
    simp [List.getD_eq_getElem?_getD]

theorem own_type {w : World} {base n size : Nat} {e : TypeId} {v : Value} {xs : List Value} (h : w.ownsRow base e size v n xs) {g : Nat} (hg : v.ownBlock = some g) : ∃ cur, w.heap[g]? = some (.cells cur e (0, 0)) := by
  rcases h.2 with ⟨h', _⟩ | ⟨g', cap', cur, h', _, hg', _⟩
  · subst h'; simp [Value.ownBlock] at hg
  · subst h'
    simp only [Value.ownBlock, Option.some.injEq] at hg
    subst hg
    exact ⟨cur, hg'⟩

theorem own_keep {w w' : World} {base n size : Nat} {e : TypeId} {v : Value} {xs : List Value} (h : w.ownsRow base e size v n xs) (hk : ∀ g, v.ownBlock = some g → w'.heap[g]? = w.heap[g]?) : w'.ownsRow base e size v n xs := by
  refine ⟨h.1, ?_⟩
  rcases h.2 with h' | ⟨g', cap', cur, h', h1, hg', h2⟩
  · exact .inl h'
  · exact .inr ⟨g', cap', cur, h', h1, by rw [hk g' (by rw [h']; rfl)]; exact hg', h2⟩

theorem own_below {w w' : World} {base n size k : Nat} {e : TypeId} {v : Value} {xs : List Value} (h : w.ownsRow base e size v n xs) (hb : Below k w w') (hk : w.heap.size ≤ k) : w'.ownsRow base e size v n xs :=
  own_keep h fun g hg => hb.block g (Nat.lt_of_lt_of_le (h.lt g hg).2 hk)

theorem kinds_apart {w : World} {b1 b2 n1 n2 s1 s2 : Nat} {e1 e2 : TypeId} {v1 v2 : Value} {xs ys : List Value} (h1 : w.ownsRow b1 e1 s1 v1 n1 xs) (h2 : w.ownsRow b2 e2 s2 v2 n2 ys) (hne : e1 ≠ e2) {g : Nat} (hg : v1.ownBlock = some g) : v2.ownBlock ≠ some g := by
  intro hg2
  obtain ⟨c1, e1'⟩ := own_type h1 hg
  obtain ⟨c2, e2'⟩ := own_type h2 hg2
  rw [e1'] at e2'
  simp only [Option.some.injEq, Obj.cells.injEq] at e2'
  exact hne e2'.2.1
theorem block_apart {w : World} {b1 n1 s1 : Nat} {e1 t : TypeId} {v1 : Value} {xs vs : List Value} {b : Nat} (h1 : w.ownsRow b1 e1 s1 v1 n1 xs) (h2 : Bl t w b vs) (hne : e1 ≠ t) : v1.ownBlock ≠ some b := by
  intro hg
  obtain ⟨c1, e1'⟩ := own_type h1 hg
  unfold Bl at h2
  rw [e1'] at h2
  simp only [Option.some.injEq, Obj.cells.injEq] at h2
  exact hne h2.2.1

end Go.Proofs.YtkfchdmlemcjhaaDoor
