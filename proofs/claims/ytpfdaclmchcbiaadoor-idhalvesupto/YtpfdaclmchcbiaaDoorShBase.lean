import Derived.Test.YtpfdaclmchcbiaaDoorRows
import Derived.WalkKit
import Derived.WalkSpells
import Derived.WalkLawsBesides
import Derived.Deep.QuietTactic
import Derived.BigQuiet
import Derived.StillTail
import Derived.Deep.RegionWith
import Derived.Laws.NewBlocks
import Derived.Laws.Alloc2
import Derived.Laws.Rows
import Derived.Laws.BitsAllLaws
import Derived.Deep.MidRow
namespace Go.Proofs.YtpfdaclmchcbiaaDoor.Sha
open Go.RowKit
set_option maxRecDepth 100000

theorem below_drewN {B : Nat} {a w : World} (h : Below B a w) (q : Nat) : Below B a (w.drewN q) := ⟨h.os, h.tape, h.output, h.size, h.block⟩

/-- A walk that leaves one world alone, each operation's value told for that world. -/
theorem still_of_quiet {P : Program} {ops : Array Oper} {w : World} {Q : Act → Prop} : ∀ (l : List Oper) (a : Act), wpQuiet P ops (fun w' => w' = w) Q l a → wpStill P ops w Q l a
  | [], _, h => h
  | o :: r, a, h => by
    unfold wpQuiet at h
    unfold wpStill
    by_cases hw : Region.wanted o (yielded ops a.tmps) = true
    · rw [if_pos hw] at h ⊢
      obtain ⟨v, h1, h2⟩ := h
      have h3 := h1 w rfl
      have h4 := still_of_quiet r _ h2
      unfold Oper.quietAt at h3
      unfold Oper.still
      generalize (execOp a.eval o).run P w = res at h3
      cases res with
      | ok n w' =>
        cases n with
        | value u => obtain ⟨e1, e2⟩ := h3; subst e1; subst e2; exact ⟨rfl, h4⟩
        | skip => obtain ⟨e1, e2⟩ := h3; subst e1; subst e2; exact ⟨rfl, h4⟩
        | enter f args => obtain ⟨e1, hc⟩ := h3; subst e1; exact ⟨rfl, v, hc, h4⟩
        | _ => exact h3.elim
      | halt x w' => exact h3.elim
    · rw [if_neg hw] at h ⊢
      exact still_of_quiet r _ h

/-- A region that draws its order, all but the last operations of which only read, the last ones waiting for all of them. -/
theorem wp_region_tail {P : Program} {id : Nat} {Q : Exit → Act → World → Prop} {a : Act} {w : World} {l : List Oper} (n : Nat) (hm : P.follows .mixedOrders = true) (hB : Region.lexTailB .any l.toArray n = true)
    (h : wpQuiet P l.toArray (fun w' => w' = w.drewN 1) (fun a' => wpList P l.toArray Q (l.drop n) a' (w.drewN 1)) (l.take n) a) : (Code.region id l.toArray true).wp P Q a w :=
  wp_region_still_tail n hm hB (still_of_quiet _ _ h)

/-- A byte as the model's value, a word of 32 bits, one of 64. -/
def B (c : UInt8) : Value := .int .u8 c.toNat
def U (x : Int) : Value := .int .u32 x
def V (x : Int) : Value := .int .u64 x

/-- A block of cells, all of it one may write. -/
def Cl (w : World) (b : Nat) (vs : List Value) : Prop := ∃ t, w.heap[b]? = some (.cells vs.toArray t (0, 0))

theorem Cl.cell {w : World} {b : Nat} {vs : List Value} (h : Cl w b vs) (j : Nat) (hj : j < vs.length) : w.cell? ⟨b, j, none⟩ = some vs[j] := by
  obtain ⟨t, ht⟩ := h
  unfold World.cell?
  simp [ht, hj]

theorem Cl.frozen {w : World} {b : Nat} {vs : List Value} (h : Cl w b vs) (j : Nat) : w.frozen? ⟨b, j, none⟩ = false := by
  obtain ⟨t, ht⟩ := h
  unfold World.frozen?
  simp [ht]

theorem Cl.set {w : World} {b : Nat} {vs : List Value} (h : Cl w b vs) (j : Nat) (v : Value) : Cl (w.setCell ⟨b, j, none⟩ v) b (vs.set j v) := by
  obtain ⟨t, ht⟩ := h
  refine ⟨t, ?_⟩
  rw [heap_setCell_same w b j _ t _ ht]
  simp

theorem Cl.lt {w : World} {b : Nat} {vs : List Value} (h : Cl w b vs) : b < w.heap.size := by
  obtain ⟨t, ht⟩ := h
  exact (Array.getElem?_eq_some_iff.1 ht).1

/-- All blocks that there were but this one stand as they stood. -/
structure But (w w' : World) (b : Nat) : Prop where
  os : w'.os = w.os
  tape : w'.tape = w.tape
  output : w'.output = w.output
  size : w.heap.size ≤ w'.heap.size
  block : ∀ k, k < w.heap.size → k ≠ b → w'.heap[k]? = w.heap[k]?

theorem But.refl (w : World) (b : Nat) : But w w b := ⟨rfl, rfl, rfl, Nat.le_refl _, fun _ _ _ => rfl⟩
theorem But.set {w w' : World} {b : Nat} (h : But w w' b) (j : Nat) (v : Value) : But w (w'.setCell ⟨b, j, none⟩ v) b :=
  ⟨h.os, h.tape, h.output, by simpa using h.size, fun k hk hb => by rw [heap_setCell_other w' _ k v hb]; exact h.block k hk hb⟩
theorem But.drewN {w w' : World} {b : Nat} (h : But w w' b) (q : Nat) : But w (w'.drewN q) b := ⟨h.os, h.tape, h.output, h.size, h.block⟩
theorem But.trans {w w' w'' : World} {b : Nat} (h : But w w' b) (h2 : But w' w'' b) : But w w'' b :=
  ⟨h2.os.trans h.os, h2.tape.trans h.tape, h2.output.trans h.output, Nat.le_trans h.size h2.size, fun k hk hb => by rw [h2.block k (Nat.lt_of_lt_of_le hk h.size) hb]; exact h.block k hk hb⟩
theorem But.of_below {w w' : World} {b : Nat} (h : Below w.heap.size w w') : But w w' b := ⟨h.os, h.tape, h.output, h.size, fun k hk _ => h.block k hk⟩
theorem But.below {w w' : World} {b : Nat} (h : But w w' b) {n : Nat} (hn : n ≤ w.heap.size) (hb : n ≤ b) : Below n w w' := ⟨h.os, h.tape, h.output, h.size, fun k hk => h.block k (by omega) (by omega)⟩
theorem But.other {w w' : World} {b c : Nat} (h : But w w' b) {vs : List Value} (hc : Cl w c vs) (hne : c ≠ b) : Cl w' c vs := by
  obtain ⟨t, ht⟩ := hc
  exact ⟨t, by rw [h.block c (Array.getElem?_eq_some_iff.1 ht).1 hne]; exact ht⟩
theorem Cl.below {w w' : World} {b n : Nat} {vs : List Value} (h : Cl w b vs) (hb : Below n w w') (hn : b < n) : Cl w' b vs := by
  obtain ⟨t, ht⟩ := h
  exact ⟨t, by rw [hb.block b hn]; exact ht⟩

/-- A block of cells of that type, all of it one may write. -/
def Bl (t : TypeId) (w : World) (b : Nat) (vs : List Value) : Prop := w.heap[b]? = some (.cells vs.toArray t (0, 0))
theorem Bl.cl {t : TypeId} {w : World} {b : Nat} {vs : List Value} (h : Bl t w b vs) : Cl w b vs := ⟨t, h⟩
theorem Bl.cell {t : TypeId} {w : World} {b : Nat} {vs : List Value} (h : Bl t w b vs) (j : Nat) (hj : j < vs.length) : w.cell? ⟨b, j, none⟩ = some vs[j] := h.cl.cell j hj
theorem Bl.frozen {t : TypeId} {w : World} {b : Nat} {vs : List Value} (h : Bl t w b vs) (j : Nat) : w.frozen? ⟨b, j, none⟩ = false := h.cl.frozen j
theorem Bl.lt {t : TypeId} {w : World} {b : Nat} {vs : List Value} (h : Bl t w b vs) : b < w.heap.size := h.cl.lt
theorem Bl.set {t : TypeId} {w : World} {b : Nat} {vs : List Value} (h : Bl t w b vs) (j : Nat) (v : Value) : Bl t (w.setCell ⟨b, j, none⟩ v) b (vs.set j v) := by
  unfold Bl at *
  rw [heap_setCell_same w b j _ t _ h]
  simp
theorem Bl.drewN {t : TypeId} {w : World} {b : Nat} {vs : List Value} (h : Bl t w b vs) (q : Nat) : Bl t (w.drewN q) b vs := h
theorem Bl.below {t : TypeId} {w w' : World} {b n : Nat} {vs : List Value} (h : Bl t w b vs) (hb : Below n w w') (hn : b < n) : Bl t w' b vs := by
  unfold Bl at *
  rw [hb.block b hn]; exact h
theorem Bl.but {t : TypeId} {w w' : World} {b c : Nat} {vs : List Value} (h : Bl t w c vs) (hb : But w w' b) (hne : c ≠ b) : Bl t w' c vs := by
  have := h.lt
  unfold Bl at *
  rw [hb.block c this hne]; exact h

end Go.Proofs.YtpfdaclmchcbiaaDoor.Sha