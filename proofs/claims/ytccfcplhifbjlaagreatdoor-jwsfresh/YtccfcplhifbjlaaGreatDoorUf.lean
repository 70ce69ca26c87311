import Derived.Test.YtccfcplhifbjlaaGreatDoorLt
import Derived.Test.YtccfcplhifbjlaaGreatDoorB6Keep
namespace Go.Proofs.YtccfcplhifbjlaaGreatDoor
open Go.RowKit
set_option maxRecDepth 100000

theorem Owb.grown {w w' : World} {B0 : Nat} {v : Value} {l : List UInt8} {r : Option Nat} (h : Owb w B0 v l) (hg : w.grownBy w' r) (hne : ∀ g, v.ownBlock = some g → r ≠ some g) : Owb w' B0 v l :=
  own_keep h fun g e => hg.block g (h.lt g e).2 (fun e' => hne g e (by first | exact e' | exact e'.symm))
theorem Rd.grownb {w w' : World} {ao : Option Addr} {l : List UInt8} {r : Option Nat} (h : Rd w ao l) (hg : w.grownBy w' r) (hne : ∀ a, ao = some a → r ≠ some a.block) : Rd w' ao l := by
  rcases h with h | ⟨g, off, e, hlt, hc⟩
  · exact .inl h
  · exact .inr ⟨g, off, e, Nat.lt_of_lt_of_le hlt hg.size, fun j hj => cell_but (hc j hj) fun h1 => hg.block g h1 (fun e' => hne _ e (by first | exact e' | exact e'.symm))⟩
theorem Owb.put {w : World} {B0 g n c : Nat} {l : List UInt8} (h : Owb w B0 (.slice (some ⟨g, 0, none⟩) n c) l) (j : Nat) (x : UInt8) : Owb (w.setCell ⟨g, j, none⟩ (B x)) B0 (.slice (some ⟨g, 0, none⟩) n c) (l.set j x) := by
  rcases h.2 with ⟨h0, _⟩ | ⟨g2, cap2, cur, e, hg, hh, hn, hc, hsz, ht⟩
  · cases h0
  · have e' := e
    injection e with e1 e2 e3
    injection e1 with e1
    injection e1 with e1
    subst e1; subst e3
    refine ⟨by simp, .inr ⟨g, c, (cur.toList.set j (B x)).toArray, by rw [List.length_set]; exact e', hg, ?_, by rw [List.length_set]; exact hn, hc, by simpa using hsz, ?_⟩⟩
    · rw [heap_setCell_same w g j cur 5 _ hh]
      have e : cur.setIfInBounds j (B x) = (cur.toList.set j (B x)).toArray := by
        apply Array.ext'
        simp
      simpa using e
    · rw [List.length_set, List.map_set, ← ht]
      simp [List.take_set]
theorem Owb.frozen {w : World} {B0 g n c : Nat} {l : List UInt8} (h : Owb w B0 (.slice (some ⟨g, 0, none⟩) n c) l) (j : Nat) : w.frozen? ⟨g, j, none⟩ = false := by
  obtain ⟨cur, hc⟩ := own_type h (g := g) rfl
  unfold World.frozen?
  simp [hc]
theorem Owb.cell {w : World} {B0 g n c : Nat} {l : List UInt8} (h : Owb w B0 (.slice (some ⟨g, 0, none⟩) n c) l) (j : Nat) (hj : j < l.length) : w.cell? ⟨g, j, none⟩ = some (.int .u8 ((l.getD j 0).toNat : Int)) := by
  obtain ⟨ao, c', e, _, hr⟩ := h.nb
  injection e with e1 e2 e3
  subst e1
  obtain ⟨g', off, e, _, hc⟩ := hr.resolve_left (fun e => by rw [e] at hj; simp at hj)
  cases e
  have := hc j hj
  rwa [Nat.zero_add] at this
theorem Owb.some {w : World} {B0 n c : Nat} {a : Option Addr} {l : List UInt8} (h : Owb w B0 (.slice a n c) l) (hl : 0 < l.length) : ∃ g, a = some ⟨g, 0, none⟩ ∧ n = l.length ∧ l.length ≤ c ∧ c ≤ maxLen ∧ B0 ≤ g ∧ g < w.heap.size := by
  rcases h.2 with ⟨_, h0⟩ | ⟨g, cap, cur, e, hg, hh, hn, hc, _⟩
  · omega
  · injection e with e1 e2 e3
    exact ⟨g, e1, e2, by rw [e3]; exact hn, by rw [e3]; exact hc, hg, (Array.getElem?_eq_some_iff.1 hh).1⟩
theorem grown_set {w w' : World} {g j : Nat} {v : Value} (h : w.grownBy w' (Option.some g)) : w.grownBy (w'.setCell ⟨g, j, none⟩ v) (Option.some g) :=
  ⟨h.os, h.tape, h.output, by simpa using h.size, fun k hk hne => by rw [heap_setCell_other w' ⟨g, j, none⟩ k v (fun e => hne (by first | rw [e] | exact congrArg Option.some e | exact (congrArg Option.some e).symm))]; exact h.block k hk hne⟩
theorem grown_below {w w' : World} {r : Option Nat} {n : Nat} (h : w.grownBy w' r) (hr : ∀ g, r = Option.some g → n ≤ g) (hn : n ≤ w.heap.size) : Below n w w' :=
  ⟨h.os, h.tape, h.output, h.size, fun k hk => h.block k (by omega) (fun e => by have := hr k (by first | exact e | exact e.symm); omega)⟩

/-- A row that was gone on with, beside the row that it began as. -/
structure Mr (wL wr : World) (vb more : Value) (xs ys : List UInt8) : Prop where
  m : Owb wr 0 more (xs ++ ys)
  b : Owb wr 0 vb xs
  k : more.ownBlock = vb.ownBlock ∨ ∃ g, more.ownBlock = Option.some g ∧ wL.heap.size ≤ g
  g : wL.grownBy wr vb.ownBlock
  s : ∀ g, vb.ownBlock = Option.some g → g < wL.heap.size
theorem Mr.start {w : World} {B0 : Nat} {v : Value} {xs : List UInt8} (h : Owb w B0 v xs) : Mr w w v v xs [] :=
  ⟨by rw [List.append_nil]; exact h.base (Nat.zero_le _), h.base (Nat.zero_le _), .inl rfl, World.grownBy.refl _ _, fun g e => (h.lt g e).2⟩

theorem append_mr {wL wr : World} {ops : Array Oper} {rest : List Oper} {o : Oper} {a : Act} {Q : Exit → Act → World → Prop} (hgd : o.guard = none) (s x : Operand)
    (ho : o.op = .call { callee := .builtin .append, args := #[s, x], argTypes := #[30, 30] })
    (vb more : Value) (xs ys : List UInt8) (z : UInt8) (hs : a.eval s = more) (h : Mr wL wr vb more xs ys) (hx : a.eval x = .slice (Option.some ⟨wr.heap.size, 0, none⟩) 1 1) (hl : (xs ++ ys).length ≤ 1000000000)
    (k : ∀ v' w', Mr wL w' vb v' xs (ys ++ [z]) → wpList Tryz.prog ops Q rest (a.put o.dst v') w') : wpList Tryz.prog ops Q (o :: rest) a (wr.alloc (.cells #[.int .u8 (z.toNat : Int)] 5)) := by
  obtain ⟨i, hi, hz, hsize, hby⟩ := info_parts infoB
  have hbl := alloc_bl wr [.int .u8 (z.toNat : Int)] 5
  have hal : Below wr.heap.size wr (wr.alloc (.cells #[.int .u8 (z.toNat : Int)] 5)) := alloc_below wr _
  have hm1 := h.m.below hal (Nat.le_refl _)
  have hb1 := h.b.below hal (Nat.le_refl _)
  obtain ⟨v', w', hrun, hown, hgr, hk, hkeep⟩ := B64.append_keep (wr.alloc (.cells #[.int .u8 (z.toNat : Int)] 5)) 30 5 o.type i (.int .u8 0) 1 Tryz.underlying30 hi hz hsize hby rfl more (xs ++ ys).length ((xs ++ ys).map B) hm1 ⟨wr.heap.size, 0, none⟩ (.int .u8 (z.toNat : Int)) (hbl.cell 0 (by simp)) rfl (by omega) (by unfold maxLen; omega)
  refine B64.wpList_append_run hgd s x 30 ho more _ v' w' hs hx hrun ?_
  have hsz : wr.heap.size ≤ (wr.alloc (.cells #[.int .u8 (z.toNat : Int)] 5)).heap.size := hal.size
  refine k v' w' ⟨?_, ?_, ?_, ?_, h.s⟩
  · have e : ((xs ++ (ys ++ [z])).map B) = (xs ++ ys).map B ++ [.int .u8 (z.toNat : Int)] := by simp [B]
    unfold Owb
    rw [e, show (xs ++ (ys ++ [z])).length = (xs ++ ys).length + 1 by simp; omega]
    exact hown
  · rcases h.k with he | ⟨g, he, hg⟩
    · exact hkeep vb xs.length (xs.map B) (by simp) he.symm hb1
    · exact hb1.grown hgr (fun g' e' => by
        have := h.s g' e'
        rw [he]
        intro e2
        injection e2 with e2
        omega)
  · rcases hk with he | ⟨g, he, hg⟩
    · rcases h.k with h2 | ⟨g2, h2, h3⟩
      · exact .inl (he.trans h2)
      · exact .inr ⟨g2, he.trans h2, h3⟩
    · exact .inr ⟨g, he, by have := h.g.size; omega⟩
  · refine ⟨hgr.os.trans (hal.os.trans h.g.os), hgr.tape.trans (hal.tape.trans h.g.tape), hgr.output.trans (hal.output.trans h.g.output), Nat.le_trans h.g.size (Nat.le_trans hsz hgr.size), fun q hq hne => ?_⟩
    have hq1 : q < wr.heap.size := Nat.lt_of_lt_of_le hq h.g.size
    rw [hgr.block q (Nat.lt_of_lt_of_le hq1 hsz) ?_, hal.block q hq1]
    · exact h.g.block q hq hne
    · rcases h.k with he | ⟨g, he, hg⟩
      · rw [he]; exact hne
      · rw [he]
        intro e2
        have : q = g := by simpa using e2
        omega

end Go.Proofs.YtccfcplhifbjlaaGreatDoor
