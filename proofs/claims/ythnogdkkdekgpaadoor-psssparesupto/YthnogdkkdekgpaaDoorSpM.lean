import Derived.Test.YthnogdkkdekgpaaDoorPI
import Derived.Test.YthnogdkkdekgpaaDoorRsKeepR
namespace Go.Proofs.YthnogdkkdekgpaaDoor
open Go.RowKit

/-- Since ws only blocks that f names, and new ones, have changed. -/
structure Chf (f : Nat → Prop) (ws wr : World) : Prop where
  os : wr.os = ws.os
  tape : wr.tape = ws.tape
  output : wr.output = ws.output
  size : ws.heap.size ≤ wr.heap.size
  block : ∀ k, k < ws.heap.size → ¬ f k → wr.heap[k]? = ws.heap[k]?
theorem Chf.refl (f : Nat → Prop) (w : World) : Chf f w w := ⟨rfl, rfl, rfl, Nat.le_refl _, fun _ _ _ => rfl⟩
theorem Chf.grown {f : Nat → Prop} {ws wr w' : World} {r : Option Nat} (h : Chf f ws wr) (hg : wr.grownBy w' r) (hr : ∀ g, r = some g → f g ∨ ws.heap.size ≤ g) : Chf f ws w' :=
  ⟨hg.os.trans h.os, hg.tape.trans h.tape, hg.output.trans h.output, Nat.le_trans h.size hg.size, fun k hk hc => (hg.block k (Nat.lt_of_lt_of_le hk h.size) (fun e => by rcases hr k e.symm with h1 | h1; exact hc h1; omega)).trans (h.block k hk hc)⟩
theorem Chf.alloc {f : Nat → Prop} {ws wr : World} (h : Chf f ws wr) (o : Obj) : Chf f ws (wr.alloc o) := by
  have b := alloc_below wr o
  exact ⟨b.os.trans h.os, b.tape.trans h.tape, b.output.trans h.output, Nat.le_trans h.size b.size, fun k hk hc => (b.block k (Nat.lt_of_lt_of_le hk h.size)).trans (h.block k hk hc)⟩
theorem Chf.drewN {f : Nat → Prop} {ws wr : World} (h : Chf f ws wr) (q : Nat) : Chf f ws (wr.drewN q) := ⟨h.os, h.tape, h.output, h.size, h.block⟩
theorem Rd.chf {f : Nat → Prop} {ws wr : World} {ao : Option Addr} {l : List UInt8} (h : Rd ws ao l) (hc : Chf f ws wr) (hf : ∀ a, ao = some a → ¬ f a.block) : Rd wr ao l := by
  rcases h with h | ⟨g, off, e, hg, hcell⟩
  · exact .inl h
  · exact .inr ⟨g, off, e, Nat.lt_of_lt_of_le hg hc.size, fun j hj => cell_but (hcell j hj) fun h1 => hc.block g h1 (hf _ e)⟩
theorem Chf.below {f : Nat → Prop} {W ws wr : World} (h : Chf f ws wr) (hb : Below W.heap.size W ws) (hf : ∀ k, k < W.heap.size → ¬ f k) : Below W.heap.size W wr :=
  ⟨h.os.trans hb.os, h.tape.trans hb.tape, h.output.trans hb.output, Nat.le_trans hb.size h.size, fun k hk => (h.block k (Nat.lt_of_lt_of_le hk hb.size) (hf k hk)).trans (hb.block k hk)⟩

theorem fill_setP (p : UInt8) (n i : Nat) (E : List UInt8) (hE : E.length = n) (hi : i < n) : ((List.replicate i p ++ E.drop i).map B).set i (B p) = (List.replicate (i + 1) p ++ E.drop (i + 1)).map B := by
  rw [← List.map_set, List.set_append_right _ _ (by simp), List.length_replicate, Nat.sub_self, List.drop_eq_getElem_cons (by omega), List.set_cons_zero, List.replicate_succ', List.append_assoc]
  rfl

/-- A row of n bytes p, and what grew out of it by j bytes q. -/
structure G1 (ws wr : World) (lo hi : Nat) (p q : UInt8) (va x : Value) (n j : Nat) : Prop where
  own : wr.ownsRow 0 5 1 x (n + j) ((List.replicate n p ++ List.replicate j q).map B)
  ownA : wr.ownsRow 0 5 1 va n ((List.replicate n p).map B)
  blk : x.ownBlock = va.ownBlock ∨ ∃ g, x.ownBlock = some g ∧ ws.heap.size ≤ g
  ina : ∀ g, va.ownBlock = some g → lo ≤ g ∧ g < hi
theorem G1.row {ws wr : World} {lo hi : Nat} {p q : UInt8} {va x : Value} {n j : Nat} (h : G1 ws wr lo hi p q va x n j) : ∀ g, x.ownBlock = some g → (lo ≤ g ∧ g < hi) ∨ ws.heap.size ≤ g := fun g hg => by
  rcases h.blk with e | ⟨g2, e, hg2⟩
  · rw [hg] at e; exact .inl (h.ina g e.symm)
  · rw [hg] at e; injection e with e; subst e; exact .inr hg2
theorem G1.alloc {ws wr : World} {lo hi : Nat} {p q : UInt8} {va x : Value} {n j : Nat} (h : G1 ws wr lo hi p q va x n j) (o : Obj) : G1 ws (wr.alloc o) lo hi p q va x n j := ⟨h.own.alloc _, h.ownA.alloc _, h.blk, h.ina⟩
theorem G1.other {ws wr w' : World} {lo hi : Nat} {p q : UInt8} {va x : Value} {n j : Nat} {r : Option Nat} (h : G1 ws wr lo hi p q va x n j) (hg : wr.grownBy w' r) (h1 : ∀ g, r = some g → va.ownBlock ≠ some g) (h2 : ∀ g, r = some g → x.ownBlock ≠ some g) : G1 ws w' lo hi p q va x n j := by
  have key : ∀ v : Value, (∀ g, r = some g → v.ownBlock ≠ some g) → v.ownBlock = none ∨ v.ownBlock ≠ r := fun v hv => by
    cases hb : v.ownBlock with
    | none => exact .inl rfl
    | some g => exact .inr (fun e => hv g e.symm hb)
  exact ⟨h.own.kept hg (key x h2), h.ownA.kept hg (key va h1), h.blk, h.ina⟩
theorem G1.step {ws wr : World} {lo hi : Nat} {p q : UInt8} {va x : Value} {n j : Nat} (h : G1 ws wr lo hi p q va x n j) (hn : n + j ≤ 1000000) (hws : ws.heap.size ≤ wr.heap.size) :
    ∃ v' w', (Builtin.append_ #[23, 23] 23 #[x, .slice (some ⟨wr.heap.size, 0, none⟩) 1 1]).run Tryd.prog (wr.alloc (.cells #[.int .u8 (q.toNat : Int)] 5)) = .ok v' w' ∧ G1 ws w' lo hi p q va v' n (j + 1) ∧ (wr.alloc (.cells #[.int .u8 (q.toNat : Int)] 5)).grownBy w' x.ownBlock ∧ (v'.ownBlock = x.ownBlock ∨ ∃ g, v'.ownBlock = some g ∧ wr.heap.size < g) := by
  obtain ⟨i, hi1, hz, hsize, hby⟩ := info_parts infoB
  have hcell : (wr.alloc (.cells #[.int .u8 (q.toNat : Int)] 5)).cell? ⟨wr.heap.size, 0, none⟩ = some (B q) := (alloc_bl wr (([q] : List UInt8).map B) 5).cell 0 (by simp)
  obtain ⟨v', w', hrun, hown, hgr, hblk, hkeep⟩ := append_keep (wr.alloc (.cells #[.int .u8 (q.toNat : Int)] 5)) 23 5 23 i (.int .u8 0) 1 Tryd.underlying23 hi1 hz hsize hby rfl x (n + j) _ (h.own.alloc _) ⟨wr.heap.size, 0, none⟩ (B q) hcell rfl (by omega) (by unfold maxLen; omega)
  have hsA : (wr.alloc (.cells #[.int .u8 (q.toNat : Int)] 5)).heap.size = wr.heap.size + 1 := World.size_alloc _ _
  refine ⟨v', w', hrun, ⟨?_, ?_, ?_, h.ina⟩, hgr, ?_⟩
  · rw [show n + (j + 1) = n + j + 1 by omega, List.replicate_succ', ← List.append_assoc, List.map_append]
    exact hown
  · by_cases hb : va.ownBlock = x.ownBlock
    · exact hkeep va n _ (by omega) hb (h.ownA.alloc _)
    · exact (h.ownA.alloc _).kept hgr (.inr hb)
  · rcases hblk with e | ⟨g, e, hg⟩
    · rw [e]; exact h.blk
    · exact .inr ⟨g, e, by omega⟩
  · rcases hblk with e | ⟨g, e, hg⟩
    · exact .inl e
    · exact .inr ⟨g, e, by omega⟩
theorem G1.cellA {ws wr : World} {lo hi : Nat} {p q : UInt8} {x : Value} {g n c j : Nat} (h : G1 ws wr lo hi p q (.slice (some ⟨g, 0, none⟩) n c) x n j) (i : Nat) (hi2 : i < n) : wr.cell? ⟨g, i, none⟩ = some (.int .u8 (p.toNat : Int)) := by
  rw [h.ownA.cellAt i (by omega), List.getElem?_map, List.getElem?_replicate, if_pos hi2]
  rfl
theorem G1.cellX {ws wr : World} {lo hi : Nat} {p q : UInt8} {va : Value} {g n c j : Nat} (h : G1 ws wr lo hi p q va (.slice (some ⟨g, 0, none⟩) (n + j) c) n j) (i : Nat) : (i < n → wr.cell? ⟨g, i, none⟩ = some (.int .u8 (p.toNat : Int))) ∧ (n ≤ i → i < n + j → wr.cell? ⟨g, i, none⟩ = some (.int .u8 (q.toNat : Int))) := by
  constructor
  · intro hi2
    rw [h.own.cellAt i (by omega), List.getElem?_map, List.getElem?_append_left (by simpa using hi2), List.getElem?_replicate, if_pos hi2]
    rfl
  · intro h1 h2
    rw [h.own.cellAt i (by omega), List.getElem?_map, List.getElem?_append_right (by simpa using h1), List.getElem?_replicate, if_pos (by rw [List.length_replicate]; omega)]
    rfl

/-- Both rows. -/
structure S2 (ws wr : World) (l1 h1 l2 h2 : Nat) (va x vc y : Value) (na nc j1 j2 : Nat) : Prop where
  A : G1 ws wr l1 h1 77 79 va x na j1
  C : G1 ws wr l2 h2 78 80 vc y nc j2
  ap : ∀ g, x.ownBlock = some g → y.ownBlock ≠ some g
  o1 : h1 ≤ l2
  o2 : h2 ≤ ws.heap.size
  chg : Chf (fun k => (l1 ≤ k ∧ k < h1) ∨ (l2 ≤ k ∧ k < h2)) ws wr
theorem S2.stepX {ws wr : World} {l1 h1 l2 h2 : Nat} {va x vc y : Value} {na nc j1 j2 : Nat} (h : S2 ws wr l1 h1 l2 h2 va x vc y na nc j1 j2) (hn : na + j1 ≤ 1000000) (_ : l1 ≤ h1 ∧ l2 ≤ h2) :
    ∃ v' w', (Builtin.append_ #[23, 23] 23 #[x, .slice (some ⟨wr.heap.size, 0, none⟩) 1 1]).run Tryd.prog (wr.alloc (.cells #[.int .u8 79] 5)) = .ok v' w' ∧ S2 ws w' l1 h1 l2 h2 va v' vc y na nc (j1 + 1) j2 := by
  obtain ⟨v', w', hrun, hA, hgr, hb⟩ := h.A.step hn h.chg.size
  have hx := h.A.row
  have ho1 := h.o1
  have ho2 := h.o2
  refine ⟨v', w', hrun, hA, (h.C.alloc _).other hgr (fun g e e2 => ?_) (fun g e => h.ap g e), ?_, h.o1, h.o2, (h.chg.alloc _).grown hgr (fun g e => ?_)⟩
  · have h3 := h.C.ina g e2
    rcases hx g e with h4 | h4 <;> omega
  · intro g e
    rcases hb with e2 | ⟨g2, e2, hg2⟩
    · rw [e2] at e; exact h.ap g e
    · rw [e2] at e; injection e with e; subst e
      intro e3
      have := (World.ownsRow.lt h.C.own g2 e3).2
      omega
  · rcases hx g e with h4 | h4
    · exact .inl (.inl h4)
    · exact .inr h4
theorem S2.stepY {ws wr : World} {l1 h1 l2 h2 : Nat} {va x vc y : Value} {na nc j1 j2 : Nat} (h : S2 ws wr l1 h1 l2 h2 va x vc y na nc j1 j2) (hn : nc + j2 ≤ 1000000) (ol : l1 ≤ h1 ∧ l2 ≤ h2) :
    ∃ v' w', (Builtin.append_ #[23, 23] 23 #[y, .slice (some ⟨wr.heap.size, 0, none⟩) 1 1]).run Tryd.prog (wr.alloc (.cells #[.int .u8 80] 5)) = .ok v' w' ∧ S2 ws w' l1 h1 l2 h2 va x vc v' na nc j1 (j2 + 1) := by
  obtain ⟨v', w', hrun, hC, hgr, hb⟩ := h.C.step hn h.chg.size
  have hy := h.C.row
  have ho1 := h.o1
  have ho2 := h.o2
  refine ⟨v', w', hrun, (h.A.alloc _).other hgr (fun g e e2 => ?_) (fun g e e2 => h.ap g e2 e), hC, ?_, h.o1, h.o2, (h.chg.alloc _).grown hgr (fun g e => ?_)⟩
  · have h3 := h.A.ina g e2
    rcases hy g e with h4 | h4 <;> omega
  · intro g e
    rcases hb with e2 | ⟨g2, e2, hg2⟩
    · rw [e2]; exact h.ap g e
    · rw [e2]
      intro e3
      injection e3 with e3
      subst e3
      have := (World.ownsRow.lt h.A.own g2 e).2
      omega
  · rcases hy g e with h4 | h4
    · exact .inl (.inr h4)
    · exact .inr h4

end Go.Proofs.YthnogdkkdekgpaaDoor
