import Derived.Test.YtdhfjhdlimmjhaaGreatDoorBase
import Derived.Laws.AppendOwnNone
namespace Go.Proofs.YtdhfjhdlimmjhaaGreatDoor
open Go.RowKit
set_option maxRecDepth 100000

theorem infoB : (Tryz.prog.info? 5).map (fun i => (i.zero, i.size, i.bytes)) = some (some (.int .u8 0), 1, 1) := by kernel_rfl
theorem oneB (l : List UInt8) : ∀ v ∈ l.map B, v.oneCell' = true := by
  intro v hv
  obtain ⟨c, _, rfl⟩ := List.mem_map.1 hv
  rfl
def Owb (w : World) (base : Nat) (v : Value) (l : List UInt8) : Prop := w.ownsRow base 5 1 v l.length (l.map B)
theorem Owb.nil (w : World) (base : Nat) : Owb w base (.slice none 0 0) [] := ⟨rfl, .inl ⟨rfl, rfl⟩⟩
theorem Owb.below {w w' : World} {base n : Nat} {v : Value} {xs : List UInt8} (h : Owb w base v xs) (hb : Below n w w') (hn : w.heap.size ≤ n) : Owb w' base v xs := by
  rcases h.2 with h0 | ⟨g, cap, cur, e, hg, hh, r⟩
  · exact ⟨h.1, .inl h0⟩
  · exact ⟨h.1, .inr ⟨g, cap, cur, e, hg, by rw [hb.block g (Nat.lt_of_lt_of_le (Array.getElem?_eq_some_iff.1 hh).1 hn)]; exact hh, r⟩⟩
theorem Owb.drewN {w : World} {base : Nat} {v : Value} {xs : List UInt8} (h : Owb w base v xs) (q : Nat) : Owb (w.drewN q) base v xs := h
theorem Owb.base {w : World} {base base' : Nat} {v : Value} {xs : List UInt8} (h : Owb w base v xs) (hb : base' ≤ base) : Owb w base' v xs := by
  rcases h.2 with h0 | ⟨g, cap, cur, e, hg, r⟩
  · exact ⟨h.1, .inl h0⟩
  · exact ⟨h.1, .inr ⟨g, cap, cur, e, Nat.le_trans hb hg, r⟩⟩
def Nb (w : World) (v : Value) (l : List UInt8) : Prop := ∃ (ao : Option Addr) (c : Nat), v = .slice ao l.length c ∧ l.length ≤ c ∧ Rd w ao l
theorem Nb.below {w w' : World} {v : Value} {xs : List UInt8} {n : Nat} (h : Nb w v xs) (hb : Below n w w') (hn : w.heap.size ≤ n) : Nb w' v xs := by
  obtain ⟨ao, c, e, hc, hr⟩ := h
  exact ⟨ao, c, e, hc, hr.below hb hn⟩
theorem Nb.drewN {w : World} {v : Value} {xs : List UInt8} (h : Nb w v xs) (q : Nat) : Nb (w.drewN q) v xs := h
theorem Owb.nb {w : World} {base : Nat} {v : Value} {xs : List UInt8} (h : Owb w base v xs) : Nb w v xs := by
  rcases h.2 with ⟨rfl, h0⟩ | ⟨g, cap, cur, rfl, hg, hh, hn, hc, hsz, ht⟩
  · have : xs = [] := List.eq_nil_of_length_eq_zero h0
    subst this
    exact ⟨none, 0, rfl, Nat.le_refl _, .inl rfl⟩
  · refine ⟨_, cap, rfl, hn, .inr ⟨g, 0, rfl, (World.ownsRow.lt h g rfl).2, fun j hj => ?_⟩⟩
    rw [Nat.zero_add, World.ownsRow.cellAt h j (by omega)]
    rw [List.getElem?_map, List.getElem?_eq_getElem hj, List.getD_eq_getElem?_getD, List.getElem?_eq_getElem hj]; rfl
structure OBb (B0 : Nat) (w ws : World) (v : Value) (xs : List UInt8) : Prop where
  own : Owb ws B0 v xs
  bel : Below B0 w ws
theorem OBb.nil (w : World) : OBb w.heap.size w w (.slice none 0 0) [] := ⟨Owb.nil _ _, Below.refl _ _⟩
def mk40 : List UInt8 := List.replicate 40 165
theorem mk40_length : mk40.length = 40 := rfl
def Ln (w : World) (B0 g cap : Nat) (l : List UInt8) : Prop := Owb w B0 (.slice (some ⟨g, 0, none⟩) (l.length + 40) cap) (l ++ mk40)
theorem Ln.below {w w' : World} {B0 g cap n : Nat} {l : List UInt8} (h : Ln w B0 g cap l) (hb : Below n w w') (hn : w.heap.size ≤ n) : Ln w' B0 g cap l := Owb.below h hb hn
theorem Ln.drewN {w : World} {B0 g cap : Nat} {l : List UInt8} (h : Ln w B0 g cap l) (q : Nat) : Ln (w.drewN q) B0 g cap l := h
theorem Ln.parts {w : World} {B0 g cap : Nat} {l : List UInt8} (h : Ln w B0 g cap l) : B0 ≤ g ∧ g < w.heap.size ∧ l.length + 40 ≤ cap ∧ cap ≤ maxLen ∧ ∃ r, Bl 5 w g ((l ++ mk40).map B ++ r) ∧ l.length + 40 + r.length = cap := by
  rcases h.2 with ⟨h0, _⟩ | ⟨g2, cap2, cur, e, hg, hh, hn, hc, hsz, ht⟩
  · cases h0
  · injection e with e1 e2 e3
    injection e1 with e1
    injection e1 with e1
    subst e1; subst e3
    have hll : (l ++ mk40).length = l.length + 40 := by simp [mk40_length]
    refine ⟨hg, (Array.getElem?_eq_some_iff.1 hh).1, by rw [← hll]; exact hn, hc, cur.toList.drop ((l ++ mk40).length * 1), ?_, ?_⟩
    · unfold Bl
      rw [hh, ← ht, List.take_append_drop]
    · have e4 : cur.toList.length = cap := by rw [Array.length_toList, hsz, Nat.mul_one]
      rw [List.length_drop, e4, hll]
      rw [hll] at hn
      omega
theorem Ln.mk {w : World} {B0 g cap : Nat} {l : List UInt8} {r : List Value} (hb : Bl 5 w g ((l ++ mk40).map B ++ r)) (hg : B0 ≤ g) (hc : l.length + 40 ≤ cap) (hm : cap ≤ maxLen) (hs : l.length + 40 + r.length = cap) : Ln w B0 g cap l := by
  have hll : (l ++ mk40).length = l.length + 40 := by simp [mk40_length]
  refine ⟨by simp, .inr ⟨g, cap, _, by rw [hll], hg, hb, by rw [hll]; exact hc, hm, ?_, ?_⟩⟩
  · simp [mk40_length]; omega
  · rw [show ((l ++ mk40).map B ++ r).toArray.toList = (l ++ mk40).map B ++ r from rfl]
    rw [List.take_append_of_le_length (by simp), List.take_of_length_le (by simp)]
theorem Ln.rd {w : World} {B0 g cap : Nat} {l : List UInt8} (h : Ln w B0 g cap l) : Rd w (some ⟨g, 0, none⟩) l := by
  obtain ⟨_, hg, _, _, r, hb, _⟩ := h.parts
  refine .inr ⟨g, 0, rfl, hg, fun j hj => ?_⟩
  rw [Nat.zero_add, hb.cell j (by simp; omega), List.getElem_append_left (by simp; omega), List.getElem_map, List.getElem_append_left hj, List.getD_eq_getElem?_getD, List.getElem?_eq_getElem hj]
  rfl
theorem Ln.cell {w : World} {B0 g cap : Nat} {l : List UInt8} (h : Ln w B0 g cap l) (j : Nat) (hj : j < l.length) : w.cell? ⟨g, j, none⟩ = some (.int .u8 ((l.getD j 0).toNat : Int)) := by
  obtain ⟨g2, off, e, _, hc⟩ := h.rd.resolve_left (fun e => by rw [e] at hj; simp at hj)
  cases e
  have := hc j hj
  rwa [Nat.zero_add] at this
theorem Ln.set {w : World} {B0 g cap : Nat} {l : List UInt8} (h : Ln w B0 g cap l) (j : Nat) (hj : j < l.length) (x : UInt8) : Ln (w.setCell ⟨g, j, none⟩ (B x)) B0 g cap (l.set j x) := by
  obtain ⟨hg, _, h1, h2, r, hb, hs⟩ := h.parts
  have hst := hb.set j (B x)
  rw [List.set_append_left _ _ (by simp; omega), ← List.map_set, List.set_append_left _ _ hj] at hst
  exact Ln.mk hst hg (by rw [List.length_set]; exact h1) h2 (by rw [List.length_set]; exact hs)
theorem Ln.but {w w' : World} {B0 g cap b : Nat} {l : List UInt8} (h : Ln w B0 g cap l) (hb : But w w' b) (hne : g ≠ b) : Ln w' B0 g cap l := by
  rcases h.2 with ⟨h0, _⟩ | ⟨g2, cap2, cur, e, hg, hh, r⟩
  · cases h0
  · injection e with e1 e2 e3
    injection e1 with e1
    injection e1 with e1
    subst e1; subst e3
    exact ⟨h.1, .inr ⟨g, cap, cur, by rw [show (l ++ mk40).length = l.length + 40 by simp [mk40_length]], hg, by rw [hb.block g (Array.getElem?_eq_some_iff.1 hh).1 hne]; exact hh, r⟩⟩
end Go.Proofs.YtdhfjhdlimmjhaaGreatDoor
