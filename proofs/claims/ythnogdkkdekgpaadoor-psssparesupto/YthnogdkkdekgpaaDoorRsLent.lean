import Derived.Test.YthnogdkkdekgpaaDoorRsOdd
import Derived.Test.YthnogdkkdekgpaaDoorNtZ7
namespace Go.Proofs.YthnogdkkdekgpaaDoor
open Go.RowKit

theorem xorB_all : ∀ a b : Fin 256, bits .xor .u8 (a.val : Int) (b.val : Int) = ((a.val ^^^ b.val : Nat) : Int) := fun a b => by
  have h := u8_xor_nat a.val b.val a.isLt b.isLt
  exact h
theorem xor_b (x y : UInt8) : bits .xor .u8 (x.toNat : Int) (y.toNat : Int) = ((x ^^^ y).toNat : Int) := by
  have := xorB_all ⟨x.toNat, x.toNat_lt⟩ ⟨y.toNat, y.toNat_lt⟩
  simp only at this
  rw [this, UInt8.toNat_xor]

/-- The marks behind lent bytes. -/
def mk40 : List UInt8 := List.replicate 40 165
theorem mk40_length : mk40.length = 40 := rfl
theorem mk40_get (i : Nat) (h : i < mk40.length) : mk40[i] = 165 := List.getElem_replicate h
/-- Bytes lent, with marked room behind them, in a block from B0 on. -/
def Ln (w : World) (B0 g cap : Nat) (l : List UInt8) : Prop := Owb w B0 (.slice (some ⟨g, 0, none⟩) (l.length + 40) cap) (l ++ mk40)
theorem Ln.below {w w' : World} {B0 g cap n : Nat} {l : List UInt8} (h : Ln w B0 g cap l) (hb : Below n w w') (hn : w.heap.size ≤ n) : Ln w' B0 g cap l := Owb.below h hb hn
theorem Ln.drewN {w : World} {B0 g cap : Nat} {l : List UInt8} (h : Ln w B0 g cap l) (q : Nat) : Ln (w.drewN q) B0 g cap l := h
theorem Ln.parts {w : World} {B0 g cap : Nat} {l : List UInt8} (h : Ln w B0 g cap l) : B0 ≤ g ∧ g < w.heap.size ∧ l.length + 40 ≤ cap ∧ cap ≤ maxLen ∧ ∃ r, Bl 5 w g ((l ++ mk40).map B ++ r) ∧ l.length + 40 + r.length = cap := by
  rcases h.2 with ⟨h0, _⟩ | ⟨g2, cap2, cur, e, hg, hh, hn, hc, hsz, ht⟩
  · cases h0
  · injection e with e1 e2 e3
    injection e1 with e1
    injection e1 with e1
    subst e1; subst e3
    have hll : (l ++ mk40).length = l.length + 40 := by simp [mk40_length]
    refine ⟨hg, (Array.getElem?_eq_some_iff.1 hh).1, by rw [← hll]; exact hn, hc, cur.toList.drop ((l ++ mk40).length * 1), ?_, ?_⟩
    · unfold Bl
      rw [hh, ← ht, List.take_append_drop]
    · have e4 : cur.toList.length = cap := by rw [Array.length_toList, hsz, Nat.mul_one]
      rw [List.length_drop, e4, hll]
      rw [hll] at hn
      omega
theorem Ln.mk {w : World} {B0 g cap : Nat} {l : List UInt8} {r : List Value} (hb : Bl 5 w g ((l ++ mk40).map B ++ r)) (hg : B0 ≤ g) (hc : l.length + 40 ≤ cap) (hm : cap ≤ maxLen) (hs : l.length + 40 + r.length = cap) : Ln w B0 g cap l := by
  have hll : (l ++ mk40).length = l.length + 40 := by simp [mk40_length]
  refine ⟨by simp, .inr ⟨g, cap, _, by rw [hll], hg, hb, by rw [hll]; exact hc, hm, ?_, ?_⟩⟩
  · simp [mk40_length]; omega
  · rw [show ((l ++ mk40).map B ++ r).toArray.toList = (l ++ mk40).map B ++ r from rfl]
    rw [List.take_append_of_le_length (by simp), List.take_of_length_le (by simp)]
theorem Ln.rd {w : World} {B0 g cap : Nat} {l : List UInt8} (h : Ln w B0 g cap l) : Rd w (some ⟨g, 0, none⟩) l := by
  obtain ⟨_, hg, _, _, r, hb, _⟩ := h.parts
  refine .inr ⟨g, 0, rfl, hg, fun j hj => ?_⟩
  rw [Nat.zero_add, hb.cell j (by simp; omega), List.getElem_append_left (by simp; omega), List.getElem_map, List.getElem_append_left hj, List.getD_eq_getElem?_getD, List.getElem?_eq_getElem hj]
  rfl
theorem Ln.cell {w : World} {B0 g cap : Nat} {l : List UInt8} (h : Ln w B0 g cap l) (j : Nat) (hj : j < l.length) : w.cell? ⟨g, j, none⟩ = some (.int .u8 ((l.getD j 0).toNat : Int)) := by
  obtain ⟨g2, off, e, _, hc⟩ := h.rd.resolve_left (fun e => by rw [e] at hj; simp at hj)
  cases e
  have := hc j hj
  rwa [Nat.zero_add] at this
theorem Ln.mark {w : World} {B0 g cap : Nat} {l : List UInt8} (h : Ln w B0 g cap l) (j : Nat) (h1 : l.length ≤ j) (h2 : j < l.length + 40) : w.cell? ⟨g, j, none⟩ = some (.int .u8 165) := by
  obtain ⟨_, hg, _, _, r, hb, _⟩ := h.parts
  rw [hb.cell j (by simp [mk40_length]; omega), List.getElem_append_left (by simp [mk40_length]; omega), List.getElem_map, List.getElem_append_right h1]
  rw [mk40_get]
  rfl
theorem Ln.set {w : World} {B0 g cap : Nat} {l : List UInt8} (h : Ln w B0 g cap l) (j : Nat) (hj : j < l.length) (x : UInt8) : Ln (w.setCell ⟨g, j, none⟩ (B x)) B0 g cap (l.set j x) := by
  obtain ⟨hg, _, h1, h2, r, hb, hs⟩ := h.parts
  have hst := hb.set j (B x)
  rw [List.set_append_left _ _ (by simp; omega), ← List.map_set, List.set_append_left _ _ hj] at hst
  exact Ln.mk hst hg (by rw [List.length_set]; exact h1) h2 (by rw [List.length_set]; exact hs)
theorem Ln.but {w w' : World} {B0 g cap b : Nat} {l : List UInt8} (h : Ln w B0 g cap l) (hb : But w w' b) (hne : g ≠ b) : Ln w' B0 g cap l := by
  rcases h.2 with ⟨h0, _⟩ | ⟨g2, cap2, cur, e, hg, hh, r⟩
  · cases h0
  · injection e with e1 e2 e3
    injection e1 with e1
    injection e1 with e1
    subst e1; subst e3
    exact ⟨h.1, .inr ⟨g, cap, cur, by rw [show (l ++ mk40).length = l.length + 40 by simp [mk40_length]], hg, by rw [hb.block g (Array.getElem?_eq_some_iff.1 hh).1 hne]; exact hh, r⟩⟩
theorem Rd.butb {w w' : World} {ao : Option Addr} {l : List UInt8} {b : Nat} (h : Rd w ao l) (hb : But w w' b) (ho : ∀ a, ao = some a → a.block ≠ b) : Rd w' ao l := by
  rcases h with h | ⟨g, off, e, hg, hc⟩
  · exact .inl h
  · exact .inr ⟨g, off, e, Nat.lt_of_lt_of_le hg hb.size, fun j hj => cell_but (hc j hj) fun h1 => hb.block g h1 (ho _ e)⟩

end Go.Proofs.YthnogdkkdekgpaaDoor
