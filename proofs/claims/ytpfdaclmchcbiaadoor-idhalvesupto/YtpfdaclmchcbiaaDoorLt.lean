import Derived.Test.YtpfdaclmchcbiaaDoorBase
import Derived.Laws.AppendOwnNone
namespace Go.Proofs.YtpfdaclmchcbiaaDoor
open Go.RowKit
set_option maxRecDepth 100000

theorem infoB : (Tryd.prog.info? 5).map (fun i => (i.zero, i.size, i.bytes)) = some (some (.int .u8 0), 1, 1) := by kernel_rfl
theorem oneB (l : List UInt8) : ∀ v ∈ l.map B, v.oneCell' = true := by
  intro v hv
  obtain ⟨c, _, rfl⟩ := List.mem_map.1 hv
  rfl
/-- A row of bytes of one's own. -/
def Owb (w : World) (base : Nat) (v : Value) (l : List UInt8) : Prop := w.ownsRow base 5 1 v l.length (l.map B)
theorem Owb.nil (w : World) (base : Nat) : Owb w base (.slice none 0 0) [] := ⟨rfl, .inl ⟨rfl, rfl⟩⟩
theorem Bl.owb {w : World} {base g : Nat} {l : List UInt8} (h : Bl 5 w g (l.map B)) (hg : base ≤ g) (hl : l.length ≤ 10000000000) : Owb w base (.slice (some ⟨g, 0, none⟩) l.length l.length) l := by
  refine ⟨by simp, .inr ⟨g, l.length, (l.map B).toArray, rfl, hg, h, Nat.le_refl _, ?_, by simp, ?_⟩⟩
  · unfold maxLen; omega
  · rw [List.take_of_length_le (by simp)]
theorem Owb.below {w w' : World} {base n : Nat} {v : Value} {xs : List UInt8} (h : Owb w base v xs) (hb : Below n w w') (hn : w.heap.size ≤ n) : Owb w' base v xs := by
  rcases h.2 with h0 | ⟨g, cap, cur, e, hg, hh, r⟩
  · exact ⟨h.1, .inl h0⟩
  · exact ⟨h.1, .inr ⟨g, cap, cur, e, hg, by rw [hb.block g (Nat.lt_of_lt_of_le (Array.getElem?_eq_some_iff.1 hh).1 hn)]; exact hh, r⟩⟩
theorem Owb.drewN {w : World} {base : Nat} {v : Value} {xs : List UInt8} (h : Owb w base v xs) (q : Nat) : Owb (w.drewN q) base v xs := h
theorem Owb.base {w : World} {base base' : Nat} {v : Value} {xs : List UInt8} (h : Owb w base v xs) (hb : base' ≤ base) : Owb w base' v xs := by
  rcases h.2 with h0 | ⟨g, cap, cur, e, hg, r⟩
  · exact ⟨h.1, .inl h0⟩
  · exact ⟨h.1, .inr ⟨g, cap, cur, e, Nat.le_trans hb hg, r⟩⟩
/-- A value that is bytes. -/
def Nb (w : World) (v : Value) (l : List UInt8) : Prop := ∃ (ao : Option Addr) (c : Nat), v = .slice ao l.length c ∧ l.length ≤ c ∧ Rd w ao l
theorem Nb.below {w w' : World} {v : Value} {xs : List UInt8} {n : Nat} (h : Nb w v xs) (hb : Below n w w') (hn : w.heap.size ≤ n) : Nb w' v xs := by
  obtain ⟨ao, c, e, hc, hr⟩ := h
  exact ⟨ao, c, e, hc, hr.below hb hn⟩
theorem Nb.drewN {w : World} {v : Value} {xs : List UInt8} (h : Nb w v xs) (q : Nat) : Nb (w.drewN q) v xs := h
theorem Owb.nb {w : World} {base : Nat} {v : Value} {xs : List UInt8} (h : Owb w base v xs) : Nb w v xs := by
  rcases h.2 with ⟨rfl, h0⟩ | ⟨g, cap, cur, rfl, hg, hh, hn, hc, hsz, ht⟩
  · have : xs = [] := List.eq_nil_of_length_eq_zero h0
    subst this
    exact ⟨none, 0, rfl, Nat.le_refl _, .inl rfl⟩
  · refine ⟨_, cap, rfl, hn, .inr ⟨g, 0, rfl, (World.ownsRow.lt h g rfl).2, fun j hj => ?_⟩⟩
    rw [Nat.zero_add, World.ownsRow.cellAt h j (by omega)]
    rw [List.getElem?_map, List.getElem?_eq_getElem hj, List.getD_eq_getElem?_getD, List.getElem?_eq_getElem hj]; rfl
/-- A row of bytes of one's own, made since a world. -/
structure OBb (B0 : Nat) (w ws : World) (v : Value) (xs : List UInt8) : Prop where
  own : Owb ws B0 v xs
  bel : Below B0 w ws
theorem OBb.nil (w : World) : OBb w.heap.size w w (.slice none 0 0) [] := ⟨Owb.nil _ _, Below.refl _ _⟩
theorem Bl.rdb {t : TypeId} {w : World} {b : Nat} {xs : List UInt8} (h : Bl t w b (xs.map B)) : Rd w (some ⟨b, 0, none⟩) xs := by
  refine .inr ⟨b, 0, rfl, h.lt, fun j hj => ?_⟩
  rw [Nat.zero_add, h.cell j (by simpa using hj), List.getElem_map, List.getD_eq_getElem?_getD, List.getElem?_eq_getElem hj]; rfl
/-- append of bytes that can be read, nil ones too, behind a row of one's own. -/
theorem append_rdb {w : World} {ops : Array Oper} {rest : List Oper} {o : Oper} {a : Act} {Q : Exit → Act → World → Prop} (hgd : o.guard = none) (s x : Operand)
    (ho : o.op = .call { callee := .builtin .append, args := #[s, x], argTypes := #[29, 29] })
    (base : Nat) (v : Value) (xs : List UInt8) (hs : a.eval s = v) (hown : Owb w base v xs)
    (ao : Option Addr) (m c : Nat) (l : List UInt8) (hx : a.eval x = .slice ao m c) (hl : l.length = m) (hao : ao = none → m = 0 ∧ c = 0) (hrd : Rd w ao l)
    (hbytes : xs.length + m ≤ 10000000000) (hbase : base ≤ w.heap.size)
    (h : ∀ v' w', Owb w' base v' (xs ++ l) → w.grownBy w' v.ownBlock → wpList Tryd.prog ops Q rest (a.put o.dst v') w') : wpList Tryd.prog ops Q (o :: rest) a w := by
  obtain ⟨i, hi, hz, hsize, hby⟩ := info_parts infoB
  cases ao with
  | none =>
    obtain ⟨rfl, rfl⟩ := hao rfl
    obtain rfl := List.eq_nil_of_length_eq_zero hl
    refine wpList_append_own_none hgd s x 29 ho base 5 i 1 Tryd.underlying29 hi v xs.length (xs.map B) hs hown hx ?_
    exact h v w (by rw [List.append_nil]; exact hown) (World.grownBy.refl _ _)
  | some ad =>
    refine wpList_append_own_wide w hgd s x 29 ho base 5 i (.int .u8 0) 1 1 Tryd.underlying29 hi hz hsize hby rfl (by decide) v xs.length (xs.map B) hs hown ad m c (l.map B) hx (by simpa using hl) ?_ (oneB l) (by unfold maxLen; omega) (by omega) hbase ?_
    · intro j u hu
      rcases hrd with h0 | ⟨b, off, e, hb, hc⟩
      · subst h0; simp at hu
      · cases e
        have hj : j < l.length := by
          have := (List.getElem?_eq_some_iff.1 hu).1
          simpa using this
        rw [Addr.add_lit, hc j hj]
        simp [List.getElem?_map, List.getElem?_eq_getElem hj] at hu
        rw [← hu, List.getD_eq_getElem?_getD, List.getElem?_eq_getElem hj, Option.getD_some]
    · intro v' w' h1 h2 _
      refine h v' w' ?_ h2
      unfold Owb
      rw [List.map_append, List.length_append, hl]
      exact h1
/-- append of one byte. -/
theorem append_oneb {w wr : World} {ops : Array Oper} {rest : List Oper} {o : Oper} {a : Act} {Q : Exit → Act → World → Prop} (hgd : o.guard = none) (s x : Operand)
    (ho : o.op = .call { callee := .builtin .append, args := #[s, x], argTypes := #[29, 29] })
    (B0 : Nat) (v : Value) (xs : List UInt8) (z : UInt8) (hs : a.eval s = v) (hob : OBb B0 w wr v xs) (hx : a.eval x = .slice (some ⟨wr.heap.size, 0, none⟩) 1 1) (hl : xs.length ≤ 1000000000) (hB : B0 ≤ w.heap.size)
    (h : ∀ v' w', OBb B0 w w' v' (xs ++ [z]) → wpList Tryd.prog ops Q rest (a.put o.dst v') w') : wpList Tryd.prog ops Q (o :: rest) a (wr.alloc (.cells #[.int .u8 (z.toNat : Int)] 5)) := by
  have hs2 : B0 ≤ wr.heap.size := Nat.le_trans hB hob.bel.size
  have hbl := alloc_bl wr (([z] : List UInt8).map B) 5
  refine append_rdb hgd s x ho B0 v xs hs (hob.own.below (alloc_below wr _) (Nat.le_refl _)) (some ⟨wr.heap.size, 0, none⟩) 1 1 [z] hx rfl (fun e => by cases e) hbl.rdb (by omega) (by rw [World.size_alloc]; omega) ?_
  intro v' w' h1 h2
  exact h v' w' ⟨h1, hob.bel.trans ((((alloc_below wr _).mono hs2)).grown h2 (by rw [World.size_alloc]; omega) (own_block hob.own))⟩
/-- The marks behind lent bytes. -/
def mk40 : List UInt8 := List.replicate 40 165
theorem mk40_length : mk40.length = 40 := rfl
theorem mk40_get (i : Nat) (h : i < mk40.length) : mk40[i] = 165 := List.getElem_replicate h
/-- Bytes lent, with marked room behind them, in a block from B0 on. -/
def Ln (w : World) (B0 g cap : Nat) (l : List UInt8) : Prop := Owb w B0 (.slice (some ⟨g, 0, none⟩) (l.length + 40) cap) (l ++ mk40)
theorem Ln.below {w w' : World} {B0 g cap n : Nat} {l : List UInt8} (h : Ln w B0 g cap l) (hb : Below n w w') (hn : w.heap.size ≤ n) : Ln w' B0 g cap l := Owb.below h hb hn
theorem Ln.drewN {w : World} {B0 g cap : Nat} {l : List UInt8} (h : Ln w B0 g cap l) (q : Nat) : Ln (w.drewN q) B0 g cap l := h
theorem Ln.parts {w : World} {B0 g cap : Nat} {l : List UInt8} (h : Ln w B0 g cap l) : B0 ≤ g ∧ g < w.heap.size ∧ l.length + 40 ≤ cap ∧ cap ≤ maxLen ∧ ∃ r, Bl 5 w g ((l ++ mk40).map B ++ r) ∧ l.length + 40 + r.length = cap := by
  rcases h.2 with ⟨h0, _⟩ | ⟨g2, cap2, cur, e, hg, hh, hn, hc, hsz, ht⟩
  · cases h0
  · injection e with e1 e2 e3
    injection e1 with e1
    injection e1 with e1
    subst e1; subst e3
    have hll : (l ++ mk40).length = l.length + 40 := by simp [mk40_length]
    refine ⟨hg, (Array.getElem?_eq_some_iff.1 hh).1, by rw [← hll]; exact hn, hc, cur.toList.drop ((l ++ mk40).length * 1), ?_, ?_⟩
    · unfold Bl
      rw [hh, ← ht, List.take_append_drop]
    · have e4 : cur.toList.length = cap := by rw [Array.length_toList, hsz, Nat.mul_one]
      rw [List.length_drop, e4, hll]
      rw [hll] at hn
      omega
theorem Ln.mk {w : World} {B0 g cap : Nat} {l : List UInt8} {r : List Value} (hb : Bl 5 w g ((l ++ mk40).map B ++ r)) (hg : B0 ≤ g) (hc : l.length + 40 ≤ cap) (hm : cap ≤ maxLen) (hs : l.length + 40 + r.length = cap) : Ln w B0 g cap l := by
  have hll : (l ++ mk40).length = l.length + 40 := by simp [mk40_length]
  refine ⟨by simp, .inr ⟨g, cap, _, by rw [hll], hg, hb, by rw [hll]; exact hc, hm, ?_, ?_⟩⟩
  · simp [mk40_length]; omega
  · rw [show ((l ++ mk40).map B ++ r).toArray.toList = (l ++ mk40).map B ++ r from rfl]
    rw [List.take_append_of_le_length (by simp), List.take_of_length_le (by simp)]
theorem Ln.rd {w : World} {B0 g cap : Nat} {l : List UInt8} (h : Ln w B0 g cap l) : Rd w (some ⟨g, 0, none⟩) l := by
  obtain ⟨_, hg, _, _, r, hb, _⟩ := h.parts
  refine .inr ⟨g, 0, rfl, hg, fun j hj => ?_⟩
  rw [Nat.zero_add, hb.cell j (by simp; omega), List.getElem_append_left (by simp; omega), List.getElem_map, List.getElem_append_left hj, List.getD_eq_getElem?_getD, List.getElem?_eq_getElem hj]
  rfl
theorem Ln.cell {w : World} {B0 g cap : Nat} {l : List UInt8} (h : Ln w B0 g cap l) (j : Nat) (hj : j < l.length) : w.cell? ⟨g, j, none⟩ = some (.int .u8 ((l.getD j 0).toNat : Int)) := by
  obtain ⟨g2, off, e, _, hc⟩ := h.rd.resolve_left (fun e => by rw [e] at hj; simp at hj)
  cases e
  have := hc j hj
  rwa [Nat.zero_add] at this
theorem Ln.mark {w : World} {B0 g cap : Nat} {l : List UInt8} (h : Ln w B0 g cap l) (j : Nat) (h1 : l.length ≤ j) (h2 : j < l.length + 40) : w.cell? ⟨g, j, none⟩ = some (.int .u8 165) := by
  obtain ⟨_, hg, _, _, r, hb, _⟩ := h.parts
  rw [hb.cell j (by simp [mk40_length]; omega), List.getElem_append_left (by simp [mk40_length]; omega), List.getElem_map, List.getElem_append_right h1]
  rw [mk40_get]
  rfl
theorem Ln.set {w : World} {B0 g cap : Nat} {l : List UInt8} (h : Ln w B0 g cap l) (j : Nat) (hj : j < l.length) (x : UInt8) : Ln (w.setCell ⟨g, j, none⟩ (B x)) B0 g cap (l.set j x) := by
  obtain ⟨hg, _, h1, h2, r, hb, hs⟩ := h.parts
  have hst := hb.set j (B x)
  rw [List.set_append_left _ _ (by simp; omega), ← List.map_set, List.set_append_left _ _ hj] at hst
  exact Ln.mk hst hg (by rw [List.length_set]; exact h1) h2 (by rw [List.length_set]; exact hs)
theorem Ln.but {w w' : World} {B0 g cap b : Nat} {l : List UInt8} (h : Ln w B0 g cap l) (hb : But w w' b) (hne : g ≠ b) : Ln w' B0 g cap l := by
  rcases h.2 with ⟨h0, _⟩ | ⟨g2, cap2, cur, e, hg, hh, r⟩
  · cases h0
  · injection e with e1 e2 e3
    injection e1 with e1
    injection e1 with e1
    subst e1; subst e3
    exact ⟨h.1, .inr ⟨g, cap, cur, by rw [show (l ++ mk40).length = l.length + 40 by simp [mk40_length]], hg, by rw [hb.block g (Array.getElem?_eq_some_iff.1 hh).1 hne]; exact hh, r⟩⟩
theorem Rd.butb {w w' : World} {ao : Option Addr} {l : List UInt8} {b : Nat} (h : Rd w ao l) (hb : But w w' b) (ho : ∀ a, ao = some a → a.block ≠ b) : Rd w' ao l := by
  rcases h with h | ⟨g, off, e, hg, hc⟩
  · exact .inl h
  · exact .inr ⟨g, off, e, Nat.lt_of_lt_of_le hg hb.size, fun j hj => cell_but (hc j hj) fun h1 => hb.block g h1 (ho _ e)⟩
theorem ktake_iff {l1 l2 : List UInt8} {k : Nat} (h1 : k < l1.length) (h2 : k < l2.length) (h : l1.take k = l2.take k) : l1[k] = l2[k] ↔ l1.take (k + 1) = l2.take (k + 1) := by
  rw [List.take_succ_eq_append_getElem h1, List.take_succ_eq_append_getElem h2, h]
  constructor
  · intro e; rw [e]
  · intro e
    have := List.append_cancel_left e
    exact (List.cons.inj this).1
theorem kne_byte (x y : UInt8) : ((x.toNat : Int) != (y.toNat : Int)) = !decide (x = y) := by
  by_cases h : x = y
  · subst h; simp
  · have : x.toNat ≠ y.toNat := fun e => h (UInt8.toNat_inj.1 e)
    simp [h]; omega
end Go.Proofs.YtpfdaclmchcbiaaDoor
