import Derived.Test.YtccfcplhifbjlaaGreatDoorBase
import Derived.Laws.AppendOwnNone
namespace Go.Proofs.YtccfcplhifbjlaaGreatDoor
open Go.RowKit
set_option maxRecDepth 100000

theorem infoB : (Tryz.prog.info? 5).map (fun i => (i.zero, i.size, i.bytes)) = some (some (.int .u8 0), 1, 1) := by kernel_rfl
theorem oneB (l : List UInt8) : ∀ v ∈ l.map B, v.oneCell' = true := by
  intro v hv
  obtain ⟨c, _, rfl⟩ := List.mem_map.1 hv
  rfl
/-- A row of bytes of one's own. -/
def Owb (w : World) (base : Nat) (v : Value) (l : List UInt8) : Prop := w.ownsRow base 5 1 v l.length (l.map B)
theorem Owb.nil (w : World) (base : Nat) : Owb w base (.slice none 0 0) [] := ⟨rfl, .inl ⟨rfl, rfl⟩⟩
theorem Bl.owb {w : World} {base g : Nat} {l : List UInt8} (h : Bl 5 w g (l.map B)) (hg : base ≤ g) (hl : l.length ≤ 10000000000) : Owb w base (.slice (some ⟨g, 0, none⟩) l.length l.length) l := by
  refine ⟨by simp, .inr ⟨g, l.length, (l.map B).toArray, rfl, hg, h, Nat.le_refl _, ?_, by simp, ?_⟩⟩
  · unfold maxLen; omega
  · rw [List.take_of_length_le (by simp)]
theorem Owb.below {w w' : World} {base n : Nat} {v : Value} {xs : List UInt8} (h : Owb w base v xs) (hb : Below n w w') (hn : w.heap.size ≤ n) : Owb w' base v xs := by
  rcases h.2 with h0 | ⟨g, cap, cur, e, hg, hh, r⟩
  · exact ⟨h.1, .inl h0⟩
  · exact ⟨h.1, .inr ⟨g, cap, cur, e, hg, by rw [hb.block g (Nat.lt_of_lt_of_le (Array.getElem?_eq_some_iff.1 hh).1 hn)]; exact hh, r⟩⟩
theorem Owb.drewN {w : World} {base : Nat} {v : Value} {xs : List UInt8} (h : Owb w base v xs) (q : Nat) : Owb (w.drewN q) base v xs := h
theorem Owb.base {w : World} {base base' : Nat} {v : Value} {xs : List UInt8} (h : Owb w base v xs) (hb : base' ≤ base) : Owb w base' v xs := by
  rcases h.2 with h0 | ⟨g, cap, cur, e, hg, r⟩
  · exact ⟨h.1, .inl h0⟩
  · exact ⟨h.1, .inr ⟨g, cap, cur, e, Nat.le_trans hb hg, r⟩⟩
/-- A value that is bytes. -/
def Nb (w : World) (v : Value) (l : List UInt8) : Prop := ∃ (ao : Option Addr) (c : Nat), v = .slice ao l.length c ∧ l.length ≤ c ∧ Rd w ao l
theorem Nb.below {w w' : World} {v : Value} {xs : List UInt8} {n : Nat} (h : Nb w v xs) (hb : Below n w w') (hn : w.heap.size ≤ n) : Nb w' v xs := by
  obtain ⟨ao, c, e, hc, hr⟩ := h
  exact ⟨ao, c, e, hc, hr.below hb hn⟩
theorem Nb.drewN {w : World} {v : Value} {xs : List UInt8} (h : Nb w v xs) (q : Nat) : Nb (w.drewN q) v xs := h
theorem Owb.nb {w : World} {base : Nat} {v : Value} {xs : List UInt8} (h : Owb w base v xs) : Nb w v xs := by
  rcases h.2 with ⟨rfl, h0⟩ | ⟨g, cap, cur, rfl, hg, hh, hn, hc, hsz, ht⟩
  · have : xs = [] := List.eq_nil_of_length_eq_zero h0
    subst this
    exact ⟨none, 0, rfl, Nat.le_refl _, .inl rfl⟩
  · refine ⟨_, cap, rfl, hn, .inr ⟨g, 0, rfl, (World.ownsRow.lt h g rfl).2, fun j hj => ?_⟩⟩
    rw [Nat.zero_add, World.ownsRow.cellAt h j (by omega)]
    rw [List.getElem?_map, List.getElem?_eq_getElem hj, List.getD_eq_getElem?_getD, List.getElem?_eq_getElem hj]; rfl
/-- A row of bytes of one's own, made since a world. -/
structure OBb (B0 : Nat) (w ws : World) (v : Value) (xs : List UInt8) : Prop where
  own : Owb ws B0 v xs
  bel : Below B0 w ws
theorem OBb.nil (w : World) : OBb w.heap.size w w (.slice none 0 0) [] := ⟨Owb.nil _ _, Below.refl _ _⟩
theorem Bl.rdb {t : TypeId} {w : World} {b : Nat} {xs : List UInt8} (h : Bl t w b (xs.map B)) : Rd w (some ⟨b, 0, none⟩) xs := by
  refine .inr ⟨b, 0, rfl, h.lt, fun j hj => ?_⟩
  rw [Nat.zero_add, h.cell j (by simpa using hj), List.getElem_map, List.getD_eq_getElem?_getD, List.getElem?_eq_getElem hj]; rfl
/-- append of bytes that can be read, nil ones too, behind a row of one's own. -/
theorem append_rdb {w : World} {ops : Array Oper} {rest : List Oper} {o : Oper} {a : Act} {Q : Exit → Act → World → Prop} (hgd : o.guard = none) (s x : Operand)
    (ho : o.op = .call { callee := .builtin .append, args := #[s, x], argTypes := #[30, 30] })
    (base : Nat) (v : Value) (xs : List UInt8) (hs : a.eval s = v) (hown : Owb w base v xs)
    (ao : Option Addr) (m c : Nat) (l : List UInt8) (hx : a.eval x = .slice ao m c) (hl : l.length = m) (hao : ao = none → m = 0 ∧ c = 0) (hrd : Rd w ao l)
    (hbytes : xs.length + m ≤ 10000000000) (hbase : base ≤ w.heap.size)
    (h : ∀ v' w', Owb w' base v' (xs ++ l) → w.grownBy w' v.ownBlock → wpList Tryz.prog ops Q rest (a.put o.dst v') w') : wpList Tryz.prog ops Q (o :: rest) a w := by
  obtain ⟨i, hi, hz, hsize, hby⟩ := info_parts infoB
  cases ao with
  | none =>
    obtain ⟨rfl, rfl⟩ := hao rfl
    obtain rfl := List.eq_nil_of_length_eq_zero hl
    refine wpList_append_own_none hgd s x 30 ho base 5 i 1 Tryz.underlying30 hi v xs.length (xs.map B) hs hown hx ?_
    exact h v w (by rw [List.append_nil]; exact hown) (World.grownBy.refl _ _)
  | some ad =>
    refine wpList_append_own_wide w hgd s x 30 ho base 5 i (.int .u8 0) 1 1 Tryz.underlying30 hi hz hsize hby rfl (by decide) v xs.length (xs.map B) hs hown ad m c (l.map B) hx (by simpa using hl) ?_ (oneB l) (by unfold maxLen; omega) (by omega) hbase ?_
    · intro j u hu
      rcases hrd with h0 | ⟨b, off, e, hb, hc⟩
      · subst h0; simp at hu
      · cases e
        have hj : j < l.length := by
          have := (List.getElem?_eq_some_iff.1 hu).1
          simpa using this
        rw [Addr.add_lit, hc j hj]
        simp [List.getElem?_map, List.getElem?_eq_getElem hj] at hu
        rw [← hu, List.getD_eq_getElem?_getD, List.getElem?_eq_getElem hj, Option.getD_some]
    · intro v' w' h1 h2 _
      refine h v' w' ?_ h2
      unfold Owb
      rw [List.map_append, List.length_append, hl]
      exact h1
/-- append of one byte. -/
theorem append_oneb {w wr : World} {ops : Array Oper} {rest : List Oper} {o : Oper} {a : Act} {Q : Exit → Act → World → Prop} (hgd : o.guard = none) (s x : Operand)
    (ho : o.op = .call { callee := .builtin .append, args := #[s, x], argTypes := #[30, 30] })
    (B0 : Nat) (v : Value) (xs : List UInt8) (z : UInt8) (hs : a.eval s = v) (hob : OBb B0 w wr v xs) (hx : a.eval x = .slice (some ⟨wr.heap.size, 0, none⟩) 1 1) (hl : xs.length ≤ 1000000000) (hB : B0 ≤ w.heap.size)
    (h : ∀ v' w', OBb B0 w w' v' (xs ++ [z]) → wpList Tryz.prog ops Q rest (a.put o.dst v') w') : wpList Tryz.prog ops Q (o :: rest) a (wr.alloc (.cells #[.int .u8 (z.toNat : Int)] 5)) := by
  have hs2 : B0 ≤ wr.heap.size := Nat.le_trans hB hob.bel.size
  have hbl := alloc_bl wr (([z] : List UInt8).map B) 5
  refine append_rdb hgd s x ho B0 v xs hs (hob.own.below (alloc_below wr _) (Nat.le_refl _)) (some ⟨wr.heap.size, 0, none⟩) 1 1 [z] hx rfl (fun e => by cases e) hbl.rdb (by omega) (by rw [World.size_alloc]; omega) ?_
  intro v' w' h1 h2
  exact h v' w' ⟨h1, hob.bel.trans ((((alloc_below wr _).mono hs2)).grown h2 (by rw [World.size_alloc]; omega) (own_block hob.own))⟩
/-- The marks behind lent bytes. -/
def mk40 : List UInt8 := List.replicate 40 165
theorem mk40_length : mk40.length = 40 := rfl
theorem mk40_get (i : Nat) (h : i < mk40.length) : mk40[i] = 165 := List.getElem_replicate h
/-- Bytes lent, with marked room behind them, in a block from B0 on. -/
def Ln (w : World) (B0 g cap : Nat) (l : List UInt8) : Prop := Owb w B0 (.slice (some ⟨g, 0, none⟩) (l.length + 40) cap) (l ++ mk40)
theorem Ln.below {w w' : World} {B0 g cap n : Nat} {l : List UInt8} (h : Ln w B0 g cap l) (hb : Below n w w') (hn : w.heap.size ≤ n) : Ln w' B0 g cap l := Owb.below h hb hn
theorem Ln.drewN {w : World} {B0 g cap : Nat} {l : List UInt8} (h : Ln w B0 g cap l) (q : Nat) : Ln (w.drewN q) B0 g cap l := h
theorem Ln.parts {w : World} {B0 g cap : Nat} {l : List UInt8} (h : Ln w B0 g cap l) : B0 ≤ g ∧ g < w.heap.size ∧ l.length + 40 ≤ cap ∧ cap ≤ maxLen ∧ ∃ r, Bl 5 w g ((l ++ mk40).map B ++ r) ∧ l.length + 40 + r.length = cap := by
  rcases h.2 with ⟨h0, _⟩ | ⟨g2, cap2, cur, e, hg, hh, hn, hc, hsz, ht⟩
  · cases h0
  · injection e with e1 e2 e3
    injection e1 with e1
    injection e1 with e1
    subst e1; subst e3
    have hll : (l ++ mk40).length = l.length + 40 := by simp [mk40_length]
    refine ⟨hg, (Array.getElem?_eq_some_iff.1 hh).1, by rw [← hll]; exact hn, hc, cur.toList.drop ((l ++ mk40).length * 1), ?_, ?_⟩
    · unfold Bl
      rw [hh, ← ht, List.take_append_drop]
    · have e4 : cur.toList.length = cap := by rw [Array.length_toList, hsz, Nat.mul_one]
      rw [List.length_drop, e4, hll]
      rw [hll] at hn
      omega
theorem Ln.mk {w : World} {B0 g cap : Nat} {l : List UInt8} {r : List Value} (hb : Bl 5 w g ((l ++ mk40).map B ++ r)) (hg : B0 ≤ g) (hc : l.length + 40 ≤ cap) (hm : cap ≤ maxLen) (hs : l.length + 40 + r.length = cap) : Ln w B0 g cap l := by
  have hll : (l ++ mk40).length = l.length + 40 := by simp [mk40_length]
  refine ⟨by simp, .inr ⟨g, cap, _, by rw [hll], hg, hb, by rw [hll]; exact hc, hm, ?_, ?_⟩⟩
  · simp [mk40_length]; omega
  · rw [show ((l ++ mk40).map B ++ r).toArray.toList = (l ++ mk40).map B ++ r from rfl]
    rw [List.take_append_of_le_length (by simp), List.take_of_length_le (by simp)]
theorem Ln.rd {w : World} {B0 g cap : Nat} {l : List UInt8} (h : Ln w B0 g cap l) : Rd w (some ⟨g, 0, none⟩) l := by
  obtain ⟨_, hg, _, _, r, hb, _⟩ := h.parts
  refine .inr ⟨g, 0, rfl, hg, fun j hj => ?_⟩
  rw [Nat.zero_add, hb.cell j (by simp; omega), List.getElem_append_left (by simp; omega), List.getElem_map, List.getElem_append_left hj, List.getD_eq_getElem?_getD, List.getElem?_eq_getElem hj]
  rfl
theorem Ln.cell {w : World} {B0 g cap : Nat} {l : List UInt8} (h : Ln w B0 g cap l) (j : Nat) (hj : j < l.length) : w.cell? ⟨g, j, none⟩ = some (.int .u8 ((l.getD j 0).toNat : Int)) := by
  obtain ⟨g2, off, e, _, hc⟩ := h.rd.resolve_left (fun e => by rw [e] at hj; simp at hj)
  cases e
  have := hc j hj
  rwa [Nat.zero_add] at this
theorem Ln.mark {w : World} {B0 g cap : Nat} {l : List UInt8} (h : Ln w B0 g cap l) (j : Nat) (h1 : l.length ≤ j) (h2 : j < l.length + 40) : w.cell? ⟨g, j, none⟩ = some (.int .u8 165) := by
  obtain ⟨_, hg, _, _, r, hb, _⟩ := h.parts
  rw [hb.cell j (by simp [mk40_length]; omega), List.getElem_append_left (by simp [mk40_length]; omega), List.getElem_map, List.getElem_append_right h1]
  rw [mk40_get]
  rfl
theorem Ln.set {w : World} {B0 g cap : Nat} {l : List UInt8} (h : Ln w B0 g cap l) (j : Nat) (hj : j < l.length) (x : UInt8) : Ln (w.setCell ⟨g, j, none⟩ (B x)) B0 g cap (l.set j x) := by
  obtain ⟨hg, _, h1, h2, r, hb, hs⟩ := h.parts
  have hst := hb.set j (B x)
  rw [List.set_append_left _ _ (by simp; omega), ← List.map_set, List.set_append_left _ _ hj] at hst
  exact Ln.mk hst hg (by rw [List.length_set]; exact h1) h2 (by rw [List.length_set]; exact hs)
theorem Ln.but {w w' : World} {B0 g cap b : Nat} {l : List UInt8} (h : Ln w B0 g cap l) (hb : But w w' b) (hne : g ≠ b) : Ln w' B0 g cap l := by
  rcases h.2 with ⟨h0, _⟩ | ⟨g2, cap2, cur, e, hg, hh, r⟩
  · cases h0
  · injection e with e1 e2 e3
    injection e1 with e1
    injection e1 with e1
    subst e1; subst e3
    exact ⟨h.1, .inr ⟨g, cap, cur, by rw [show (l ++ mk40).length = l.length + 40 by simp [mk40_length]], hg, by rw [hb.block g (Array.getElem?_eq_some_iff.1 hh).1 hne]; exact hh, r⟩⟩
theorem Rd.butb {w w' : World} {ao : Option Addr} {l : List UInt8} {b : Nat} (h : Rd w ao l) (hb : But w w' b) (ho : ∀ a, ao = some a → a.block ≠ b) : Rd w' ao l := by
  rcases h with h | ⟨g, off, e, hg, hc⟩
  · exact .inl h
  · exact .inr ⟨g, off, e, Nat.lt_of_lt_of_le hg hb.size, fun j hj => cell_but (hc j hj) fun h1 => hb.block g h1 (ho _ e)⟩
set_option maxHeartbeats 1000000 in
theorem lent_any (ao : Option Addr) (c : Nat) (l : List UInt8) (w : World) (hr : Rd w ao l) (hn : ao = none → l.length = 0 ∧ c = 0) (hl : l.length ≤ 100000000) :
    Calls Tryz.prog 26 #[.slice ao l.length c] w fun e w' => ∃ g cap, e = .returned (.slice (some ⟨g, 0, none⟩) l.length cap) ∧ Ln w' w.heap.size g cap l ∧ Below w.heap.size w w' := by
  have HN0 : Hid (OBb w.heap.size w w (.slice none 0 0) []) := OBb.nil w
  have HR : Hid (Rd w ao l) := hr
  clear hr
  go_enter Tryz.func26, Tryz.ntmps26
  go_wp2_with (at_builtin; refine append_rdb rfl (.tmp 5) (.tmp 6) rfl w.heap.size _ [] rfl HN0.out.own ao l.length c l rfl rfl hn HR.out (by rw [List.length_nil]; omega) (Nat.le_refl _) ?_; intro v5 w5 h5 h6)
  have HO : Hid (OBb w.heap.size w w5 v5 (l ++ List.replicate 0 165)) := ⟨by simpa using h5, (Below.refl _ _).grown h6 (Nat.le_refl _) (fun k hk => by cases hk)⟩
  clear h5 h6 HN0
  obtain ⟨a5, c5, e5⟩ : ∃ a c, v5 = .slice a l.length c := by obtain ⟨a, c, e, _⟩ := HO.out.own.nb; exact ⟨a, c, by simpa using e⟩
  subst e5
  go_wp2
  go_loopw [3, 4] (fun s3 s4 wr => ∃ k : Nat, s4 = .int .i64 (k : Int) ∧ k ≤ 40 ∧ Hid (OBb w.heap.size w wr s3 (l ++ List.replicate k 165))) (fun _ s _ => 40 - (intOf s).toNat)
  case atStart => exact ⟨0, rfl, by omega, HO⟩
  case round =>
    clear HO
    obtain ⟨k, rfl, hk, HO⟩ := hrel
    obtain ⟨a6, n6, c6, e6⟩ : ∃ a n c, u3 = .slice a n c := by obtain ⟨a, c, e, _⟩ := HO.out.own.nb; exact ⟨a, _, c, e⟩
    subst e6
    by_cases hlt : k < 40
    · go_wp2_with (at_builtin; refine append_oneb rfl (.tmp 12) (.tmp 13) rfl w.heap.size _ (l ++ List.replicate k 165) 165 rfl HO.out rfl (by simp; omega) (Nat.le_refl _) ?_; intro v7 w7 h7)
      have HO7 : Hid (OBb w.heap.size w w7 v7 (l ++ List.replicate (k + 1) 165)) := by rw [List.append_assoc, ← List.replicate_succ'] at h7; exact h7
      clear h7 HO
      go_wp2
      go_roundw
      case rel => exact ⟨k + 1, by go_num, by omega, HO7⟩
      case measure => simp [intOf]; omega
    · obtain rfl : k = 40 := by omega
      obtain ⟨g, cap, e, hL, hcp⟩ : ∃ g cap, Value.slice a6 n6 c6 = .slice (some ⟨g, 0, none⟩) (l.length + 40) cap ∧ Hid (Ln wr w.heap.size g cap l) ∧ l.length + 40 ≤ cap := by
        have h := HO.out.own
        have h2 := h
        rcases h2.2 with ⟨_, h0⟩ | ⟨g, cap, cur, e, hg, hh, hnn, r⟩
        · simp at h0
        · have hll : (l ++ List.replicate 40 (165 : UInt8)).length = l.length + 40 := by simp
          rw [hll] at e hnn
          exact ⟨g, cap, e, by rw [e] at h; exact h, hnn⟩
      injection e with e1 e2 e3
      subst e1; subst e2; subst e3
      have HB : Hid (Below w.heap.size w wr) := HO.out.bel
      clear HO hk hlt
      go_wp2
      go_ret
      exact ⟨g, c6, rfl, hL.out, HB.out⟩
set_option maxHeartbeats 1000000 in
theorem still_true (B0 g cap c : Nat) (ao : Option Addr) (l : List UInt8) (w : World) (hL : Ln w B0 g cap l) (hr : Rd w ao l) (hl : l.length ≤ 100000000) :
    Calls Tryz.prog 30 #[.slice (some ⟨g, 0, none⟩) l.length cap, .slice ao l.length c] w fun e w' => e = .returned (.bool true) ∧ ∃ q, w' = w.drewN q := by
  have HL : Hid (Ln w B0 g cap l) := hL
  have HR : Hid (Rd w ao l) := hr
  obtain ⟨_, _, hc1, hc2, _⟩ := hL.parts
  have hne : ((l.length : Int) != (l.length : Int)) = false := by simp
  clear hL hr
  unfold maxLen at hc2
  go_enter Tryz.func30, Tryz.ntmps30
  go_wp2
  go_loopw [6] (fun s wr => ∃ k q : Nat, s = .int .i64 (k : Int) ∧ k ≤ l.length + 40 ∧ wr = w.drewN q) (fun s _ => l.length + 40 - (intOf s).toNat)
  case atStart => exact ⟨0, 0, rfl, by omega, rfl⟩
  case round =>
    obtain ⟨k, q, rfl, hk, rfl⟩ := hrel
    by_cases hlt : k < l.length + 40
    · by_cases hkl : k < l.length
      · have g1 := HL.out.cell k hkl
        obtain ⟨b2, o2, e2, _, hcell⟩ := HR.out.resolve_left (fun e => by rw [e] at hkl; simp at hkl)
        subst e2
        have g2 := hcell k hkl
        unfold B at g2
        clear hcell
        generalize (l.getD k 0).toNat = x at *
        have d1 : ((x : Int) != (x : Int)) = false := by simp
        have d2 : decide ((k : Int) ≥ (l.length : Int)) = false := decide_eq_false (by omega)
        have d3 : decide ((k : Int) < (l.length : Int)) = true := decide_eq_true (by omega)
        have d4 : decide ((l.length : Int) ≤ (k : Int)) = false := decide_eq_false (by omega)
        have d5 : decide (k < l.length) = true := decide_eq_true hkl
        have d6 : decide (l.length ≤ k) = false := decide_eq_false (by omega)
        go_wp2
        go_quiet (fail)
        go_wp2
        go_roundw
        case rel => exact ⟨k + 1, _, by go_num, by omega, rfl⟩
        case measure => simp [intOf]; omega
      · have g1 := HL.out.mark k (by omega) hlt
        have d1 : decide ((k : Int) < (l.length : Int)) = false := decide_eq_false (by omega)
        have d2 : decide ((k : Int) ≥ (l.length : Int)) = true := decide_eq_true (by omega)
        have d4 : decide ((l.length : Int) ≤ (k : Int)) = true := decide_eq_true (by omega)
        have d5 : decide (k < l.length) = false := decide_eq_false hkl
        have d6 : decide (l.length ≤ k) = true := decide_eq_true (by omega)
        go_wp2
        go_quiet (fail)
        go_wp2
        go_roundw
        case rel => exact ⟨k + 1, _, by go_num, by omega, rfl⟩
        case measure => simp [intOf]; omega
    · go_wp2
      go_ret
      exact ⟨rfl, _, rfl⟩
theorem ktake_iff {l1 l2 : List UInt8} {k : Nat} (h1 : k < l1.length) (h2 : k < l2.length) (h : l1.take k = l2.take k) : l1[k] = l2[k] ↔ l1.take (k + 1) = l2.take (k + 1) := by
  rw [List.take_succ_eq_append_getElem h1, List.take_succ_eq_append_getElem h2, h]
  constructor
  · intro e; rw [e]
  · intro e
    have := List.append_cancel_left e
    exact (List.cons.inj this).1
theorem kne_byte (x y : UInt8) : ((x.toNat : Int) != (y.toNat : Int)) = !decide (x = y) := by
  by_cases h : x = y
  · subst h; simp
  · have : x.toNat ≠ y.toNat := fun e => h (UInt8.toNat_inj.1 e)
    simp [h]; omega
set_option maxHeartbeats 1000000 in
theorem lsame_any (a1 a2 : Option Addr) (c1 c2 : Nat) (l1 l2 : List UInt8) (w : World) (hr1 : Rd w a1 l1) (hr2 : Rd w a2 l2) (hlen : l1.length ≤ 281474976710656) :
    Calls Tryz.prog 16 #[.slice a1 l1.length c1, .slice a2 l2.length c2] w fun e w' => e = .returned (.bool (decide (l1 = l2))) ∧ ∃ q, w' = w.drewN q := by
  by_cases hl : l1.length = l2.length
  · have hl' : ((l1.length : Int) != (l2.length : Int)) = false := by simp; omega
    have Hl : Hid (l1.length = l2.length) := hl
    clear hl
    go_enter Tryz.func16, Tryz.ntmps16
    go_wp2
    go_loopw [5] (fun s wr => ∃ k q : Nat, k ≤ l1.length ∧ s = .int .i64 k ∧ Hid (l1.take k = l2.take k) ∧ wr = w.drewN q) (fun s _ => l1.length - (intOf s).toNat)
    case atStart => exact ⟨0, 0, Nat.zero_le _, rfl, rfl, rfl⟩
    case round =>
      obtain ⟨k, q, hk, rfl, Ht, rfl⟩ := hrel
      by_cases hlt : k < l1.length
      · rcases hr1 with hr1 | ⟨b1, o1, rfl, hb1, hc1⟩
        · subst hr1; simp at hlt
        rcases hr2 with hr2 | ⟨b2, o2, rfl, hb2, hc2⟩
        · subst hr2; have h := Hl.out; rw [List.length_nil] at h; omega
        have hlt2 : k < l2.length := by have := Hl.out; omega
        have g1 := hc1 k hlt
        have g2 := hc2 k hlt2
        rw [List.getD_eq_getElem?_getD, List.getElem?_eq_getElem hlt, Option.getD_some] at g1
        rw [List.getD_eq_getElem?_getD, List.getElem?_eq_getElem hlt2, Option.getD_some] at g2
        have Hx : Hid (l1[k] = l2[k] ↔ l1.take (k + 1) = l2.take (k + 1)) := ktake_iff hlt hlt2 Ht.out
        unfold B at g1 g2
        clear hc1 hc2
        generalize l1[k] = x at g1 Hx
        generalize l2[k] = y at g2 Hx
        have hltI : (k : Int) < (l2.length : Int) := by omega
        have hne := kne_byte x y
        by_cases hxy : x = y
        · have hd : ((x.toNat : Int) != (y.toNat : Int)) = false := by rw [hne]; simp [hxy]
          have Ht1 : Hid (l1.take (k + 1) = l2.take (k + 1)) := Hx.out.1 hxy
          clear hne hxy Hx
          go_wp2
          go_quiet (fail)
          go_wp2
          go_roundw
          case rel => exact ⟨k + 1, _, by omega, by go_num, Ht1, rfl⟩
          case measure => simp [intOf]; omega
        · have hd : ((x.toNat : Int) != (y.toNat : Int)) = true := by rw [hne]; simp [hxy]
          have Hf : Hid (decide (l1 = l2) = false) := by
            show decide (l1 = l2) = false
            rw [decide_eq_false_iff_not]
            intro e
            exact hxy (Hx.out.2 (by rw [e]))
          clear hne hxy Hx
          go_wp2
          go_quiet (fail)
          go_wp2
          go_ret
          rw [Hf.out]
          exact ⟨rfl, _, World.drewN_drewN _ _ _⟩
      · have He : Hid (decide (l1 = l2) = true) := by
          show decide (l1 = l2) = true
          have h1 := Ht.out
          have h2 := Hl.out
          rw [List.take_of_length_le (by omega), List.take_of_length_le (by omega)] at h1
          simpa using h1
        clear hr1 hr2
        go_wp2
        go_ret
        rw [He.out]
        exact ⟨rfl, _, rfl⟩
  · have hl' : ((l1.length : Int) != (l2.length : Int)) = true := by simp; omega
    have Hf : Hid (decide (l1 = l2) = false) := by show _ = _; simp; intro e; subst e; exact hl rfl
    clear hl
    go_enter Tryz.func16, Tryz.ntmps16
    go_wp2
    go_ret
    rw [Hf.out]
    exact ⟨rfl, 0, rfl⟩

end Go.Proofs.YtccfcplhifbjlaaGreatDoor
