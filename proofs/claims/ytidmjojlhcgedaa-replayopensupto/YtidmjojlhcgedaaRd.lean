import Derived.Test.YtidmjojlhcgedaaRb
import Derived.Laws.AppendOwnNone
import Derived.Lib.AppendStr
namespace Go.Proofs.Ytidmjojlhcgedaa
open Go.RowKit Go.Maps
set_option maxRecDepth 100000

theorem infoB : (Try.prog.info? 5).map (fun i => (i.zero, i.size, i.bytes)) = some (some (.int .u8 0), 1, 1) := by kernel_rfl
theorem oneB (l : List UInt8) : ∀ v ∈ l.map B, v.oneCell' = true := by
  intro v hv
  obtain ⟨c, _, rfl⟩ := List.mem_map.1 hv
  rfl
/-- A row of bytes of one's own. -/
def Owb (w : World) (base : Nat) (v : Value) (l : List UInt8) : Prop := w.ownsRow base 5 1 v l.length (l.map B)
theorem Owb.nil (w : World) (base : Nat) : Owb w base (.slice none 0 0) [] := ⟨rfl, .inl ⟨rfl, rfl⟩⟩
theorem Bl.owb {w : World} {base g : Nat} {l : List UInt8} (h : Bl 5 w g (l.map B)) (hg : base ≤ g) (hl : l.length ≤ 10000000000) : Owb w base (.slice (some ⟨g, 0, none⟩) l.length l.length) l := by
  refine ⟨by simp, .inr ⟨g, l.length, (l.map B).toArray, rfl, hg, h, Nat.le_refl _, ?_, by simp, ?_⟩⟩
  · unfold maxLen; omega
  · rw [List.take_of_length_le (by simp)]
theorem Owb.below {w w' : World} {base n : Nat} {v : Value} {xs : List UInt8} (h : Owb w base v xs) (hb : Below n w w') (hn : w.heap.size ≤ n) : Owb w' base v xs := by
  rcases h.2 with h0 | ⟨g, cap, cur, e, hg, hh, r⟩
  · exact ⟨h.1, .inl h0⟩
  · exact ⟨h.1, .inr ⟨g, cap, cur, e, hg, by rw [hb.block g (Nat.lt_of_lt_of_le (Array.getElem?_eq_some_iff.1 hh).1 hn)]; exact hh, r⟩⟩
theorem Owb.drewN {w : World} {base : Nat} {v : Value} {xs : List UInt8} (h : Owb w base v xs) (q : Nat) : Owb (w.drewN q) base v xs := h
theorem Owb.base {w : World} {base base' : Nat} {v : Value} {xs : List UInt8} (h : Owb w base v xs) (hb : base' ≤ base) : Owb w base' v xs := by
  rcases h.2 with h0 | ⟨g, cap, cur, e, hg, r⟩
  · exact ⟨h.1, .inl h0⟩
  · exact ⟨h.1, .inr ⟨g, cap, cur, e, Nat.le_trans hb hg, r⟩⟩
/-- A value that is bytes. -/
def Nb (w : World) (v : Value) (l : List UInt8) : Prop := ∃ (ao : Option Addr) (c : Nat), v = .slice ao l.length c ∧ l.length ≤ c ∧ Rd w ao l
theorem Nb.below {w w' : World} {v : Value} {xs : List UInt8} {n : Nat} (h : Nb w v xs) (hb : Below n w w') (hn : w.heap.size ≤ n) : Nb w' v xs := by
  obtain ⟨ao, c, e, hc, hr⟩ := h
  exact ⟨ao, c, e, hc, hr.below hb hn⟩
theorem Nb.drewN {w : World} {v : Value} {xs : List UInt8} (h : Nb w v xs) (q : Nat) : Nb (w.drewN q) v xs := h
theorem Owb.nb {w : World} {base : Nat} {v : Value} {xs : List UInt8} (h : Owb w base v xs) : Nb w v xs := by
  rcases h.2 with ⟨rfl, h0⟩ | ⟨g, cap, cur, rfl, hg, hh, hn, hc, hsz, ht⟩
  · have : xs = [] := List.eq_nil_of_length_eq_zero h0
    subst this
    exact ⟨none, 0, rfl, Nat.le_refl _, .inl rfl⟩
  · refine ⟨_, cap, rfl, hn, .inr ⟨g, 0, rfl, (World.ownsRow.lt h g rfl).2, fun j hj => ?_⟩⟩
    rw [Nat.zero_add, World.ownsRow.cellAt h j (by omega)]
    rw [List.getElem?_map, List.getElem?_eq_getElem hj, List.getD_eq_getElem?_getD, List.getElem?_eq_getElem hj]; rfl
/-- Blocks that are no rows of bytes, of those that there were, stand as they stood. -/
structure Kd (w w' : World) : Prop where
  size : w.heap.size ≤ w'.heap.size
  block : ∀ k, k < w.heap.size → (∀ cs fr, w.heap[k]? ≠ some (.cells cs 5 fr)) → w'.heap[k]? = w.heap[k]?
theorem Kd.refl (w : World) : Kd w w := ⟨Nat.le_refl _, fun _ _ _ => rfl⟩
theorem Kd.trans {a b c : World} (h1 : Kd a b) (h2 : Kd b c) : Kd a c :=
  ⟨Nat.le_trans h1.size h2.size, fun k hk hn => (h2.block k (Nat.lt_of_lt_of_le hk h1.size) (by rw [h1.block k hk hn]; exact hn)).trans (h1.block k hk hn)⟩
theorem Kd.of_below {w w' : World} (h : Below w.heap.size w w') : Kd w w' := ⟨h.size, fun k hk _ => h.block k hk⟩
theorem Kd.of_grown {w w' : World} {base : Nat} {v : Value} {xs : List UInt8} (h : Owb w base v xs) (hg : w.grownBy w' v.ownBlock) : Kd w w' := by
  refine ⟨hg.size, fun k hk hn => hg.block k hk fun e => ?_⟩
  rcases h.2 with ⟨h0, _⟩ | ⟨g, cap, cur, e1, _, hh, _⟩
  · subst h0; cases e
  · rw [e1] at e
    have : k = g := by simpa [Value.ownBlock] using e
    subst this
    exact hn _ _ hh
theorem Bl.kd {t : TypeId} {w w' : World} {b : Nat} {vs : List Value} (h : Bl t w b vs) (hk : Kd w w') (ht : t ≠ 5) : Bl t w' b vs := by
  have hl := h.lt
  unfold Bl at *
  rw [hk.block b hl (fun cs fr e => by rw [h] at e; simp at e; exact ht e.2.1)]
  exact h

/-- A row of bytes of one's own, made since a world. -/
structure OBb (B0 : Nat) (w ws : World) (v : Value) (xs : List UInt8) : Prop where
  own : Owb ws B0 v xs
  bel : Below B0 w ws
  kd : Kd w ws
theorem OBb.nil (w : World) : OBb w.heap.size w w (.slice none 0 0) [] := ⟨Owb.nil _ _, Below.refl _ _, Kd.refl _⟩
theorem OBb.drewN {B0 : Nat} {w ws : World} {v : Value} {xs : List UInt8} (h : OBb B0 w ws v xs) (q : Nat) : OBb B0 w (ws.drewN q) v xs := ⟨h.own, below_drewN h.bel q, ⟨h.kd.size, h.kd.block⟩⟩
theorem OBb.step {B0 : Nat} {w ws w' : World} {v : Value} {xs : List UInt8} (h : OBb B0 w ws v xs) (hb : Below ws.heap.size ws w') (hB : B0 ≤ ws.heap.size) : OBb B0 w w' v xs := ⟨h.own.below hb (Nat.le_refl _), h.bel.trans (hb.mono hB), h.kd.trans (Kd.of_below hb)⟩
theorem OBb.grown {B0 : Nat} {w ws w' : World} {v v' : Value} {xs ys : List UInt8} (h : OBb B0 w ws v xs) (hB : B0 ≤ ws.heap.size) (h1 : Owb w' B0 v' ys) (h2 : ws.grownBy w' v.ownBlock) : OBb B0 w w' v' ys :=
  ⟨h1, h.bel.grown h2 hB (own_block h.own), h.kd.trans (Kd.of_grown h.own h2)⟩
theorem Bl.rdb {t : TypeId} {w : World} {b : Nat} {xs : List UInt8} (h : Bl t w b (xs.map B)) : Rd w (some ⟨b, 0, none⟩) xs := by
  refine .inr ⟨b, 0, rfl, h.lt, fun j hj => ?_⟩
  rw [Nat.zero_add, h.cell j (by simpa using hj), List.getElem_map, List.getD_eq_getElem?_getD, List.getElem?_eq_getElem hj]; rfl
/-- append of bytes that can be read, nil ones too, behind a row of one's own. -/
theorem append_rdb {w : World} {ops : Array Oper} {rest : List Oper} {o : Oper} {a : Act} {Q : Exit → Act → World → Prop} (hgd : o.guard = none) (s x : Operand)
    (ho : o.op = .call { callee := .builtin .append, args := #[s, x], argTypes := #[30, 30] })
    (base : Nat) (v : Value) (xs : List UInt8) (hs : a.eval s = v) (hown : Owb w base v xs)
    (ao : Option Addr) (m c : Nat) (l : List UInt8) (hx : a.eval x = .slice ao m c) (hl : l.length = m) (hao : ao = none → m = 0 ∧ c = 0) (hrd : Rd w ao l)
    (hbytes : xs.length + m ≤ 10000000000) (hbase : base ≤ w.heap.size)
    (h : ∀ v' w', Owb w' base v' (xs ++ l) → w.grownBy w' v.ownBlock → wpList Try.prog ops Q rest (a.put o.dst v') w') : wpList Try.prog ops Q (o :: rest) a w := by
  obtain ⟨i, hi, hz, hsize, hby⟩ := info_parts infoB
  cases ao with
  | none =>
    obtain ⟨rfl, rfl⟩ := hao rfl
    obtain rfl := List.eq_nil_of_length_eq_zero hl
    refine wpList_append_own_none hgd s x 30 ho base 5 i 1 Try.underlying30 hi v xs.length (xs.map B) hs hown hx ?_
    exact h v w (by rw [List.append_nil]; exact hown) (World.grownBy.refl _ _)
  | some ad =>
    refine wpList_append_own_wide w hgd s x 30 ho base 5 i (.int .u8 0) 1 1 Try.underlying30 hi hz hsize hby rfl (by decide) v xs.length (xs.map B) hs hown ad m c (l.map B) hx (by simpa using hl) ?_ (oneB l) (by unfold maxLen; omega) (by omega) hbase ?_
    · intro j u hu
      rcases hrd with h0 | ⟨b, off, e, hb, hc⟩
      · subst h0; simp at hu
      · cases e
        have hj : j < l.length := by
          have := (List.getElem?_eq_some_iff.1 hu).1
          simpa using this
        rw [Addr.add_lit, hc j hj]
        simp [List.getElem?_map, List.getElem?_eq_getElem hj] at hu
        rw [← hu, List.getD_eq_getElem?_getD, List.getElem?_eq_getElem hj, Option.getD_some]
    · intro v' w' h1 h2 _
      refine h v' w' ?_ h2
      unfold Owb
      rw [List.map_append, List.length_append, hl]
      exact h1
/-- append of one byte. -/
theorem append_oneb {w wr : World} {ops : Array Oper} {rest : List Oper} {o : Oper} {a : Act} {Q : Exit → Act → World → Prop} (hgd : o.guard = none) (s x : Operand)
    (ho : o.op = .call { callee := .builtin .append, args := #[s, x], argTypes := #[30, 30] })
    (B0 : Nat) (v : Value) (xs : List UInt8) (z : UInt8) (hs : a.eval s = v) (hob : OBb B0 w wr v xs) (hx : a.eval x = .slice (some ⟨wr.heap.size, 0, none⟩) 1 1) (hl : xs.length ≤ 1000000000) (hB : B0 ≤ w.heap.size)
    (h : ∀ v' w', OBb B0 w w' v' (xs ++ [z]) → wpList Try.prog ops Q rest (a.put o.dst v') w') : wpList Try.prog ops Q (o :: rest) a (wr.alloc (.cells #[.int .u8 (z.toNat : Int)] 5)) := by
  have hs2 : B0 ≤ wr.heap.size := Nat.le_trans hB hob.bel.size
  have hbl := alloc_bl wr (([z] : List UInt8).map B) 5
  refine append_rdb hgd s x ho B0 v xs hs (hob.own.below (alloc_below wr _) (Nat.le_refl _)) (some ⟨wr.heap.size, 0, none⟩) 1 1 [z] hx rfl (fun e => by cases e) hbl.rdb (by omega) (by rw [World.size_alloc]; omega) ?_
  intro v' w' h1 h2
  exact h v' w' ((hob.step (alloc_below wr _) hs2).grown (by rw [World.size_alloc]; omega) h1 h2)
/-- The n lowest bytes of a number, the most significant first. -/
def tobe (n N : Nat) : List UInt8 := (List.range n).map fun i => UInt8.ofNat (N / 256 ^ (n - 1 - i) % 256)

theorem tobe_length (n N : Nat) : (tobe n N).length = n := by simp [tobe]

theorem tobe_get (n N k : Nat) (h : k < (tobe n N).length) : (tobe n N)[k].toNat = N / 256 ^ (n - 1 - k) % 256 := by
  simp [tobe]

theorem shr8 (N m : Nat) : (N : Int) / 2 ^ (8 * m) % 256 = ((N / 256 ^ m % 256 : Nat) : Int) := by
  have : (2 : Int) ^ (8 * m) = ((256 ^ m : Nat) : Int) := by rw [Int.pow_mul]; simp
  rw [this]
  omega


theorem strCells_eq (l : List UInt8) : Go.Lib.strCells ⟨l.toArray⟩ = l.map B := by
  unfold Go.Lib.strCells B
  rfl

/-- append of a string's bytes. -/
theorem append_strb {w wr : World} {ops : Array Oper} {rest : List Oper} {o : Oper} {a : Act} {Q : Exit → Act → World → Prop} (hgd : o.guard = none) (s x : Operand)
    (ho : o.op = .call { callee := .builtin .append, args := #[s, x], argTypes := #[30, 9] })
    (B0 : Nat) (v : Value) (xs l : List UInt8) (hs : a.eval s = v) (hob : OBb B0 w wr v xs) (hx : a.eval x = .string ⟨l.toArray⟩) (hl : xs.length + l.length ≤ 1000000000) (hB : B0 ≤ w.heap.size)
    (h : ∀ v' w', OBb B0 w w' v' (xs ++ l) → wpList Try.prog ops Q rest (a.put o.dst v') w') : wpList Try.prog ops Q (o :: rest) a wr := by
  obtain ⟨i, hi, hz, hsize, hby⟩ := info_parts infoB
  have hsz : (⟨l.toArray⟩ : ByteArray).size = l.length := by show l.toArray.size = _; simp
  refine Go.Lib.wpList_append_own_string _ hgd s x 30 9 ho B0 5 i Try.underlying30 Try.underlying9 hi hz hsize hby v xs.length (xs.map B) hs hob.own ⟨l.toArray⟩ hx (by rw [hsz]; unfold maxLen; omega) (by rw [hsz]; omega) (Nat.le_trans hB hob.bel.size) ?_
  intro v' w' h1 h2 _
  refine h v' w' (hob.grown (Nat.le_trans hB hob.bel.size) ?_ h2)
  unfold Owb
  rw [strCells_eq, hsz, ← List.map_append] at h1
  rw [List.length_append]
  exact h1

set_option maxHeartbeats 2000000 in
theorem appendNumber_any (B0 : Nat) (v : Value) (xs : List UInt8) (N n : Nat) (w0 w : World) (hob : OBb B0 w0 w v xs) (hB : B0 ≤ w0.heap.size) (hl : xs.length ≤ 900000000) (h8 : n ≤ 8) (_hN : N < 18446744073709551616) :
    Calls Try.prog 34 #[v, .int .u64 N, .int .i64 n] w fun e w' => ∃ v', e = .returned v' ∧ OBb B0 w0 w' v' (xs ++ tobe n N) := by
  go_enter Try.func34, Try.ntmps34
  go_wp2
  go_loopw [0, 9] (fun s0 s wr => ∃ k : Nat, s = .int .i64 (k : Int) ∧ k ≤ n ∧ OBb B0 w0 wr s0 (xs ++ (tobe n N).take k)) (fun _ s _ => n - (intOf s).toNat)
  case atStart => exact ⟨0, rfl, Nat.zero_le _, by simpa using hob⟩
  case round =>
    obtain ⟨k, rfl, hk, hob⟩ := hrel
    by_cases hlt : k < n
    · have hkl : k < (tobe n N).length := by rw [tobe_length]; exact hlt
      have hxl : (xs ++ (tobe n N).take k).length ≤ 1000000000 := by simp [tobe_length]; omega
      have e1 : (.int .u8 ((N : Int) / 2 ^ (8 * (n - 1 - k)) % 256) : Value) = .int .u8 ((tobe n N)[k].toNat : Int) := by
        rw [tobe_get, shr8]
      go_wp2_with (at_builtin; refine append_oneb rfl _ _ rfl B0 _ (xs ++ (tobe n N).take k) (tobe n N)[k] rfl hob rfl hxl hB ?_; intro v' w' hob')
      go_roundw
      case rel =>
        refine ⟨k + 1, by go_num, by omega, ?_⟩
        rw [List.take_succ_eq_append_getElem hkl, ← List.append_assoc]
        exact hob'
      case measure => simp [intOf]; omega
    · obtain rfl : k = n := by omega
      go_wp2
      go_ret
      refine ⟨_, rfl, ?_⟩
      rw [List.take_of_length_le (by rw [tobe_length]; exact Nat.le_refl _)] at hob
      exact hob

end Go.Proofs.Ytidmjojlhcgedaa
