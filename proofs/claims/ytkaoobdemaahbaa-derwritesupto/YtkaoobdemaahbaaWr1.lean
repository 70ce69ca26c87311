import Derived.Test.YtkaoobdemaahbaaLen
import Derived.Test.YtkaoobdemaahbaaRd2
import Derived.Laws.AppendOwnNone
namespace Go.Proofs.Ytkaoobdemaahbaa
open Go.RowKit

/-- All blocks that are no row of bytes stand as they stood. -/
structure Ku (w w' : World) : Prop where
  size : w.heap.size ≤ w'.heap.size
  block : ∀ k, k < w.heap.size → (∀ cur fr, w.heap[k]? ≠ some (.cells cur 5 fr)) → w'.heap[k]? = w.heap[k]?

theorem Ku.refl (w : World) : Ku w w := ⟨Nat.le_refl _, fun _ _ _ => rfl⟩
theorem Ku.trans {a b c : World} (h : Ku a b) (h' : Ku b c) : Ku a c :=
  ⟨Nat.le_trans h.size h'.size, fun k hk hn => by
    have h1 := h.block k hk hn
    rw [h'.block k (Nat.lt_of_lt_of_le hk h.size) (fun cur fr => by rw [h1]; exact hn cur fr), h1]⟩
theorem Ku.of_below {w w' : World} (h : Below w.heap.size w w') : Ku w w' := ⟨h.size, fun k hk _ => h.block k hk⟩
theorem Ku.of_grown {w w' : World} {base n size : Nat} {v : Value} {xs : List Value} (ho : w.ownsRow base 5 size v n xs) (hg : w.grownBy w' v.ownBlock) : Ku w w' :=
  ⟨hg.size, fun k hk hn => hg.block k hk (fun e => by
    obtain ⟨cur, hc⟩ := own_type ho e.symm
    exact hn cur _ hc)⟩
theorem Ku.bl {w w' : World} {t : TypeId} {b : Nat} {vs : List Value} (h : Ku w w') (hb : Bl t w b vs) (hne : t ≠ 5) : Bl t w' b vs := by
  have hlt := hb.lt
  unfold Bl at *
  rw [h.block b hlt (fun cur fr e => by
    rw [hb] at e
    simp only [Option.some.injEq, Obj.cells.injEq] at e
    exact hne e.2.1)]
  exact hb

/-- A row of bytes of one's own that has come of another one. -/
structure Ob (base : Nat) (w w' : World) (v : Value) (l : List UInt8) : Prop where
  own : w'.ownsRow base 5 1 v l.length (l.map B)
  bel : Below base w w'
  ku : Ku w w'

theorem Ob.alloc {base : Nat} {w w' : World} {v : Value} {l : List UInt8} (h : Ob base w w' v l) (hb : base ≤ w'.heap.size) (o : Obj) : Ob base w (w'.alloc o) v l :=
  ⟨h.own.alloc o, Below.alloc h.bel hb o, h.ku.trans (Ku.of_below (alloc_below _ _))⟩

/-- append of bytes that can be read, none too, behind a row of one's own. -/
theorem append_ob {w w' : World} {ops : Array Oper} {rest : List Oper} {o : Oper} {a : Act} {Q : Exit → Act → World → Prop} (hgd : o.guard = none) (s x : Operand)
    (ho : o.op = .call { callee := .builtin .append, args := #[s, x], argTypes := #[25, 25] })
    (base : Nat) (v : Value) (acc : List UInt8) (hs : a.eval s = v) (hob : Ob base w w' v acc)
    (ao : Option Addr) (m c : Nat) (l : List UInt8) (hx : a.eval x = .slice ao m c) (hl : l.length = m) (hao : ao = none → m = 0 ∧ c = 0) (hrd : Rd w' ao l)
    (hbytes : acc.length + m ≤ 10000000000) (hbase : base ≤ w'.heap.size)
    (h : ∀ v' w'', Ob base w w'' v' (acc ++ l) → wpList Try.prog ops Q rest (a.put o.dst v') w'') : wpList Try.prog ops Q (o :: rest) a w' := by
  obtain ⟨i, hi, hz, hsize, hby⟩ := info_parts infoB
  cases ao with
  | none =>
    obtain ⟨rfl, rfl⟩ := hao rfl
    obtain rfl := List.eq_nil_of_length_eq_zero hl
    refine wpList_append_own_none hgd s x 25 ho base 5 i 1 Try.underlying25 hi v acc.length (acc.map B) hs hob.own hx ?_
    exact h v w' (by rw [List.append_nil]; exact hob)
  | some ad =>
    refine wpList_append_own_wide w' hgd s x 25 ho base 5 i (.int .u8 0) 1 1 Try.underlying25 hi hz hsize hby rfl (by decide) v acc.length (acc.map B) hs hob.own ad m c (l.map B) hx (by simpa using hl) ?_ (oneB l) (by unfold maxLen; omega) (by omega) hbase ?_
    · intro j u hu
      rcases hrd with h0 | ⟨b, off, e, hb, hc⟩
      · subst h0; simp at hu
      · cases e
        have hj : j < l.length := by
          have := (List.getElem?_eq_some_iff.1 hu).1
          simpa using this
        rw [Addr.add_lit, hc j hj]
        simp [List.getElem?_map, List.getElem?_eq_getElem hj] at hu
        rw [← hu, getD_eq _ _ hj]
    · intro v' w'' h1 h2 _
      refine h v' w'' ⟨?_, hob.bel.grown h2 hbase (own_block hob.own), hob.ku.trans (Ku.of_grown hob.own h2)⟩
      rw [List.map_append, List.length_append, hl]
      exact h1

theorem rd_lit1 (w : World) (x : Int) (h0 : 0 ≤ x) (h1 : x < 256) : Rd (w.alloc (.cells #[.int .u8 x] 5)) (some ⟨w.heap.size, 0, none⟩) [UInt8.ofNat x.toNat] := by
  have hb := alloc_bl w [.int .u8 x] 5
  refine .inr ⟨w.heap.size, 0, rfl, hb.lt, fun j hj => ?_⟩
  obtain rfl : j = 0 := by simpa using hj
  rw [hb.cell 0 (by simp)]
  simp only [List.getElem_cons_zero, List.getD_cons_zero, B]
  rw [u8_ofNat _ (by omega), show ((x.toNat : Nat) : Int) = x from by omega]
theorem rd_lit2 (w : World) (x y : Int) (h0 : 0 ≤ x) (h1 : x < 256) (h2 : 0 ≤ y) (h3 : y < 256) : Rd (w.alloc (.cells #[.int .u8 x, .int .u8 y] 5)) (some ⟨w.heap.size, 0, none⟩) [UInt8.ofNat x.toNat, UInt8.ofNat y.toNat] := by
  have hb := alloc_bl w [.int .u8 x, .int .u8 y] 5
  refine .inr ⟨w.heap.size, 0, rfl, hb.lt, fun j hj => ?_⟩
  match j, hj with
  | 0, _ =>
    rw [hb.cell 0 (by simp)]
    simp only [List.getElem_cons_zero, List.getD_cons_zero, B]
    rw [u8_ofNat _ (by omega), show ((x.toNat : Nat) : Int) = x from by omega]
  | 1, _ =>
    rw [Nat.zero_add, hb.cell 1 (by simp)]
    simp only [List.getElem_cons_zero, List.getElem_cons_succ, List.getD_cons_zero, List.getD_cons_succ, B]
    rw [u8_ofNat _ (by omega), show ((y.toNat : Nat) : Int) = y from by omega]

set_option maxRecDepth 100000 in
set_option maxHeartbeats 2000000 in
theorem head_any (base : Nat) (w : World) (v : Value) (acc : List UInt8) (t : Int) (n : Nat) (hob : w.ownsRow base 5 1 v acc.length (acc.map B)) (hb : base ≤ w.heap.size) (hacc : acc.length ≤ 1000000) (ht0 : 0 ≤ t) (ht1 : t ≤ 255) (hn : n ≤ 65536) :
    Calls Try.prog 16 #[v, .int .i64 t, .int .i64 (n : Int)] w fun e w' => ∃ v', e = .returned v' ∧ Ob base w w' v' (acc ++ hd t n) := by
  have C := digits_any n w (by omega)
  have HO : Hid (Ob base w w v acc) := ⟨hob, Below.refl _ _, Ku.refl _⟩
  obtain ⟨va, vc, hv⟩ := own_slice hob
  subst hv
  clear hob
  rcases Nat.lt_or_ge n 128 with h1 | h1
  · have hdg : dgs n = 0 := if_pos h1
    have hh : hd t n = [UInt8.ofNat t.toNat, UInt8.ofNat n] := if_pos h1
    rw [hdg] at C
    have HH : Hid (hd t n = [UInt8.ofNat t.toNat, UInt8.ofNat ((n : Int)).toNat]) := hh
    clear hdg hh
    go_enter Try.func16, Try.ntmps16
    go_wp2_with fail
    refine C.mono ?_
    rintro e w1 ⟨rfl, rfl⟩
    clear C
    go_wp2_with (at_builtin; refine append_ob rfl (.tmp 13) (.tmp 18) rfl base _ acc rfl (HO.out.alloc hb _) (some ⟨w1.heap.size, 0, none⟩) 2 2 [UInt8.ofNat t.toNat, UInt8.ofNat ((n : Int)).toNat] rfl rfl (fun e => by cases e) (rd_lit2 w1 t (n : Int) ht0 (by omega) (by omega) (by omega)) (by omega) (by rw [alloc_size]; omega) ?_; intro v5 w5 hob5)
    go_ret
    rw [HH.out]
    exact ⟨_, rfl, hob5⟩
  · obtain ⟨c, D, hc1, hc3, hcd, hhd, hDl, hD⟩ : ∃ (c : Nat) (D : List UInt8), 1 ≤ c ∧ c ≤ 3 ∧ dgs n = c ∧ hd t n = UInt8.ofNat t.toNat :: UInt8.ofNat (128 + c) :: D ∧ D.length = c ∧ ∀ i, i < c → D[i]? = some (UInt8.ofNat (n / 2 ^ (8 * (c - 1 - i)) % 256)) := by
      unfold dgs hd
      simp only [show ¬ n < 128 from by omega, if_false]
      rcases Nat.lt_or_ge n 256 with h2 | h2
      · simp only [h2, if_true]
        refine ⟨1, [UInt8.ofNat n], by omega, by omega, rfl, rfl, rfl, fun i hi => ?_⟩
        obtain rfl : i = 0 := by omega
        simp [Nat.mod_eq_of_lt h2]
      · simp only [show ¬ n < 256 from by omega, if_false]
        rcases Nat.lt_or_ge n 65536 with h3 | h3
        · simp only [h3, if_true]
          refine ⟨2, [UInt8.ofNat (n / 256), UInt8.ofNat (n % 256)], by omega, by omega, rfl, rfl, rfl, fun i hi => ?_⟩
          rcases (show i = 0 ∨ i = 1 by omega) with rfl | rfl
          · simp [Nat.mod_eq_of_lt (show n / 256 < 256 by omega)]
          · simp
        · obtain rfl : n = 65536 := by omega
          refine ⟨3, _, by omega, by omega, by decide, rfl, rfl, fun i hi => ?_⟩
          rcases (show i = 0 ∨ i = 1 ∨ i = 2 by omega) with rfl | rfl | rfl <;> rfl
    rw [hcd] at C
    have HD : Hid (∀ i, i < c → D[i]? = some (UInt8.ofNat (n / 2 ^ (8 * (c - 1 - i)) % 256))) := hD
    have HDl : Hid (D.length = c) := hDl
    have HH : Hid (hd t n = [UInt8.ofNat t.toNat, UInt8.ofNat ((128 + (c : Int))).toNat] ++ D) := by
      show hd t n = _
      rw [hhd, show ((128 + (c : Int))).toNat = 128 + c from by omega]; rfl
    have hcb : ((c : Int) == 0) = false := by simp; omega
    clear hcd hhd hDl hD
    go_enter Try.func16, Try.ntmps16
    go_wp2_with fail
    refine C.mono ?_
    rintro e w1 ⟨rfl, rfl⟩
    clear C
    go_wp2_with (at_builtin; refine append_ob rfl (.tmp 20) (.tmp 26) rfl base _ acc rfl (HO.out.alloc hb _) (some ⟨w1.heap.size, 0, none⟩) 2 2 [UInt8.ofNat t.toNat, UInt8.ofNat ((128 + (c : Int))).toNat] rfl rfl (fun e => by cases e) (rd_lit2 w1 t (128 + (c : Int)) ht0 (by omega) (by omega) (by omega)) (by omega) (by rw [alloc_size]; omega) ?_; intro v5 w5 hob5)
    have HO5 : Hid (Ob base w1 w5 v5 (acc ++ [UInt8.ofNat t.toNat, UInt8.ofNat ((128 + (c : Int))).toNat])) := hob5
    obtain ⟨a5, n5, k5, hv5⟩ : ∃ a n c, v5 = .slice a n c := (own_slice hob5.own).elim fun a h => h.elim fun c e => ⟨a, _, c, e⟩
    subst hv5
    clear hob5
    go_loopw [0, 8] (fun s0 s8 wr => ∃ (i : Nat), s8 = .int .i64 (8 * ((c : Int) - 1 - (i : Int))) ∧ i ≤ c ∧ Hid (Ob base w1 wr s0 (acc ++ [UInt8.ofNat t.toNat, UInt8.ofNat ((128 + (c : Int))).toNat] ++ D.take i))) (fun _ s _ => (intOf s + 8).toNat)
    case atStart =>
      refine ⟨0, by go_num, Nat.zero_le _, ?_⟩
      rw [List.take_zero, List.append_nil]
      exact HO5
    case round =>
      obtain ⟨i, rfl, hi, HI⟩ := hrel
      by_cases hic : i < c
      · have hDi := HD.out i hic
        obtain ⟨sh, hsh⟩ : ∃ sh : Nat, sh = 8 * (c - 1 - i) := ⟨_, rfl⟩
        have hshI : 8 * ((c : Int) - 1 - (i : Int)) = (sh : Int) := by omega
        have hsh2 : sh ≤ 16 := by omega
        rw [← hsh] at hDi
        have Hsh : Hid (sh = 8 * (c - 1 - i)) := hsh
        clear hsh
        rw [hshI]
        have hy : n / 2 ^ sh % 256 < 256 := Nat.mod_lt _ (by decide)
        have Hy : Hid (True → ((n : Int) / 2 ^ sh) % 256 = ((n / 2 ^ sh % 256 : Nat) : Int)) := fun _ => by
          rw [Int.natCast_emod, Int.natCast_ediv, Int.natCast_pow]; rfl
        have HDi : Hid (D.take (i + 1) = D.take i ++ [UInt8.ofNat (((n : Int) / 2 ^ sh) % 256).toNat]) := by
          show _ = _
          have hil : i < D.length := by have := HDl.out; omega
          rw [List.take_succ_eq_append_getElem hil, Hy.out trivial]
          rw [List.getElem?_eq_getElem hil] at hDi
          rw [Option.some.inj hDi]
          rfl
        have HI0 : Hid (0 ≤ ((n : Int) / 2 ^ sh) % 256 ∧ ((n : Int) / 2 ^ sh) % 256 < 256) := ⟨Int.emod_nonneg _ (by decide), Int.emod_lt_of_pos _ (by decide)⟩
        clear hDi
        have hsz := HI.out.ku.size
        have hal : (acc ++ [UInt8.ofNat t.toNat, UInt8.ofNat ((128 + (c : Int))).toNat] ++ D.take i).length ≤ 1000010 := by
          simp only [List.length_append, List.length_cons, List.length_nil, List.length_take]; omega
        have hsr : (acc ++ [UInt8.ofNat t.toNat, UInt8.ofNat ((128 + (c : Int))).toNat] ++ D.take i).length + 1 ≤ 10000000000 := by omega
        have hbr : base ≤ wr.heap.size := by omega
        obtain ⟨aI, nI, kI, hvI⟩ : ∃ a n c, u0 = .slice a n c := (own_slice HI.out.own).elim fun a h => h.elim fun c e => ⟨a, _, c, e⟩
        subst hvI
        clear hy Hy hal
        go_wp2_with (at_builtin; refine append_ob rfl (.tmp 35) (.tmp 40) rfl base _ (acc ++ [UInt8.ofNat t.toNat, UInt8.ofNat ((128 + (c : Int))).toNat] ++ D.take i) rfl (HI.out.alloc hbr _) (some ⟨wr.heap.size, 0, none⟩) 1 1 [UInt8.ofNat (((n : Int) / 2 ^ sh) % 256).toNat] rfl rfl (fun e => by cases e) (rd_lit1 wr _ HI0.out.1 HI0.out.2) hsr (by rw [alloc_size]; omega) ?_; intro v6 w6 hob6)
        go_roundw
        case rel =>
          refine ⟨i + 1, ?_, by omega, ?_⟩
          · have := Hsh.out
            rw [show 8 * ((c : Int) - 1 - ((i + 1 : Nat) : Int)) = (sh : Int) - 8 from by omega]
          · rw [HDi.out, ← List.append_assoc]; exact hob6
        case measure => simp [intOf]; omega
      · obtain rfl : i = c := by omega
        have HF : Hid (acc ++ hd t n = acc ++ [UInt8.ofNat t.toNat, UInt8.ofNat ((128 + (i : Int))).toNat] ++ D.take i) := by
          show _ = _
          rw [HH.out, List.take_of_length_le (by rw [HDl.out]; exact Nat.le_refl _), List.append_assoc]
        have hneg : 8 * ((i : Int) - 1 - (i : Int)) = -8 := by omega
        rw [hneg]
        obtain ⟨aI, nI, kI, hvI⟩ : ∃ a n c, u0 = .slice a n c := (own_slice HI.out.own).elim fun a h => h.elim fun c e => ⟨a, _, c, e⟩
        subst hvI
        go_wp2
        go_ret
        rw [HF.out]
        exact ⟨_, rfl, HI.out⟩
end Go.Proofs.Ytkaoobdemaahbaa
