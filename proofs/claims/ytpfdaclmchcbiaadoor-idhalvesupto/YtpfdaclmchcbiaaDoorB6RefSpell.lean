import Derived.Test.YtpfdaclmchcbiaaDoorB6Back1
import Derived.Test.YtpfdaclmchcbiaaDoorB6Ref1
import Derived.Test.YtpfdaclmchcbiaaDoorB6RefM
import Derived.Test.YtpfdaclmchcbiaaDoorB6Awake
import Derived.Deep.DeepAppendWide
namespace Go.Proofs.YtpfdaclmchcbiaaDoor.B64
open Go.RowKit
set_option maxRecDepth 100000

/-- j bits from the place i on, as a number. -/
def dig6 (l : List UInt8) (i : Nat) : Nat → Nat
  | 0 => 0
  | j + 1 => 2 * dig6 l i j + bitB l (i + j)

theorem bitB_01 (l : List UInt8) (t : Nat) : bitB l t < 2 := Nat.mod_lt _ (by decide)

theorem dig6_lt (l : List UInt8) (i : Nat) : ∀ j, dig6 l i j < 2 ^ j
  | 0 => by simp [dig6]
  | j + 1 => by
    have h1 := dig6_lt l i j
    have h2 := bitB_01 l (i + j)
    rw [dig6, Nat.pow_succ]
    omega

theorem dig6_six (l : List UInt8) (i : Nat) : dig6 l i 6 = 32 * bitB l i + 16 * bitB l (i + 1) + 8 * bitB l (i + 2) + 4 * bitB l (i + 3) + 2 * bitB l (i + 4) + bitB l (i + 5) := by
  simp only [dig6, Nat.add_zero]
  omega

theorem dig6_shift (x y z : UInt8) (r : List UInt8) (i : Nat) : dig6 (x :: y :: z :: r) (i + 24) 6 = dig6 r i 6 := by
  rw [dig6_six, dig6_six]
  rw [show i + 24 + 1 = i + 1 + 24 by omega, show i + 24 + 2 = i + 2 + 24 by omega, show i + 24 + 3 = i + 3 + 24 by omega, show i + 24 + 4 = i + 4 + 24 by omega, show i + 24 + 5 = i + 5 + 24 by omega]
  simp only [bitB_shift]

theorem dg3 (x y z : UInt8) (r : List UInt8) : dig6 (x :: y :: z :: r) 0 6 = x.toNat / 4 ∧ dig6 (x :: y :: z :: r) 6 6 = x.toNat % 4 * 16 + y.toNat / 16 ∧ dig6 (x :: y :: z :: r) 12 6 = y.toNat % 16 * 4 + z.toNat / 64 ∧ dig6 (x :: y :: z :: r) 18 6 = z.toNat % 64 := by
  have hx := x.toNat_lt; have hy := y.toNat_lt; have hz := z.toNat_lt
  simp only [dig6_six, bitB, Nat.zero_add, Nat.reduceAdd, Nat.reduceDiv, Nat.reduceMod, Nat.reduceSub, Nat.reducePow, List.getD_cons_zero, List.getD_cons_succ]
  omega

theorem dg2 (x y : UInt8) : dig6 [x, y] 0 6 = x.toNat / 4 ∧ dig6 [x, y] 6 6 = x.toNat % 4 * 16 + y.toNat / 16 ∧ dig6 [x, y] 12 6 = y.toNat % 16 * 4 := by
  have hx := x.toNat_lt; have hy := y.toNat_lt
  simp only [dig6_six, bitB, Nat.zero_add, Nat.reduceAdd, Nat.reduceDiv, Nat.reduceMod, Nat.reduceSub, Nat.reducePow, List.getD_cons_zero, List.getD_cons_succ, List.getD_nil, UInt8.toNat_zero]
  omega

theorem dg1 (x : UInt8) : dig6 [x] 0 6 = x.toNat / 4 ∧ dig6 [x] 6 6 = x.toNat % 4 * 16 := by
  have hx := x.toNat_lt
  simp only [dig6_six, bitB, Nat.zero_add, Nat.reduceAdd, Nat.reduceDiv, Nat.reduceMod, Nat.reduceSub, Nat.reducePow, List.getD_cons_zero, List.getD_cons_succ, List.getD_nil, UInt8.toNat_zero]
  omega

theorem dgs3 (x y z : UInt8) (r : List UInt8) : dgs (x :: y :: z :: r) = [x.toNat / 4, x.toNat % 4 * 16 + y.toNat / 16, y.toNat % 16 * 4 + z.toNat / 64, z.toNat % 64] ++ dgs r := by
  have hx := x.toNat_lt; have hy := y.toNat_lt; have hz := z.toNat_lt
  simp [dgs, List.range_succ, dg]
  omega
theorem dgs2 (x y : UInt8) : dgs [x, y] = [x.toNat / 4, x.toNat % 4 * 16 + y.toNat / 16, y.toNat % 16 * 4] := by
  have hx := x.toNat_lt; have hy := y.toNat_lt
  simp [dgs, List.range_succ, dg]
  omega
theorem dgs1 (x : UInt8) : dgs [x] = [x.toNat / 4, x.toNat % 4 * 16] := by
  have hx := x.toNat_lt
  simp [dgs, List.range_succ, dg]
  omega

/-- The digits are the bits, six by six. -/
theorem dgs_bits : ∀ (n : Nat) (l : List UInt8), l.length ≤ n → dgs l = (List.range ((4 * l.length + 2) / 3)).map fun m => dig6 l (6 * m) 6
  | n, [], _ => by simp [dgs]
  | n, [x], _ => by
    obtain ⟨h1, h2⟩ := dg1 x
    rw [dgs1]
    simp [List.range_succ, h1, h2]
  | n, [x, y], _ => by
    obtain ⟨h1, h2, h3⟩ := dg2 x y
    rw [dgs2]
    simp [List.range_succ, h1, h2, h3]
  | n + 1, x :: y :: z :: r, hn => by
    obtain ⟨h1, h2, h3, h4⟩ := dg3 x y z r
    simp only [List.length_cons] at hn
    rw [dgs3, dgs_bits n r (by omega)]
    simp only [List.length_cons]
    rw [show (4 * (r.length + 1 + 1 + 1) + 2) / 3 = 4 + (4 * r.length + 2) / 3 by omega, List.range_add, List.map_append, List.map_map]
    congr 1
    · simp [List.range_succ, h1, h2, h3, h4]
    · apply List.map_congr_left
      intro m _
      show _ = dig6 (x :: y :: z :: r) (6 * (4 + m)) 6
      rw [show 6 * (4 + m) = 6 * m + 24 by omega, dig6_shift]

theorem shrBit (n k : Nat) (hn : n < 256) : bits .and .i64 (wrap64 ((n : Int) / 2 ^ k)) 1 = ((n / 2 ^ k % 2 : Nat) : Int) := by
  have hk : ∀ m : Int, 0 ≤ m → m < 2 ^ 16 → IntKind.i64.wrap m = m := fun m h0 h1 => by rw [IntKind.wrap_i64]; omega
  have e : ((n : Int) / 2 ^ k) = ((n / 2 ^ k : Nat) : Int) := by simp
  have hle : n / 2 ^ k ≤ n := Nat.div_le_self _ _
  rw [e]
  generalize n / 2 ^ k = m at hle
  have e2 : wrap64 (m : Int) = m := by unfold wrap64; omega
  rw [e2]
  have := bits_mask .i64 16 (by decide) hk 1 (by decide) (m : Int) (by omega) (by omega)
  simpa using this

set_option maxHeartbeats 1000000 in
theorem bit_any (ao : Option Addr) (c : Nat) (l : List UInt8) (i : Nat) (I : Int) (w : World) (hI : I = (i : Int)) (hrd : Rd w ao l) (hi : i ≤ 2000000000000000) (hl : l.length ≤ 140737488355328) :
    Calls Tryd.prog 30 #[.slice ao l.length c, .int .i64 I] w fun e w' => e = .returned (.int .i64 (bitB l i)) ∧ w' = w := by
  subst hI
  by_cases h : i / 8 < l.length
  · rcases hrd with h0 | ⟨b, off, rfl, hb, hc⟩
    · subst h0; simp at h
    obtain ⟨x, hx⟩ : ∃ x, l.getD (i / 8) 0 = x := ⟨_, rfl⟩
    have hcell := hc (i / 8) h
    rw [hx] at hcell
    unfold B at hcell
    obtain ⟨k, hk⟩ : ∃ k, k = 7 - i % 8 := ⟨_, rfl⟩
    have hkI : (7 - (i : Int) % 8) = (k : Int) := by omega
    have hk7 : k ≤ 7 := by omega
    have hxl := x.toNat_lt
    have hv := shrBit x.toNat k hxl
    have Hr : Hid (bitB l i = x.toNat / 2 ^ k % 2) := by show bitB l i = _; unfold bitB; rw [hx, hk]
    clear hc hx hk
    go_enter Tryd.func30, Tryd.ntmps30
    go_wp2
    go_ret
    rw [Hr.out]
    exact ⟨rfl, rfl⟩
  · have Hr : Hid (bitB l i = 0) := by
      show bitB l i = 0
      unfold bitB
      rw [List.getD_eq_getElem?_getD, List.getElem?_eq_none (by omega)]
      simp
    clear hrd
    go_enter Tryd.func30, Tryd.ntmps30
    go_wp2
    go_ret
    rw [Hr.out]
    exact ⟨rfl, rfl⟩

theorem conv_any (w : World) (base n : Nat) (v : Value) (l : List UInt8) (h : w.ownsRow base 5 1 v n (l.map B)) :
    (convert 29 9 v).run Tryd.prog w = .ok (.string ⟨l.toArray⟩) w := by
  have hl : l.length = n := by have := h.1; simpa using this
  rcases h.2 with ⟨rfl, rfl⟩ | ⟨g, cap, cur, rfl, _⟩
  · obtain rfl := List.eq_nil_of_length_eq_zero hl
    exact run_convert_bytes_nil w 29 5 Tryd.underlying29 Tryd.underlying5 0 0 9 Tryd.underlying9
  · subst hl
    exact conv_own w g cap base l h

set_option maxHeartbeats 4000000 in
theorem refspell_any (std : Bool) (ao : Option Addr) (c : Nat) (l : List UInt8) (w : World) (hrd : Rd w ao l) (hl : l.length ≤ 140737488355328) :
    Calls Tryd.prog 18 #[.slice ao l.length c, .bool std] w fun e w' => e = .returned (.string ⟨(enc (rowOf std) l).toArray⟩) ∧ Below w.heap.size w w' := by
  obtain ⟨i0, hi, hz0, hz1, hz2⟩ := info_parts infoB
  have HD : Hid (dgs l = (List.range ((4 * l.length + 2) / 3)).map fun m => dig6 l (6 * m) 6) := dgs_bits l.length l (Nat.le_refl _)
  have HE : Hid (enc (rowOf std) l = (dgs l).map (at6 (rowOf std))) := enc_map (rowOf std) l
  have HR : Hid (Rd w ao l) := hrd
  have hsz := rowOf_size std
  clear hrd
  go_enter Tryd.func18, Tryd.ntmps18
  go_wp2_with fail
  refine (signs_any std w).mono ?_
  rintro e w' ⟨rfl, rfl⟩
  generalize hrow : rowOf std = row at *
  have Hrow : Hid (rowOf std = row) := hrow
  clear hrow
  go_wp2
  go_loopw [6, 7] (fun v s wr => ∃ m p : Nat, m ≤ (4 * l.length + 2) / 3 ∧ Hid (p = 6 * m) ∧ p ≤ 1125899906842640 ∧ s = .int .i64 p ∧ wr.ownsRow w'.heap.size 5 1 v m (((List.range m).map fun k => at6 row (dig6 l (6 * k) 6)).map B) ∧ Below w'.heap.size w' wr) (fun _ s _ => 6 * ((4 * l.length + 2) / 3) - (intOf s).toNat)
  case atStart => exact ⟨0, 0, Nat.zero_le _, rfl, by omega, rfl, World.ownsRow_nil _ _ _ _, Below.refl _ _⟩
  case round =>
    obtain ⟨m, p, hm, Hp, hpb, rfl, hown, hbl⟩ := hrel
    by_cases hlt : p < 8 * l.length
    · have hltB : decide ((p : Int) < 8 * (l.length : Int)) = true := by simp; omega
      have hR2 : Hid (Rd wr ao l) := HR.out.below hbl (Nat.le_refl _)
      go_wp2
      go_loop [8, 9] (fun sn sk => ∃ j : Nat, j ≤ 6 ∧ sk = .int .i64 j ∧ sn = .int .i64 (dig6 l p j : Nat)) (fun _ sk => 6 - (intOf sk).toNat)
      case atStart => exact ⟨0, by omega, rfl, rfl⟩
      case round =>
        obtain ⟨j, hj, rfl, rfl⟩ := hrel
        have hdl := dig6_lt l p j
        have hpow : (2 : Nat) ^ j ≤ 2 ^ 6 := Nat.pow_le_pow_right (by decide) hj
        by_cases hj6 : j < 6
        · have Hd : Hid (dig6 l p (j + 1) = 2 * dig6 l p j + bitB l (p + j)) := rfl
          have hbb := bitB_01 l (p + j)
          have hd64 : dig6 l p j < 64 := by omega
          clear hdl hpow
          go_wp2_with fail
          refine (bit_any ao c l (p + j) _ wr (by omega) hR2.out (by omega) hl).mono ?_
          rintro e wq ⟨rfl, rfl⟩
          go_wp2
          go_round
          case rel => exact ⟨j + 1, by omega, by go_num, congrArg (Value.int .i64) (by rw [Hd.out]; omega)⟩
          case measure => simp [intOf]; omega
        · obtain rfl : j = 6 := by omega
          have hq : dig6 l p 6 < 64 := hdl
          have Hs : Hid (((List.range (m + 1)).map fun k => at6 row (dig6 l (6 * k) 6)) = ((List.range m).map fun k => at6 row (dig6 l (6 * k) 6)) ++ [at6 row (dig6 l p 6)]) := by
            show _ = _
            rw [List.range_succ, List.map_append, Hp.out]
            rfl
          generalize dig6 l p 6 = q at hq Hs ⊢
          have gx : row[q]'(by omega) = at6 row q := at6_get row q (by omega)
          clear hdl hpow hR2
          go_wp2_with (at_builtin; refine wpList_append_own_wide _ rfl (.tmp 31) (.tmp 35) 29 rfl w'.heap.size 5 i0 (.int .u8 0) 1 1 Tryd.underlying29 hi hz0 hz1 hz2 rfl (by decide) _ m _ rfl (hown.alloc _) ⟨wr.heap.size, 0, none⟩ 1 1 [.int .u8 (at6 row q).toNat] rfl rfl (by intro t u ht; match t, ht with | 0, ht => simp at ht; subst ht; simp [Addr.add]) (by intro u hu; simp at hu; subst hu; rfl) (by unfold maxLen; omega) (by omega) (by have := hbl.size; simp; omega) ?_; intro v1 w1 hown1 hgrow1 _)
          have hp := Hp.out
          refine ⟨⟨m + 1, p + 6, by omega, by show p + 6 = 6 * (m + 1); omega, by omega, by go_num, ?_, (hbl.alloc hbl.size _).grown hgrow1 (by have := hbl.size; simp; omega) (fun k hk => (hown.lt k hk).1)⟩, by simp [intOf]; omega⟩
          rw [Hs.out, List.map_append]
          exact hown1
    · have Hm : Hid (((List.range m).map fun k => at6 row (dig6 l (6 * k) 6)) = enc row l) := by
        have hp := Hp.out
        have hmm : m = (4 * l.length + 2) / 3 := by omega
        show _ = enc row l
        rw [HE.out, HD.out, hmm, List.map_map]
        rfl
      rw [Hm.out] at hown
      have hcv := conv_any wr _ m _ (enc row l) hown
      have hltB : decide ((p : Int) < 8 * (l.length : Int)) = false := by simp; omega
      clear hown
      go_wp2
      go_ret
      rw [Hrow.out]
      exact ⟨rfl, hbl⟩

set_option maxHeartbeats 400000 in
theorem refencode_any (ao : Option Addr) (c : Nat) (l : List UInt8) (w : World) (hrd : Rd w ao l) (hl : l.length ≤ 140737488355328) :
    Calls Tryd.prog 11 #[.slice ao l.length c] w fun e w' => e = .returned (.string ⟨(enc urlRow l).toArray⟩) ∧ Below w.heap.size w w' := by
  go_enter Tryd.func11, Tryd.ntmps11
  go_wp2_with fail
  refine (refspell_any false ao c l w hrd hl).mono ?_
  rintro e w1 ⟨rfl, hb⟩
  go_wp2
  go_ret
  exact ⟨rfl, hb⟩

theorem cat61 (X : List UInt8) : (⟨X.toArray⟩ : ByteArray) ++ ⟨#[61]⟩ = ⟨(X ++ [61]).toArray⟩ := by
  have h : ∀ a b : ByteArray, a.data = b.data → a = b := fun a b h => by cases a; cases b; simp at h; rw [h]
  apply h
  simp

/-- A text's length. -/
def strN : Value → Nat
  | .string s => s.data.size
  | _ => 0

end Go.Proofs.YtpfdaclmchcbiaaDoor.B64