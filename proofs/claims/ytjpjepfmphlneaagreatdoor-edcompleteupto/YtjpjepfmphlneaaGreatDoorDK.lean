import Derived.Test.YtjpjepfmphlneaaGreatDoorDQ
import Derived.Deep.QuietTactic
import Derived.BigQuiet
namespace Go.Proofs.YtjpjepfmphlneaaGreatDoor
open Go.RowKit

set_option maxRecDepth 100000

set_option maxHeartbeats 1000000 in
theorem sameLimbs_any (a1 a2 : Option Addr) (c1 c2 : Nat) (l1 l2 : List Nat) (w : World) (hr1 : Rn w a1 l1) (hr2 : Rn w a2 l2) (hlen : l1.length ≤ 281474976710656) :
    Calls Tryz.prog 31 #[.slice a1 l1.length c1, .slice a2 l2.length c2] w fun e w' => e = .returned (.bool (decide (l1 = l2))) ∧ ∃ q, w' = w.drewN q := by
  by_cases hl : l1.length = l2.length
  · have hl' : ((l1.length : Int) != (l2.length : Int)) = false := by simp; omega
    have Hl : Hid (l1.length = l2.length) := hl
    clear hl
    go_enter Tryz.func31, Tryz.ntmps31
    go_wp2
    go_loopw [5] (fun s wr => ∃ k q : Nat, k ≤ l1.length ∧ s = .int .i64 k ∧ Hid (l1.take k = l2.take k) ∧ wr = w.drewN q) (fun s _ => l1.length - (intOf s).toNat)
    case atStart => exact ⟨0, 0, Nat.zero_le _, rfl, rfl, rfl⟩
    case round =>
      obtain ⟨k, q, hk, rfl, Ht, rfl⟩ := hrel
      by_cases hlt : k < l1.length
      · rcases hr1 with hr1 | ⟨b1, o1, rfl, hb1, hc1⟩
        · subst hr1; simp at hlt
        rcases hr2 with hr2 | ⟨b2, o2, rfl, hb2, hc2⟩
        · subst hr2; have h := Hl.out; rw [List.length_nil] at h; omega
        have hlt2 : k < l2.length := by have := Hl.out; omega
        have g1 := hc1 k hlt
        have g2 := hc2 k hlt2
        rw [List.getD_eq_getElem?_getD, List.getElem?_eq_getElem hlt, Option.getD_some] at g1
        rw [List.getD_eq_getElem?_getD, List.getElem?_eq_getElem hlt2, Option.getD_some] at g2
        have Hx : Hid (l1[k] = l2[k] ↔ l1.take (k + 1) = l2.take (k + 1)) := take_iffN hlt hlt2 Ht.out
        unfold U at g1 g2
        clear hc1 hc2
        generalize l1[k] = x at g1 Hx
        generalize l2[k] = y at g2 Hx
        have hltI : (k : Int) < (l2.length : Int) := by omega
        have hne := ne_limb x y
        by_cases hxy : x = y
        · have hd : ((x : Int) != (y : Int)) = false := by rw [hne]; simp [hxy]
          have Ht1 : Hid (l1.take (k + 1) = l2.take (k + 1)) := Hx.out.1 hxy
          clear hne hxy Hx
          go_wp2
          go_quiet (fail)
          go_wp2
          go_roundw
          case rel => exact ⟨k + 1, _, by omega, by go_num, Ht1, rfl⟩
          case measure => simp [intOf]; omega
        · have hd : ((x : Int) != (y : Int)) = true := by rw [hne]; simp [hxy]
          have Hf : Hid (decide (l1 = l2) = false) := by
            show decide (l1 = l2) = false
            rw [decide_eq_false_iff_not]
            intro e
            exact hxy (Hx.out.2 (by rw [e]))
          clear hne hxy Hx
          go_wp2
          go_quiet (fail)
          go_wp2
          go_ret
          rw [Hf.out]
          exact ⟨rfl, _, World.drewN_drewN _ _ _⟩
      · have He : Hid (decide (l1 = l2) = true) := by
          show decide (l1 = l2) = true
          have h1 := Ht.out
          have h2 := Hl.out
          rw [List.take_of_length_le (by omega), List.take_of_length_le (by omega)] at h1
          simpa using h1
        clear hr1 hr2
        go_wp2
        go_ret
        rw [He.out]
        exact ⟨rfl, _, rfl⟩
  · have hl' : ((l1.length : Int) != (l2.length : Int)) = true := by simp; omega
    have Hf : Hid (decide (l1 = l2) = false) := by show _ = _; simp; intro e; subst e; exact hl rfl
    clear hl
    go_enter Tryz.func31, Tryz.ntmps31
    go_wp2
    go_ret
    rw [Hf.out]
    exact ⟨rfl, 0, rfl⟩

theorem u8_ext {x y : UInt8} (h : x.toNat = y.toNat) : x = y := UInt8.toNat_inj.1 h
theorem take_iffB {l1 l2 : List UInt8} {k : Nat} (h1 : k < l1.length) (h2 : k < l2.length) (h : l1.take k = l2.take k) : l1[k] = l2[k] ↔ l1.take (k + 1) = l2.take (k + 1) := by
  rw [List.take_succ_eq_append_getElem h1, List.take_succ_eq_append_getElem h2, h]
  constructor
  · intro e; rw [e]
  · intro e
    have := List.append_cancel_left e
    exact (List.cons.inj this).1

theorem ne_byte (x y : UInt8) : ((x.toNat : Int) != (y.toNat : Int)) = !decide (x = y) := by
  by_cases h : x = y
  · subst h; simp
  · have : x.toNat ≠ y.toNat := fun e => h (u8_ext e)
    simp [h]; omega

set_option maxHeartbeats 1000000 in
theorem sameBytes_any (a1 a2 : Option Addr) (c1 c2 : Nat) (l1 l2 : List UInt8) (w : World) (hr1 : Rd w a1 l1) (hr2 : Rd w a2 l2) (hlen : l1.length ≤ 9223372036854775807) (hlen2 : l2.length ≤ 9223372036854775807) :
    Calls Tryz.prog 13 #[.slice a1 l1.length c1, .slice a2 l2.length c2] w fun e w' => e = .returned (.bool (decide (l1 = l2))) ∧ ∃ q, w' = w.drewN q := by
  by_cases hl : l1.length = l2.length
  · have hl' : ((l1.length : Int) != (l2.length : Int)) = false := by simp; omega
    have Hl : Hid (l1.length = l2.length) := hl
    clear hl
    go_enter Tryz.func13, Tryz.ntmps13
    go_wp2
    go_loopw [5] (fun s wr => ∃ k q : Nat, k ≤ l1.length ∧ s = .int .i64 k ∧ Hid (l1.take k = l2.take k) ∧ wr = w.drewN q) (fun s _ => l1.length - (intOf s).toNat)
    case atStart => exact ⟨0, 0, Nat.zero_le _, rfl, rfl, rfl⟩
    case round =>
      obtain ⟨k, q, hk, rfl, Ht, rfl⟩ := hrel
      by_cases hlt : k < l1.length
      · rcases hr1 with hr1 | ⟨b1, o1, rfl, hb1, hc1⟩
        · subst hr1; simp at hlt
        rcases hr2 with hr2 | ⟨b2, o2, rfl, hb2, hc2⟩
        · subst hr2; have h := Hl.out; rw [List.length_nil] at h; omega
        have hlt2 : k < l2.length := by have := Hl.out; omega
        have g1 := hc1 k hlt
        have g2 := hc2 k hlt2
        rw [List.getD_eq_getElem?_getD, List.getElem?_eq_getElem hlt, Option.getD_some] at g1
        rw [List.getD_eq_getElem?_getD, List.getElem?_eq_getElem hlt2, Option.getD_some] at g2
        have Hx : Hid (l1[k] = l2[k] ↔ l1.take (k + 1) = l2.take (k + 1)) := take_iffB hlt hlt2 Ht.out
        unfold B at g1 g2
        clear hc1 hc2
        generalize l1[k] = x at g1 Hx
        generalize l2[k] = y at g2 Hx
        have hltI : (k : Int) < (l2.length : Int) := by omega
        have hne := ne_byte x y
        by_cases hxy : x = y
        · have hd : ((x.toNat : Int) != (y.toNat : Int)) = false := by rw [hne]; simp [hxy]
          have Ht1 : Hid (l1.take (k + 1) = l2.take (k + 1)) := Hx.out.1 hxy
          clear hne hxy Hx
          go_wp2
          go_quiet (fail)
          go_wp2
          go_roundw
          case rel => exact ⟨k + 1, _, by omega, by go_num, Ht1, rfl⟩
          case measure => simp [intOf]; omega
        · have hd : ((x.toNat : Int) != (y.toNat : Int)) = true := by rw [hne]; simp [hxy]
          have Hf : Hid (decide (l1 = l2) = false) := by
            show decide (l1 = l2) = false
            rw [decide_eq_false_iff_not]
            intro e
            exact hxy (Hx.out.2 (by rw [e]))
          clear hne hxy Hx
          go_wp2
          go_quiet (fail)
          go_wp2
          go_ret
          rw [Hf.out]
          exact ⟨rfl, _, World.drewN_drewN _ _ _⟩
      · have Hf : Hid (decide (l1 = l2) = true) := by
          show decide (l1 = l2) = true
          rw [decide_eq_true_eq]
          have h := Ht.out
          rw [List.take_of_length_le (by omega), List.take_of_length_le (by have := Hl.out; omega)] at h
          exact h
        go_wp2
        go_ret
        rw [Hf.out]
        exact ⟨rfl, _, rfl⟩
  · have hl' : ((l1.length : Int) != (l2.length : Int)) = true := by simp; omega
    have Hf : Hid (decide (l1 = l2) = false) := by
      show decide (l1 = l2) = false
      rw [decide_eq_false_iff_not]
      intro e
      exact hl (by rw [e])
    clear hl
    go_enter Tryz.func13, Tryz.ntmps13
    go_wp2
    go_ret
    rw [Hf.out]
    exact ⟨rfl, 0, rfl⟩


theorem Mk.nm {w : World} {b : Nat} {v : Value} {V k : Nat} (h : Mk w b v V k) : Nm w v (dg Bs V) := h.1.nm (dg_sm Bs_two V)
theorem dgB_inj {U V : Nat} (h : dg Bs U = dg Bs V) : U = V := by rw [← dg_nv Bs_two U, h, dg_nv Bs_two V]
theorem dec_dg (U V : Nat) : decide (dg Bs U = dg Bs V) = decide (U = V) := by
  by_cases h : U = V
  · subst h; simp
  · rw [decide_eq_false h, decide_eq_false (fun e => h (dgB_inj e))]
theorem sameNat_nm (v u : Value) (xs ys : List Nat) (w : World) (hv : Nm w v xs) (hu : Nm w u ys) (hl : xs.length ≤ 100000000) : Calls Tryz.prog 31 #[v, u] w fun e w' => e = .returned (.bool (decide (xs = ys))) ∧ ∃ q, w' = w.drewN q := by
  obtain ⟨a1, c1, rfl, _, r1, _⟩ := hv
  obtain ⟨a2, c2, rfl, _, r2, _⟩ := hu
  exact sameLimbs_any a1 a2 c1 c2 xs ys w r1 r2 (by omega)
/-- A number of one limb, written out. -/
theorem lit_v (w : World) (n : Nat) (z : Int) (hz : z = (n : Int)) (h0 : 0 < n) (hn : n < 4294967296) : Rk w (w.alloc (.cells #[.int .u32 z] 43)) (.slice (some ⟨w.heap.size, 0, none⟩) 1 1) n 32 := by
  subst hz
  have hb := alloc_bl w [.int .u32 (n : Int)] 43
  have hd : dg Bs n = [n] := by
    rw [dg, dif_neg (fun h => h.elim (fun h => by omega) (fun h => absurd h (by decide))), Nat.mod_eq_of_lt (show n < Bs from hn), Nat.div_eq_of_lt (show n < Bs from hn), dg_zero]
  have hlt : n < pw 32 := hn
  refine ⟨⟨?_, by rw [hd]; simp, alloc_below _ _⟩, hlt⟩
  rw [hd]
  have h := Bl.ow (L := [n]) (base := w.heap.size) hb 1 (by simp) (Nat.le_refl _) (by simp)
  exact h
/-- modn's calls modulo the prime. -/
theorem mmulP (a b m : Value) (A B k j : Nat) (w : World) (ha : Nk w a A k) (hb : Nk w b B j) (hm : Nk w m eP 256) (hk : k ≤ 4096) (hj : j ≤ 4096) : Calls Tryz.prog 28 #[a, b, m] w fun e w' => ∃ r, e = .returned (.tuple #[r, .int .i64 0]) ∧ Rk w w' r (fM eP A B) 256 := by
  have C := mmul_v a b m A B eP w ha.1 hb.1 hm.1
  rw [rcode_fine pmP.1 pmP.lt4 ha.2 hb.2 hk hj] at C
  refine C.mono ?_
  rintro e w' h
  rcases h with ⟨h, _⟩ | ⟨_, r, rfl, h⟩
  · exact absurd rfl h
  · exact ⟨r, rfl, h, lt_pw (fM_lt pmP _ _)⟩
theorem msubP (a b m : Value) (A B k j : Nat) (w : World) (ha : Nk w a A k) (hb : Nk w b B j) (hm : Nk w m eP 256) (hk : k ≤ 4096) (hj : j ≤ 4096) : Calls Tryz.prog 54 #[a, b, m] w fun e w' => ∃ r, e = .returned (.tuple #[r, .int .i64 0]) ∧ Rk w w' r (fS eP A B) 256 := by
  have C := msub_v a b m A B eP w ha.1 hb.1 hm.1
  rw [rcode_fine pmP.1 pmP.lt4 ha.2 hb.2 hk hj] at C
  refine C.mono ?_
  rintro e w' h
  rcases h with ⟨h, _⟩ | ⟨_, r, rfl, h⟩
  · exact absurd rfl h
  · exact ⟨r, rfl, h, lt_pw (fS_lt pmP _ _)⟩
set_option maxHeartbeats 4000000 in
/-- The law's prime. -/
theorem lprime_v (w : World) : Calls Tryz.prog 53 #[] w fun e w' => ∃ r, e = .returned r ∧ Rk w w' r eP 256 := by
  have h1 := lit_v w 1 1 rfl (by decide) (by decide)
  obtain ⟨xs, n1, hx, k1⟩ := h1.nb.1
  have C := shl_nm 255 _ xs _ n1 (by omega)
  rw [hx, show shk 255 = 255 by decide] at C
  have HB1 : Hid (Below w.heap.size w (w.alloc (.cells #[.int .u32 1] 43))) := h1.bel
  clear h1 n1 hx k1
  go_enter Tryz.func53, Tryz.ntmps53
  go_wp2_with fail
  generalize (w.alloc (.cells #[.int .u32 1] 43)) = w1 at *
  refine C.mono ?_
  clear C
  rintro e w2 ⟨r, rfl, hO, hB⟩
  have hlt : (1 * 2 ^ 255 : Nat) < pw 256 := by show 1 * 2 ^ 255 < 2 ^ 256; decide +kernel
  have HN : Hid (Nk w2 r (1 * 2 ^ 255) 256) := ⟨hO.vl (Nat.le_trans (dgl_pw hlt (by decide)) (by decide)), hlt⟩
  have HB2 : Hid (Below w.heap.size w w2) := HB1.out.trans (hB.mono HB1.out.size)
  have h2 := lit_v w2 19 19 rfl (by decide) (by decide)
  have C := vsub r _ (1 * 2 ^ 255) 19 _ _ _ (HN.out.1.below h2.bel (Nat.le_refl _)) h2.nb.1 (by decide) (by decide)
  have HB3 : Hid (Below w.heap.size w (w2.alloc (.cells #[.int .u32 19] 43))) := HB2.out.trans (h2.bel.mono HB2.out.size)
  obtain ⟨r0, r1, r2, rfl⟩ := HN.out.sl
  clear hO hB hlt h2
  go_wp2_with fail
  generalize (w2.alloc (.cells #[.int .u32 19] 43)) = w3 at *
  refine C.mono ?_
  clear C
  rintro e w4 ⟨t, rfl, hN⟩
  have hE : (1 * 2 ^ 255 - 19 : Nat) = eP := by decide +kernel
  rw [hE] at hN
  have HX : Hid (Rk w w4 t eP 256) := ⟨⟨hN.1.base HB3.out.size, hN.2.1, HB3.out.trans (hN.2.2.mono HB3.out.size)⟩, eP_pw⟩
  obtain ⟨t0, t1, t2, rfl⟩ := HX.out.sl
  clear hN hE
  go_wp2
  go_ret
  exact ⟨_, rfl, HX.out⟩
set_option maxHeartbeats 4000000 in
/-- The law's neutral point. -/
theorem lzero_v (w : World) : Calls Tryz.prog 18 #[] w fun e w' => ∃ y, e = .returned (.agg #[.slice none 0 0, y, .bool false]) ∧ Mk w' w.heap.size y 1 32 ∧ Below w.heap.size w w' := by
  have h1 := lit_v (w.alloc (.cells #[.slice none 0 0, .slice (some ⟨w.heap.size + 1, 0, none⟩) 1 1, .bool false] 31)) 1 1 rfl (by decide) (by decide)
  have hb := alloc_below w (.cells #[.slice none 0 0, .slice (some ⟨w.heap.size + 1, 0, none⟩) 1 1, .bool false] 31)
  rw [World.size_alloc] at h1
  have HX : Hid (Mk _ w.heap.size (.slice (some ⟨w.heap.size + 1, 0, none⟩) 1 1) 1 32 ∧ Below w.heap.size w ((w.alloc (.cells #[.slice none 0 0, .slice (some ⟨w.heap.size + 1, 0, none⟩) 1 1, .bool false] 31)).alloc (.cells #[.int .u32 1] 43))) := ⟨h1.mk.base hb.size, hb.trans (h1.bel.mono hb.size)⟩
  clear h1 hb
  go_enter Tryz.func18, Tryz.ntmps18
  go_wp2
  (try simp only [Exit.inBlock, Exit.then])
  refine bodyPost_ret (v := .agg #[.slice none 0 0, .slice (some ⟨w.heap.size + 1, 0, none⟩) 1 1, .bool false]) ?_ rfl ⟨_, rfl, HX.out.1, HX.out.2⟩
  rw [results_cell rfl]; go_simp
end Go.Proofs.YtjpjepfmphlneaaGreatDoor
