import Derived.Test.YtghfoppojdkhkaaGreatDoorEP
namespace Go.Proofs.YtghfoppojdkhkaaGreatDoor
open Go.RowKit

set_option maxRecDepth 100000

theorem ver_nn (c : Int) (h1 : c ≠ 1) (h2 : c ≠ 2) (h : Int) (ax ay am ag : Option Addr) (cx cy cm cg : Nat) (lx ly m sg : List UInt8) (w : World) (T : Sha.Tb w) (hx : Rd w ax lx) (hy : Rd w ay ly) (hm : Rd w am m) (hg : Rd w ag sg) (l1 : lx.length ≤ 100000000) (l2 : ly.length ≤ 100000000) (l3 : m.length ≤ 100000000) (l4 : sg.length ≤ cg) (c3 : m.length ≤ cm ∧ cm ≤ 9223372036854775807) : ∃ z : Int, Hid (z ≠ 0 ∧ Calls Tryz.prog 10 #[.int .i64 h, .int .i64 c, .slice ax lx.length cx, .slice ay ly.length cy, .slice am m.length cm, .slice ag sg.length cg] w fun e w' => e = .returned (.int .i64 z) ∧ Below w.heap.size w w') := by
  by_cases h0 : Sha.siz h = 0
  · exact ⟨111, by decide, ver_alg c h ax ay am ag cx cy cm cg lx ly m sg w T hx hy hm hg l1 l2 l3 l4 c3 h0⟩
  · exact ⟨90, by decide, ver_none c h1 h2 h ax ay am ag cx cy cm cg lx ly m sg w T hx hy hm hg l1 l2 l3 l4 c3 h0⟩
set_option maxHeartbeats 40000000 in
theorem tw_none (c : Int) (h1 : c ≠ 1) (h2 : c ≠ 2) (h : Int) (ax ay am ag : Option Addr) (cx cy cm cg : Nat) (lx ly m sg : List UInt8) (w : World) (T : Sha.Tb w) (hx : Rd w ax lx) (hy : Rd w ay ly) (hm : Rd w am m) (hg : Rd w ag sg) (l1 : lx.length ≤ 100000000) (l2 : ly.length ≤ 100000000) (l3 : m.length ≤ 100000000) (l4 : sg.length ≤ cg) (c3 : m.length ≤ cm ∧ cm ≤ 9223372036854775807)  :
    Calls Tryz.prog 3 #[.int .i64 h, .int .i64 c, .slice ax lx.length cx, .slice ay ly.length cy, .slice am m.length cm, .slice ag sg.length cg] w fun e w' => e = .returned (.bool true) ∧ Below w.heap.size w w' := by
  have HT0 : Hid (Sha.Tb w) := T
  have Hx0 : Hid (Rd w ax lx) := hx
  have Hy0 : Hid (Rd w ay ly) := hy
  have Hm0 : Hid (Rd w am m) := hm
  have Hg0 : Hid (Rd w ag sg) := hg
  have HB0 : Hid (Below w.heap.size w w) := Below.refl _ _
  have HLn : Hid (lx.length ≤ 100000000 ∧ ly.length ≤ 100000000 ∧ m.length ≤ 100000000 ∧ sg.length ≤ cg ∧ m.length ≤ cm ∧ cm ≤ 9223372036854775807) := ⟨l1, l2, l3, l4, c3⟩
  clear T hx hy hm hg l1 l2 l3 l4 c3
  go_enter Tryz.func3, Tryz.ntmps3
  go_wp2_with fail
  refine (awake12_v _ HT0.out).mono ?_
  rintro e w1 ⟨rfl, hB⟩
  have Hs2 : Hid (Below w.heap.size w w1) := hB
  clear hB
  go_wp2_with fail
  refine (size_none c h1 h2 _).mono ?_
  rintro e w3 ⟨rfl, hB⟩
  have Hs4 : Hid (Below w1.heap.size w1 w3) := hB
  clear hB
  go_wp2_with fail
  refine (order_none c h1 h2 _).mono ?_
  rintro e w5 ⟨rfl, hB⟩
  have Hs6 : Hid (Below w3.heap.size w3 w5) := hB
  clear hB
  go_wp2_with fail
  have HT1 : Hid (Sha.Tb w5) := HT0.out.below (btr Hs2.out (btr Hs4.out Hs6.out))
  have Hx1 : Hid (Rd w5 ax lx) := Hx0.out.below (btr Hs2.out (btr Hs4.out Hs6.out)) (Nat.le_refl _)
  have Hy1 : Hid (Rd w5 ay ly) := Hy0.out.below (btr Hs2.out (btr Hs4.out Hs6.out)) (Nat.le_refl _)
  have Hm1 : Hid (Rd w5 am m) := Hm0.out.below (btr Hs2.out (btr Hs4.out Hs6.out)) (Nat.le_refl _)
  have Hg1 : Hid (Rd w5 ag sg) := Hg0.out.below (btr Hs2.out (btr Hs4.out Hs6.out)) (Nat.le_refl _)
  obtain ⟨z, HZ⟩ := ver_nn c h1 h2 h ax ay am ag cx cy cm cg lx ly m sg _ HT1.out Hx1.out Hy1.out Hm1.out Hg1.out HLn.out.1 HLn.out.2.1 HLn.out.2.2.1 HLn.out.2.2.2.1 HLn.out.2.2.2.2
  refine (HZ.out.2).mono ?_
  rintro e w7 ⟨rfl, hB⟩
  have Hs8 : Hid (Below w5.heap.size w5 w7) := hB
  clear hB
  have hne : (z != 0) = true := bne_iff_ne.2 HZ.out.1
  have HB1 : Hid (Below w.heap.size w w7) := HB0.out.trans ((btr Hs2.out (btr Hs4.out (btr Hs6.out Hs8.out))).mono HB0.out.size)
  go_wp2
  go_ret
  exact ⟨rfl, HB1.out⟩
set_option maxHeartbeats 40000000 in
theorem tw_len32 {c : Int} {p b n gx gy : Nat} (hk : Kv c p b n gx gy 32) (h : Int) (ax ay am ag : Option Addr) (cx cy cm cg : Nat) (lx ly m sg : List UInt8) (w : World) (T : Sha.Tb w) (hx : Rd w ax lx) (hy : Rd w ay ly) (hm : Rd w am m) (hg : Rd w ag sg) (l1 : lx.length ≤ 100000000) (l2 : ly.length ≤ 100000000) (l3 : m.length ≤ 100000000) (l4 : sg.length ≤ cg) (c3 : m.length ≤ cm ∧ cm ≤ 9223372036854775807) (hl : sg.length ≠ 64) :
    Calls Tryz.prog 3 #[.int .i64 h, .int .i64 c, .slice ax lx.length cx, .slice ay ly.length cy, .slice am m.length cm, .slice ag sg.length cg] w fun e w' => e = .returned (.bool true) ∧ Below w.heap.size w w' := by
  have HT0 : Hid (Sha.Tb w) := T
  have Hx0 : Hid (Rd w ax lx) := hx
  have Hy0 : Hid (Rd w ay ly) := hy
  have Hm0 : Hid (Rd w am m) := hm
  have Hg0 : Hid (Rd w ag sg) := hg
  have HB0 : Hid (Below w.heap.size w w) := Below.refl _ _
  have HLn : Hid (lx.length ≤ 100000000 ∧ ly.length ≤ 100000000 ∧ m.length ≤ 100000000 ∧ sg.length ≤ cg ∧ m.length ≤ cm ∧ cm ≤ 9223372036854775807) := ⟨l1, l2, l3, l4, c3⟩
  clear T hx hy hm hg l1 l2 l3 l4 c3
  go_enter Tryz.func3, Tryz.ntmps3
  go_wp2_with fail
  refine (awake12_v _ HT0.out).mono ?_
  rintro e w1 ⟨rfl, hB⟩
  have Hs2 : Hid (Below w.heap.size w w1) := hB
  clear hB
  go_wp2_with fail
  refine (size_v hk _).mono ?_
  rintro e w3 ⟨rfl, hB⟩
  have Hs4 : Hid (Below w1.heap.size w1 w3) := hB
  clear hB
  have hln : (((sg.length : Nat) : Int) != 64) = true := bne_iff_ne.2 (by omega)
  go_wp2_with fail
  refine (order_v hk _).mono ?_
  rintro e w5 ⟨nv, rfl, mN, hB⟩
  have Hs6 : Hid (Below w3.heap.size w3 w5) := hB
  obtain ⟨n0, n1, n2, rfl⟩ := mN.nk.sl
  have Hn0 : Hid (Mk w5 0 (.slice n0 n1 n2) n 384) := mN.base (Nat.zero_le _)
  clear mN hB
  go_wp2_with fail
  have HT1 : Hid (Sha.Tb w5) := HT0.out.below (btr Hs2.out (btr Hs4.out Hs6.out))
  have Hx1 : Hid (Rd w5 ax lx) := Hx0.out.below (btr Hs2.out (btr Hs4.out Hs6.out)) (Nat.le_refl _)
  have Hy1 : Hid (Rd w5 ay ly) := Hy0.out.below (btr Hs2.out (btr Hs4.out Hs6.out)) (Nat.le_refl _)
  have Hm1 : Hid (Rd w5 am m) := Hm0.out.below (btr Hs2.out (btr Hs4.out Hs6.out)) (Nat.le_refl _)
  have Hg1 : Hid (Rd w5 ag sg) := Hg0.out.below (btr Hs2.out (btr Hs4.out Hs6.out)) (Nat.le_refl _)
  have C := verify_v hk h ax ay am ag cx cy cm cg lx ly m sg _ HT1.out Hx1.out Hy1.out Hm1.out Hg1.out HLn.out.1 HLn.out.2.1 HLn.out.2.2.1 HLn.out.2.2.2.1 HLn.out.2.2.2.2
  obtain ⟨z, Hz⟩ : ∃ z, Hid (z = verV p b n (.A gx gy) 32 h lx ly m sg) := ⟨_, rfl⟩
  rw [← Hz.out] at C
  refine (C).mono ?_
  rintro e w7 ⟨rfl, hB⟩
  have Hs8 : Hid (Below w5.heap.size w5 w7) := hB
  clear hB C
  have hne : (z != 0) = true := bne_iff_ne.2 (by rw [Hz.out]; exact ver_ne hk h lx ly m sg (fun h => hl (by have := h.1; omega)))
  have HB1 : Hid (Below w.heap.size w w7) := HB0.out.trans ((btr Hs2.out (btr Hs4.out (btr Hs6.out Hs8.out))).mono HB0.out.size)
  go_wp2
  go_ret
  exact ⟨rfl, HB1.out⟩
set_option maxHeartbeats 40000000 in
theorem tw_len48 {c : Int} {p b n gx gy : Nat} (hk : Kv c p b n gx gy 48) (h : Int) (ax ay am ag : Option Addr) (cx cy cm cg : Nat) (lx ly m sg : List UInt8) (w : World) (T : Sha.Tb w) (hx : Rd w ax lx) (hy : Rd w ay ly) (hm : Rd w am m) (hg : Rd w ag sg) (l1 : lx.length ≤ 100000000) (l2 : ly.length ≤ 100000000) (l3 : m.length ≤ 100000000) (l4 : sg.length ≤ cg) (c3 : m.length ≤ cm ∧ cm ≤ 9223372036854775807) (hl : sg.length ≠ 96) :
    Calls Tryz.prog 3 #[.int .i64 h, .int .i64 c, .slice ax lx.length cx, .slice ay ly.length cy, .slice am m.length cm, .slice ag sg.length cg] w fun e w' => e = .returned (.bool true) ∧ Below w.heap.size w w' := by
  have HT0 : Hid (Sha.Tb w) := T
  have Hx0 : Hid (Rd w ax lx) := hx
  have Hy0 : Hid (Rd w ay ly) := hy
  have Hm0 : Hid (Rd w am m) := hm
  have Hg0 : Hid (Rd w ag sg) := hg
  have HB0 : Hid (Below w.heap.size w w) := Below.refl _ _
  have HLn : Hid (lx.length ≤ 100000000 ∧ ly.length ≤ 100000000 ∧ m.length ≤ 100000000 ∧ sg.length ≤ cg ∧ m.length ≤ cm ∧ cm ≤ 9223372036854775807) := ⟨l1, l2, l3, l4, c3⟩
  clear T hx hy hm hg l1 l2 l3 l4 c3
  go_enter Tryz.func3, Tryz.ntmps3
  go_wp2_with fail
  refine (awake12_v _ HT0.out).mono ?_
  rintro e w1 ⟨rfl, hB⟩
  have Hs2 : Hid (Below w.heap.size w w1) := hB
  clear hB
  go_wp2_with fail
  refine (size_v hk _).mono ?_
  rintro e w3 ⟨rfl, hB⟩
  have Hs4 : Hid (Below w1.heap.size w1 w3) := hB
  clear hB
  have hln : (((sg.length : Nat) : Int) != 96) = true := bne_iff_ne.2 (by omega)
  go_wp2_with fail
  refine (order_v hk _).mono ?_
  rintro e w5 ⟨nv, rfl, mN, hB⟩
  have Hs6 : Hid (Below w3.heap.size w3 w5) := hB
  obtain ⟨n0, n1, n2, rfl⟩ := mN.nk.sl
  have Hn0 : Hid (Mk w5 0 (.slice n0 n1 n2) n 384) := mN.base (Nat.zero_le _)
  clear mN hB
  go_wp2_with fail
  have HT1 : Hid (Sha.Tb w5) := HT0.out.below (btr Hs2.out (btr Hs4.out Hs6.out))
  have Hx1 : Hid (Rd w5 ax lx) := Hx0.out.below (btr Hs2.out (btr Hs4.out Hs6.out)) (Nat.le_refl _)
  have Hy1 : Hid (Rd w5 ay ly) := Hy0.out.below (btr Hs2.out (btr Hs4.out Hs6.out)) (Nat.le_refl _)
  have Hm1 : Hid (Rd w5 am m) := Hm0.out.below (btr Hs2.out (btr Hs4.out Hs6.out)) (Nat.le_refl _)
  have Hg1 : Hid (Rd w5 ag sg) := Hg0.out.below (btr Hs2.out (btr Hs4.out Hs6.out)) (Nat.le_refl _)
  have C := verify_v hk h ax ay am ag cx cy cm cg lx ly m sg _ HT1.out Hx1.out Hy1.out Hm1.out Hg1.out HLn.out.1 HLn.out.2.1 HLn.out.2.2.1 HLn.out.2.2.2.1 HLn.out.2.2.2.2
  obtain ⟨z, Hz⟩ : ∃ z, Hid (z = verV p b n (.A gx gy) 48 h lx ly m sg) := ⟨_, rfl⟩
  rw [← Hz.out] at C
  refine (C).mono ?_
  rintro e w7 ⟨rfl, hB⟩
  have Hs8 : Hid (Below w5.heap.size w5 w7) := hB
  clear hB C
  have hne : (z != 0) = true := bne_iff_ne.2 (by rw [Hz.out]; exact ver_ne hk h lx ly m sg (fun h => hl (by have := h.1; omega)))
  have HB1 : Hid (Below w.heap.size w w7) := HB0.out.trans ((btr Hs2.out (btr Hs4.out (btr Hs6.out Hs8.out))).mono HB0.out.size)
  go_wp2
  go_ret
  exact ⟨rfl, HB1.out⟩
set_option maxHeartbeats 40000000 in
theorem tw_32 {c : Int} {p b n gx gy : Nat} (hk : Kv c p b n gx gy 32) (h : Int) (ax ay am ag : Option Addr) (cx cy cm cg : Nat) (lx ly m sg : List UInt8) (w : World) (T : Sha.Tb w) (hx : Rd w ax lx) (hy : Rd w ay ly) (hm : Rd w am m) (hg : Rd w ag sg) (l1 : lx.length ≤ 100000000) (l2 : ly.length ≤ 100000000) (l3 : m.length ≤ 100000000) (l4 : sg.length ≤ cg) (c3 : m.length ≤ cm ∧ cm ≤ 9223372036854775807) (hl : sg.length = 64) :
    Calls Tryz.prog 3 #[.int .i64 h, .int .i64 c, .slice ax lx.length cx, .slice ay ly.length cy, .slice am m.length cm, .slice ag 64 cg] w fun e w' => e = .returned (.bool true) ∧ Below w.heap.size w w' := by
  have Hl : Hid (sg.length = 64) := hl
  have hcg : 64 ≤ cg := hl ▸ l4
  obtain ⟨g, off, rfl⟩ : ∃ g off : Nat, ag = some ⟨g, off, none⟩ := by
    rcases hg with h | ⟨g, off, e, _⟩
    · subst h; simp at hl
    · exact ⟨g, off, e⟩
  have HT0 : Hid (Sha.Tb w) := T
  have Hx0 : Hid (Rd w ax lx) := hx
  have Hy0 : Hid (Rd w ay ly) := hy
  have Hm0 : Hid (Rd w am m) := hm
  have Hg0 : Hid (Rd w (some ⟨g, off, none⟩) sg) := hg
  have HB0 : Hid (Below w.heap.size w w) := Below.refl _ _
  have HLn : Hid (lx.length ≤ 100000000 ∧ ly.length ≤ 100000000 ∧ m.length ≤ 100000000 ∧ sg.length ≤ cg ∧ m.length ≤ cm ∧ cm ≤ 9223372036854775807) := ⟨l1, l2, l3, l4, c3⟩
  clear T hx hy hm hg l1 l2 l3 l4 c3
  go_enter Tryz.func3, Tryz.ntmps3
  go_wp2_with fail
  refine (awake12_v _ HT0.out).mono ?_
  rintro e w1 ⟨rfl, hB⟩
  have Hs2 : Hid (Below w.heap.size w w1) := hB
  clear hB
  clear hl
  go_wp2_with fail
  refine (size_v hk _).mono ?_
  rintro e w3 ⟨rfl, hB⟩
  have Hs4 : Hid (Below w1.heap.size w1 w3) := hB
  clear hB
  go_wp2_with fail
  refine (order_v hk _).mono ?_
  rintro e w5 ⟨nv, rfl, mN, hB⟩
  have Hs6 : Hid (Below w3.heap.size w3 w5) := hB
  obtain ⟨n0, n1, n2, rfl⟩ := mN.nk.sl
  have Hn0 : Hid (Mk w5 0 (.slice n0 n1 n2) n 384) := mN.base (Nat.zero_le _)
  clear mN hB
  have HLk : Hid ((sg.take 32).length = 32 ∧ (sg.drop 32).length = 32) := ⟨by simp [Hl.out], by simp [Hl.out]⟩
  obtain ⟨R, HR⟩ : ∃ V, Hid (V = bv (sg.take 32)) := ⟨_, rfl⟩
  obtain ⟨S, HS⟩ : ∃ V, Hid (V = bv (sg.drop 32)) := ⟨_, rfl⟩
  have Hg1 : Hid (Rd w5 (some ⟨g, off, none⟩) sg) := Hg0.out.below (btr Hs2.out (btr Hs4.out Hs6.out)) (Nat.le_refl _)
  go_wp2_with fail
  refine (from_e (rd_take Hg1.out 32) HLk.out.1 (by decide) HR.out).mono ?_
  rintro e w7 ⟨rv, rfl, hh⟩
  have Hs8 : Hid (Below w5.heap.size w5 w7) := hh.bel
  obtain ⟨r0, r1, r2, rfl⟩ := hh.sl
  have Hr0 : Hid (Mk w7 0 (.slice r0 r1 r2) R 384) := hh.mk.base (Nat.zero_le _)
  clear hh
  have Hg2 : Hid (Rd w7 (some ⟨g, off, none⟩) sg) := Hg1.out.below Hs8.out (Nat.le_refl _)
  go_wp2_with fail
  refine (from_e (rd_drop Hg2.out 32) HLk.out.2 (by decide) HS.out).mono ?_
  rintro e w9 ⟨tv, rfl, hh⟩
  have Hs10 : Hid (Below w7.heap.size w7 w9) := hh.bel
  obtain ⟨t0, t1, t2, rfl⟩ := hh.sl
  have Ht0 : Hid (Mk w9 0 (.slice t0 t1 t2) S 384) := hh.mk.base (Nat.zero_le _)
  clear hh
  obtain ⟨bR, HbR⟩ : ∃ z : Int, Hid (z = ((bl R : Nat) : Int)) := ⟨_, rfl⟩
  go_wp2_with fail
  have Hr1 : Hid (Mk w9 0 (.slice r0 r1 r2) R 384) := Hr0.out.below Hs10.out
  have C := bits_p Hr1.out.nk.1
  rw [← HbR.out] at C
  refine C.mono ?_
  clear C
  rintro e w9 ⟨rfl, rfl⟩
  by_cases hR0 : 0 < R
  rotate_left
  · have hz : (bR == 0) = true := by rw [HbR.out, bl_is0, decide_eq_true hR0]
    have HX : Hid (¬ ((0 < R ∧ R < n) ∧ 0 < S ∧ S < n)) := fun h => hR0 h.1.1
    go_wp2_with fail
    have HT1 : Hid (Sha.Tb w9) := HT0.out.below (btr Hs2.out (btr Hs4.out (btr Hs6.out (btr Hs8.out Hs10.out))))
    have Hx1 : Hid (Rd w9 ax lx) := Hx0.out.below (btr Hs2.out (btr Hs4.out (btr Hs6.out (btr Hs8.out Hs10.out)))) (Nat.le_refl _)
    have Hy1 : Hid (Rd w9 ay ly) := Hy0.out.below (btr Hs2.out (btr Hs4.out (btr Hs6.out (btr Hs8.out Hs10.out)))) (Nat.le_refl _)
    have Hm1 : Hid (Rd w9 am m) := Hm0.out.below (btr Hs2.out (btr Hs4.out (btr Hs6.out (btr Hs8.out Hs10.out)))) (Nat.le_refl _)
    have Hg3 : Hid (Rd w9 (some ⟨g, off, none⟩) sg) := Hg2.out.below Hs10.out (Nat.le_refl _)
    have C := verify_v hk h ax ay am _ cx cy cm _ lx ly m sg _ HT1.out Hx1.out Hy1.out Hm1.out Hg3.out HLn.out.1 HLn.out.2.1 HLn.out.2.2.1 HLn.out.2.2.2.1 HLn.out.2.2.2.2
    obtain ⟨z, Hz⟩ : ∃ z, Hid (z = verV p b n (.A gx gy) 32 h lx ly m sg) := ⟨_, rfl⟩
    rw [← Hz.out, Hl.out] at C
    refine (C).mono ?_
    rintro e w11 ⟨rfl, hB⟩
    have Hs12 : Hid (Below w9.heap.size w9 w11) := hB
    clear hB C
    have hne : (z != 0) = true := bne_iff_ne.2 (by rw [Hz.out]; exact ver_ne hk h lx ly m sg (fun h => HX.out (by rw [HR.out, HS.out]; exact h.2)))
    have HB1 : Hid (Below w.heap.size w w11) := HB0.out.trans ((btr Hs2.out (btr Hs4.out (btr Hs6.out (btr Hs8.out (btr Hs10.out Hs12.out))))).mono HB0.out.size)
    go_wp2
    go_ret
    exact ⟨rfl, HB1.out⟩
  have hzR : (bR == 0) = false := by rw [HbR.out, bl_is0, decide_eq_false (not_not_intro hR0)]
  obtain ⟨bS, HbS⟩ : ∃ z : Int, Hid (z = ((bl S : Nat) : Int)) := ⟨_, rfl⟩
  go_wp2_with fail
  have C := bits_p Ht0.out.nk.1
  rw [← HbS.out] at C
  refine C.mono ?_
  clear C
  rintro e w9 ⟨rfl, rfl⟩
  by_cases hS0 : 0 < S
  rotate_left
  · have hz : (bS == 0) = true := by rw [HbS.out, bl_is0, decide_eq_true hS0]
    have HX : Hid (¬ ((0 < R ∧ R < n) ∧ 0 < S ∧ S < n)) := fun h => hS0 h.2.1
    go_wp2_with fail
    have HT1 : Hid (Sha.Tb w9) := HT0.out.below (btr Hs2.out (btr Hs4.out (btr Hs6.out (btr Hs8.out Hs10.out))))
    have Hx1 : Hid (Rd w9 ax lx) := Hx0.out.below (btr Hs2.out (btr Hs4.out (btr Hs6.out (btr Hs8.out Hs10.out)))) (Nat.le_refl _)
    have Hy1 : Hid (Rd w9 ay ly) := Hy0.out.below (btr Hs2.out (btr Hs4.out (btr Hs6.out (btr Hs8.out Hs10.out)))) (Nat.le_refl _)
    have Hm1 : Hid (Rd w9 am m) := Hm0.out.below (btr Hs2.out (btr Hs4.out (btr Hs6.out (btr Hs8.out Hs10.out)))) (Nat.le_refl _)
    have Hg3 : Hid (Rd w9 (some ⟨g, off, none⟩) sg) := Hg2.out.below Hs10.out (Nat.le_refl _)
    have C := verify_v hk h ax ay am _ cx cy cm _ lx ly m sg _ HT1.out Hx1.out Hy1.out Hm1.out Hg3.out HLn.out.1 HLn.out.2.1 HLn.out.2.2.1 HLn.out.2.2.2.1 HLn.out.2.2.2.2
    obtain ⟨z, Hz⟩ : ∃ z, Hid (z = verV p b n (.A gx gy) 32 h lx ly m sg) := ⟨_, rfl⟩
    rw [← Hz.out, Hl.out] at C
    refine (C).mono ?_
    rintro e w13 ⟨rfl, hB⟩
    have Hs14 : Hid (Below w9.heap.size w9 w13) := hB
    clear hB C
    have hne : (z != 0) = true := bne_iff_ne.2 (by rw [Hz.out]; exact ver_ne hk h lx ly m sg (fun h => HX.out (by rw [HR.out, HS.out]; exact h.2)))
    have HB1 : Hid (Below w.heap.size w w13) := HB0.out.trans ((btr Hs2.out (btr Hs4.out (btr Hs6.out (btr Hs8.out (btr Hs10.out Hs14.out))))).mono HB0.out.size)
    go_wp2
    go_ret
    exact ⟨rfl, HB1.out⟩
  have hzS : (bS == 0) = false := by rw [HbS.out, bl_is0, decide_eq_false (not_not_intro hS0)]
  obtain ⟨cR, HcR⟩ : ∃ z : Int, Hid (z = cmp3 (R : Int) (n : Int)) := ⟨_, rfl⟩
  go_wp2_with fail
  have Hn1 : Hid (Mk w9 0 (.slice n0 n1 n2) n 384) := Hn0.out.below (btr Hs8.out Hs10.out)
  have C := vcmp _ _ R n _ _ _ Hr1.out.nk.1 Hn1.out.nk.1 (by decide) (by decide)
  rw [← HcR.out] at C
  refine (C).mono ?_
  rintro e w15 ⟨rfl, q_, hq_⟩
  have Hs16 : Hid (Below w9.heap.size w9 w15) := (by rw [hq_]; exact below_drewN (Below.refl _ _) q_ : Below _ _ _)
  clear hq_ q_
  clear C
  by_cases hRn : R < n
  rotate_left
  · have hz : decide (cR ≥ 0) = true := by rw [HcR.out, cmp_ge, decide_eq_true hRn]
    have hz' : (0 : Int) ≤ cR := of_decide_eq_true hz
    have HX : Hid (¬ ((0 < R ∧ R < n) ∧ 0 < S ∧ S < n)) := fun h => hRn h.1.2
    go_wp2_with fail
    have HT1 : Hid (Sha.Tb w15) := HT0.out.below (btr Hs2.out (btr Hs4.out (btr Hs6.out (btr Hs8.out (btr Hs10.out Hs16.out)))))
    have Hx1 : Hid (Rd w15 ax lx) := Hx0.out.below (btr Hs2.out (btr Hs4.out (btr Hs6.out (btr Hs8.out (btr Hs10.out Hs16.out))))) (Nat.le_refl _)
    have Hy1 : Hid (Rd w15 ay ly) := Hy0.out.below (btr Hs2.out (btr Hs4.out (btr Hs6.out (btr Hs8.out (btr Hs10.out Hs16.out))))) (Nat.le_refl _)
    have Hm1 : Hid (Rd w15 am m) := Hm0.out.below (btr Hs2.out (btr Hs4.out (btr Hs6.out (btr Hs8.out (btr Hs10.out Hs16.out))))) (Nat.le_refl _)
    have Hg3 : Hid (Rd w15 (some ⟨g, off, none⟩) sg) := Hg2.out.below (btr Hs10.out Hs16.out) (Nat.le_refl _)
    have C := verify_v hk h ax ay am _ cx cy cm _ lx ly m sg _ HT1.out Hx1.out Hy1.out Hm1.out Hg3.out HLn.out.1 HLn.out.2.1 HLn.out.2.2.1 HLn.out.2.2.2.1 HLn.out.2.2.2.2
    obtain ⟨z, Hz⟩ : ∃ z, Hid (z = verV p b n (.A gx gy) 32 h lx ly m sg) := ⟨_, rfl⟩
    rw [← Hz.out, Hl.out] at C
    refine (C).mono ?_
    rintro e w17 ⟨rfl, hB⟩
    have Hs18 : Hid (Below w15.heap.size w15 w17) := hB
    clear hB C
    have hne : (z != 0) = true := bne_iff_ne.2 (by rw [Hz.out]; exact ver_ne hk h lx ly m sg (fun h => HX.out (by rw [HR.out, HS.out]; exact h.2)))
    have HB1 : Hid (Below w.heap.size w w17) := HB0.out.trans ((btr Hs2.out (btr Hs4.out (btr Hs6.out (btr Hs8.out (btr Hs10.out (btr Hs16.out Hs18.out)))))).mono HB0.out.size)
    go_wp2
    go_ret
    exact ⟨rfl, HB1.out⟩
  have hyR : decide (cR ≥ 0) = false := by rw [HcR.out, cmp_ge, decide_eq_false (not_not_intro hRn)]
  have hwR : ¬ (0 : Int) ≤ cR := of_decide_eq_false hyR
  obtain ⟨cS, HcS⟩ : ∃ z : Int, Hid (z = cmp3 (S : Int) (n : Int)) := ⟨_, rfl⟩
  go_wp2_with fail
  have Ht1 : Hid (Mk w15 0 (.slice t0 t1 t2) S 384) := Ht0.out.below Hs16.out
  have Hn2 : Hid (Mk w15 0 (.slice n0 n1 n2) n 384) := Hn1.out.below Hs16.out
  have C := vcmp _ _ S n _ _ _ Ht1.out.nk.1 Hn2.out.nk.1 (by decide) (by decide)
  rw [← HcS.out] at C
  refine (C).mono ?_
  rintro e w19 ⟨rfl, q_, hq_⟩
  have Hs20 : Hid (Below w15.heap.size w15 w19) := (by rw [hq_]; exact below_drewN (Below.refl _ _) q_ : Below _ _ _)
  clear hq_ q_
  clear C
  by_cases hSn : S < n
  rotate_left
  · have hz : decide (cS ≥ 0) = true := by rw [HcS.out, cmp_ge, decide_eq_true hSn]
    have hz' : (0 : Int) ≤ cS := of_decide_eq_true hz
    have HX : Hid (¬ ((0 < R ∧ R < n) ∧ 0 < S ∧ S < n)) := fun h => hSn h.2.2
    go_wp2_with fail
    have HT1 : Hid (Sha.Tb w19) := HT0.out.below (btr Hs2.out (btr Hs4.out (btr Hs6.out (btr Hs8.out (btr Hs10.out (btr Hs16.out Hs20.out))))))
    have Hx1 : Hid (Rd w19 ax lx) := Hx0.out.below (btr Hs2.out (btr Hs4.out (btr Hs6.out (btr Hs8.out (btr Hs10.out (btr Hs16.out Hs20.out)))))) (Nat.le_refl _)
    have Hy1 : Hid (Rd w19 ay ly) := Hy0.out.below (btr Hs2.out (btr Hs4.out (btr Hs6.out (btr Hs8.out (btr Hs10.out (btr Hs16.out Hs20.out)))))) (Nat.le_refl _)
    have Hm1 : Hid (Rd w19 am m) := Hm0.out.below (btr Hs2.out (btr Hs4.out (btr Hs6.out (btr Hs8.out (btr Hs10.out (btr Hs16.out Hs20.out)))))) (Nat.le_refl _)
    have Hg3 : Hid (Rd w19 (some ⟨g, off, none⟩) sg) := Hg2.out.below (btr Hs10.out (btr Hs16.out Hs20.out)) (Nat.le_refl _)
    have C := verify_v hk h ax ay am _ cx cy cm _ lx ly m sg _ HT1.out Hx1.out Hy1.out Hm1.out Hg3.out HLn.out.1 HLn.out.2.1 HLn.out.2.2.1 HLn.out.2.2.2.1 HLn.out.2.2.2.2
    obtain ⟨z, Hz⟩ : ∃ z, Hid (z = verV p b n (.A gx gy) 32 h lx ly m sg) := ⟨_, rfl⟩
    rw [← Hz.out, Hl.out] at C
    refine (C).mono ?_
    rintro e w21 ⟨rfl, hB⟩
    have Hs22 : Hid (Below w19.heap.size w19 w21) := hB
    clear hB C
    have hne : (z != 0) = true := bne_iff_ne.2 (by rw [Hz.out]; exact ver_ne hk h lx ly m sg (fun h => HX.out (by rw [HR.out, HS.out]; exact h.2)))
    have HB1 : Hid (Below w.heap.size w w21) := HB0.out.trans ((btr Hs2.out (btr Hs4.out (btr Hs6.out (btr Hs8.out (btr Hs10.out (btr Hs16.out (btr Hs20.out Hs22.out))))))).mono HB0.out.size)
    go_wp2
    go_ret
    exact ⟨rfl, HB1.out⟩
  have hyS : decide (cS ≥ 0) = false := by rw [HcS.out, cmp_ge, decide_eq_false (not_not_intro hSn)]
  have hwS : ¬ (0 : Int) ≤ cS := of_decide_eq_false hyS
  have HRn : Hid (0 < R ∧ R < n) := ⟨hR0, hRn⟩
  have HSn : Hid (0 < S ∧ S < n) := ⟨hS0, hSn⟩
  go_wp2_with fail
  have Hn3 : Hid (Mk w19 0 (.slice n0 n1 n2) n 384) := Hn2.out.below Hs20.out
  have Ht2 : Hid (Mk w19 0 (.slice t0 t1 t2) S 384) := Ht1.out.below Hs20.out
  have C := vsub _ _ n S _ _ _ Hn3.out.nk.1 Ht2.out.nk.1 (by decide) (by decide)
  rw [decide_eq_true (Nat.le_of_lt HSn.out.2)] at C
  refine (C).mono ?_
  rintro e w23 ⟨uv, rfl, hh⟩
  have Hs24 : Hid (Below w19.heap.size w19 w23) := hh.2.2
  clear C
  obtain ⟨u0, u1, u2, rfl⟩ := hh.vl.shape
  have Hu0 : Hid (Nu w23 (.slice u0 u1 u2) (n - S)) := New.vl hh
  clear hh
  go_wp2_with fail
  have Hr2 : Hid (Mk w23 0 (.slice r0 r1 r2) R 384) := Hr1.out.below (btr Hs16.out (btr Hs20.out Hs24.out))
  refine (joined_v _ _ R (n - S) 32 _ Hr2.out.nk.1 Hu0.out (lst_ok hk (Nat.lt_trans HRn.out.2 hk.nlp)) (lst_ok hk (Nat.lt_of_le_of_lt (Nat.sub_le _ _) hk.nlp))).mono ?_
  rintro e w25 ⟨ov, rfl, o1, hB⟩
  have Hs26 : Hid (Below w23.heap.size w23 w25) := hB
  obtain ⟨oa, oc, rfl, hs1, hs2⟩ := o1.nb
  have HLo : Hid ((tobe (32 : Int).toNat R ++ tobe (32 : Int).toNat (n - S)).length = 64) := (by rw [List.length_append, tobe_length, tobe_length]; rfl)
  rw [HLo.out]
  rw [HLo.out] at hs1
  have Hoc : Hid (64 ≤ oc) := hs1
  have Ho0 : Hid (Rd w25 oa (tobe (32 : Int).toNat R ++ tobe (32 : Int).toNat (n - S))) := hs2
  clear hB o1 hs1 hs2
  go_wp2_with fail
  have HT1 : Hid (Sha.Tb w25) := HT0.out.below (btr Hs2.out (btr Hs4.out (btr Hs6.out (btr Hs8.out (btr Hs10.out (btr Hs16.out (btr Hs20.out (btr Hs24.out Hs26.out))))))))
  have Hx1 : Hid (Rd w25 ax lx) := Hx0.out.below (btr Hs2.out (btr Hs4.out (btr Hs6.out (btr Hs8.out (btr Hs10.out (btr Hs16.out (btr Hs20.out (btr Hs24.out Hs26.out)))))))) (Nat.le_refl _)
  have Hy1 : Hid (Rd w25 ay ly) := Hy0.out.below (btr Hs2.out (btr Hs4.out (btr Hs6.out (btr Hs8.out (btr Hs10.out (btr Hs16.out (btr Hs20.out (btr Hs24.out Hs26.out)))))))) (Nat.le_refl _)
  have Hm1 : Hid (Rd w25 am m) := Hm0.out.below (btr Hs2.out (btr Hs4.out (btr Hs6.out (btr Hs8.out (btr Hs10.out (btr Hs16.out (btr Hs20.out (btr Hs24.out Hs26.out)))))))) (Nat.le_refl _)
  have Hg3 : Hid (Rd w25 (some ⟨g, off, none⟩) sg) := Hg2.out.below (btr Hs10.out (btr Hs16.out (btr Hs20.out (btr Hs24.out Hs26.out)))) (Nat.le_refl _)
  have C := verify_v hk h ax ay am _ cx cy cm _ lx ly m sg _ HT1.out Hx1.out Hy1.out Hm1.out Hg3.out HLn.out.1 HLn.out.2.1 HLn.out.2.2.1 HLn.out.2.2.2.1 HLn.out.2.2.2.2
  obtain ⟨z, Hz⟩ : ∃ z, Hid (z = verV p b n (.A gx gy) 32 h lx ly m sg) := ⟨_, rfl⟩
  rw [← Hz.out, Hl.out] at C
  refine (C).mono ?_
  rintro e w27 ⟨rfl, hB⟩
  have Hs28 : Hid (Below w25.heap.size w25 w27) := hB
  clear hB C
  go_wp2_with fail
  have Ho1 : Hid (Rd w27 oa (tobe (32 : Int).toNat R ++ tobe (32 : Int).toNat (n - S))) := Ho0.out.below Hs28.out (Nat.le_refl _)
  have HT2 : Hid (Sha.Tb w27) := HT1.out.below Hs28.out
  have Hx2 : Hid (Rd w27 ax lx) := Hx1.out.below Hs28.out (Nat.le_refl _)
  have Hy2 : Hid (Rd w27 ay ly) := Hy1.out.below Hs28.out (Nat.le_refl _)
  have Hm2 : Hid (Rd w27 am m) := Hm1.out.below Hs28.out (Nat.le_refl _)
  have C := verify_v hk h ax ay am oa cx cy cm oc lx ly m (tobe (32 : Int).toNat R ++ tobe (32 : Int).toNat (n - S)) _ HT2.out Hx2.out Hy2.out Hm2.out Ho1.out HLn.out.1 HLn.out.2.1 HLn.out.2.2.1 (by rw [HLo.out]; exact Hoc.out) HLn.out.2.2.2.2
  rw [HLo.out, show verV p b n (.A gx gy) 32 h lx ly m (tobe (32 : Int).toNat R ++ tobe (32 : Int).toNat (n - S)) = z from (by rw [Hz.out, HR.out, HS.out]; exact ver_twin hk h lx ly m sg (by rw [Hl.out]; rfl) (HR.out ▸ HRn.out) (HS.out ▸ HSn.out))] at C
  refine (C).mono ?_
  rintro e w29 ⟨rfl, hB⟩
  have Hs30 : Hid (Below w27.heap.size w27 w29) := hB
  clear hB C
  have hzz : (z == z) = true := by simp
  have HB1 : Hid (Below w.heap.size w w29) := HB0.out.trans ((btr Hs2.out (btr Hs4.out (btr Hs6.out (btr Hs8.out (btr Hs10.out (btr Hs16.out (btr Hs20.out (btr Hs24.out (btr Hs26.out (btr Hs28.out Hs30.out)))))))))).mono HB0.out.size)
  go_wp2
  go_ret
  exact ⟨rfl, HB1.out⟩
set_option maxHeartbeats 40000000 in
theorem tw_48 {c : Int} {p b n gx gy : Nat} (hk : Kv c p b n gx gy 48) (h : Int) (ax ay am ag : Option Addr) (cx cy cm cg : Nat) (lx ly m sg : List UInt8) (w : World) (T : Sha.Tb w) (hx : Rd w ax lx) (hy : Rd w ay ly) (hm : Rd w am m) (hg : Rd w ag sg) (l1 : lx.length ≤ 100000000) (l2 : ly.length ≤ 100000000) (l3 : m.length ≤ 100000000) (l4 : sg.length ≤ cg) (c3 : m.length ≤ cm ∧ cm ≤ 9223372036854775807) (hl : sg.length = 96) :
    Calls Tryz.prog 3 #[.int .i64 h, .int .i64 c, .slice ax lx.length cx, .slice ay ly.length cy, .slice am m.length cm, .slice ag 96 cg] w fun e w' => e = .returned (.bool true) ∧ Below w.heap.size w w' := by
  have Hl : Hid (sg.length = 96) := hl
  have hcg : 96 ≤ cg := hl ▸ l4
  obtain ⟨g, off, rfl⟩ : ∃ g off : Nat, ag = some ⟨g, off, none⟩ := by
    rcases hg with h | ⟨g, off, e, _⟩
    · subst h; simp at hl
    · exact ⟨g, off, e⟩
  have HT0 : Hid (Sha.Tb w) := T
  have Hx0 : Hid (Rd w ax lx) := hx
  have Hy0 : Hid (Rd w ay ly) := hy
  have Hm0 : Hid (Rd w am m) := hm
  have Hg0 : Hid (Rd w (some ⟨g, off, none⟩) sg) := hg
  have HB0 : Hid (Below w.heap.size w w) := Below.refl _ _
  have HLn : Hid (lx.length ≤ 100000000 ∧ ly.length ≤ 100000000 ∧ m.length ≤ 100000000 ∧ sg.length ≤ cg ∧ m.length ≤ cm ∧ cm ≤ 9223372036854775807) := ⟨l1, l2, l3, l4, c3⟩
  clear T hx hy hm hg l1 l2 l3 l4 c3
  go_enter Tryz.func3, Tryz.ntmps3
  go_wp2_with fail
  refine (awake12_v _ HT0.out).mono ?_
  rintro e w1 ⟨rfl, hB⟩
  have Hs2 : Hid (Below w.heap.size w w1) := hB
  clear hB
  clear hl
  go_wp2_with fail
  refine (size_v hk _).mono ?_
  rintro e w3 ⟨rfl, hB⟩
  have Hs4 : Hid (Below w1.heap.size w1 w3) := hB
  clear hB
  go_wp2_with fail
  refine (order_v hk _).mono ?_
  rintro e w5 ⟨nv, rfl, mN, hB⟩
  have Hs6 : Hid (Below w3.heap.size w3 w5) := hB
  obtain ⟨n0, n1, n2, rfl⟩ := mN.nk.sl
  have Hn0 : Hid (Mk w5 0 (.slice n0 n1 n2) n 384) := mN.base (Nat.zero_le _)
  clear mN hB
  have HLk : Hid ((sg.take 48).length = 48 ∧ (sg.drop 48).length = 48) := ⟨by simp [Hl.out], by simp [Hl.out]⟩
  obtain ⟨R, HR⟩ : ∃ V, Hid (V = bv (sg.take 48)) := ⟨_, rfl⟩
  obtain ⟨S, HS⟩ : ∃ V, Hid (V = bv (sg.drop 48)) := ⟨_, rfl⟩
  have Hg1 : Hid (Rd w5 (some ⟨g, off, none⟩) sg) := Hg0.out.below (btr Hs2.out (btr Hs4.out Hs6.out)) (Nat.le_refl _)
  go_wp2_with fail
  refine (from_e (rd_take Hg1.out 48) HLk.out.1 (by decide) HR.out).mono ?_
  rintro e w7 ⟨rv, rfl, hh⟩
  have Hs8 : Hid (Below w5.heap.size w5 w7) := hh.bel
  obtain ⟨r0, r1, r2, rfl⟩ := hh.sl
  have Hr0 : Hid (Mk w7 0 (.slice r0 r1 r2) R 384) := hh.mk.base (Nat.zero_le _)
  clear hh
  have Hg2 : Hid (Rd w7 (some ⟨g, off, none⟩) sg) := Hg1.out.below Hs8.out (Nat.le_refl _)
  go_wp2_with fail
  refine (from_e (rd_drop Hg2.out 48) HLk.out.2 (by decide) HS.out).mono ?_
  rintro e w9 ⟨tv, rfl, hh⟩
  have Hs10 : Hid (Below w7.heap.size w7 w9) := hh.bel
  obtain ⟨t0, t1, t2, rfl⟩ := hh.sl
  have Ht0 : Hid (Mk w9 0 (.slice t0 t1 t2) S 384) := hh.mk.base (Nat.zero_le _)
  clear hh
  obtain ⟨bR, HbR⟩ : ∃ z : Int, Hid (z = ((bl R : Nat) : Int)) := ⟨_, rfl⟩
  go_wp2_with fail
  have Hr1 : Hid (Mk w9 0 (.slice r0 r1 r2) R 384) := Hr0.out.below Hs10.out
  have C := bits_p Hr1.out.nk.1
  rw [← HbR.out] at C
  refine C.mono ?_
  clear C
  rintro e w9 ⟨rfl, rfl⟩
  by_cases hR0 : 0 < R
  rotate_left
  · have hz : (bR == 0) = true := by rw [HbR.out, bl_is0, decide_eq_true hR0]
    have HX : Hid (¬ ((0 < R ∧ R < n) ∧ 0 < S ∧ S < n)) := fun h => hR0 h.1.1
    go_wp2_with fail
    have HT1 : Hid (Sha.Tb w9) := HT0.out.below (btr Hs2.out (btr Hs4.out (btr Hs6.out (btr Hs8.out Hs10.out))))
    have Hx1 : Hid (Rd w9 ax lx) := Hx0.out.below (btr Hs2.out (btr Hs4.out (btr Hs6.out (btr Hs8.out Hs10.out)))) (Nat.le_refl _)
    have Hy1 : Hid (Rd w9 ay ly) := Hy0.out.below (btr Hs2.out (btr Hs4.out (btr Hs6.out (btr Hs8.out Hs10.out)))) (Nat.le_refl _)
    have Hm1 : Hid (Rd w9 am m) := Hm0.out.below (btr Hs2.out (btr Hs4.out (btr Hs6.out (btr Hs8.out Hs10.out)))) (Nat.le_refl _)
    have Hg3 : Hid (Rd w9 (some ⟨g, off, none⟩) sg) := Hg2.out.below Hs10.out (Nat.le_refl _)
    have C := verify_v hk h ax ay am _ cx cy cm _ lx ly m sg _ HT1.out Hx1.out Hy1.out Hm1.out Hg3.out HLn.out.1 HLn.out.2.1 HLn.out.2.2.1 HLn.out.2.2.2.1 HLn.out.2.2.2.2
    obtain ⟨z, Hz⟩ : ∃ z, Hid (z = verV p b n (.A gx gy) 48 h lx ly m sg) := ⟨_, rfl⟩
    rw [← Hz.out, Hl.out] at C
    refine (C).mono ?_
    rintro e w11 ⟨rfl, hB⟩
    have Hs12 : Hid (Below w9.heap.size w9 w11) := hB
    clear hB C
    have hne : (z != 0) = true := bne_iff_ne.2 (by rw [Hz.out]; exact ver_ne hk h lx ly m sg (fun h => HX.out (by rw [HR.out, HS.out]; exact h.2)))
    have HB1 : Hid (Below w.heap.size w w11) := HB0.out.trans ((btr Hs2.out (btr Hs4.out (btr Hs6.out (btr Hs8.out (btr Hs10.out Hs12.out))))).mono HB0.out.size)
    go_wp2
    go_ret
    exact ⟨rfl, HB1.out⟩
  have hzR : (bR == 0) = false := by rw [HbR.out, bl_is0, decide_eq_false (not_not_intro hR0)]
  obtain ⟨bS, HbS⟩ : ∃ z : Int, Hid (z = ((bl S : Nat) : Int)) := ⟨_, rfl⟩
  go_wp2_with fail
  have C := bits_p Ht0.out.nk.1
  rw [← HbS.out] at C
  refine C.mono ?_
  clear C
  rintro e w9 ⟨rfl, rfl⟩
  by_cases hS0 : 0 < S
  rotate_left
  · have hz : (bS == 0) = true := by rw [HbS.out, bl_is0, decide_eq_true hS0]
    have HX : Hid (¬ ((0 < R ∧ R < n) ∧ 0 < S ∧ S < n)) := fun h => hS0 h.2.1
    go_wp2_with fail
    have HT1 : Hid (Sha.Tb w9) := HT0.out.below (btr Hs2.out (btr Hs4.out (btr Hs6.out (btr Hs8.out Hs10.out))))
    have Hx1 : Hid (Rd w9 ax lx) := Hx0.out.below (btr Hs2.out (btr Hs4.out (btr Hs6.out (btr Hs8.out Hs10.out)))) (Nat.le_refl _)
    have Hy1 : Hid (Rd w9 ay ly) := Hy0.out.below (btr Hs2.out (btr Hs4.out (btr Hs6.out (btr Hs8.out Hs10.out)))) (Nat.le_refl _)
    have Hm1 : Hid (Rd w9 am m) := Hm0.out.below (btr Hs2.out (btr Hs4.out (btr Hs6.out (btr Hs8.out Hs10.out)))) (Nat.le_refl _)
    have Hg3 : Hid (Rd w9 (some ⟨g, off, none⟩) sg) := Hg2.out.below Hs10.out (Nat.le_refl _)
    have C := verify_v hk h ax ay am _ cx cy cm _ lx ly m sg _ HT1.out Hx1.out Hy1.out Hm1.out Hg3.out HLn.out.1 HLn.out.2.1 HLn.out.2.2.1 HLn.out.2.2.2.1 HLn.out.2.2.2.2
    obtain ⟨z, Hz⟩ : ∃ z, Hid (z = verV p b n (.A gx gy) 48 h lx ly m sg) := ⟨_, rfl⟩
    rw [← Hz.out, Hl.out] at C
    refine (C).mono ?_
    rintro e w13 ⟨rfl, hB⟩
    have Hs14 : Hid (Below w9.heap.size w9 w13) := hB
    clear hB C
    have hne : (z != 0) = true := bne_iff_ne.2 (by rw [Hz.out]; exact ver_ne hk h lx ly m sg (fun h => HX.out (by rw [HR.out, HS.out]; exact h.2)))
    have HB1 : Hid (Below w.heap.size w w13) := HB0.out.trans ((btr Hs2.out (btr Hs4.out (btr Hs6.out (btr Hs8.out (btr Hs10.out Hs14.out))))).mono HB0.out.size)
    go_wp2
    go_ret
    exact ⟨rfl, HB1.out⟩
  have hzS : (bS == 0) = false := by rw [HbS.out, bl_is0, decide_eq_false (not_not_intro hS0)]
  obtain ⟨cR, HcR⟩ : ∃ z : Int, Hid (z = cmp3 (R : Int) (n : Int)) := ⟨_, rfl⟩
  go_wp2_with fail
  have Hn1 : Hid (Mk w9 0 (.slice n0 n1 n2) n 384) := Hn0.out.below (btr Hs8.out Hs10.out)
  have C := vcmp _ _ R n _ _ _ Hr1.out.nk.1 Hn1.out.nk.1 (by decide) (by decide)
  rw [← HcR.out] at C
  refine (C).mono ?_
  rintro e w15 ⟨rfl, q_, hq_⟩
  have Hs16 : Hid (Below w9.heap.size w9 w15) := (by rw [hq_]; exact below_drewN (Below.refl _ _) q_ : Below _ _ _)
  clear hq_ q_
  clear C
  by_cases hRn : R < n
  rotate_left
  · have hz : decide (cR ≥ 0) = true := by rw [HcR.out, cmp_ge, decide_eq_true hRn]
    have hz' : (0 : Int) ≤ cR := of_decide_eq_true hz
    have HX : Hid (¬ ((0 < R ∧ R < n) ∧ 0 < S ∧ S < n)) := fun h => hRn h.1.2
    go_wp2_with fail
    have HT1 : Hid (Sha.Tb w15) := HT0.out.below (btr Hs2.out (btr Hs4.out (btr Hs6.out (btr Hs8.out (btr Hs10.out Hs16.out)))))
    have Hx1 : Hid (Rd w15 ax lx) := Hx0.out.below (btr Hs2.out (btr Hs4.out (btr Hs6.out (btr Hs8.out (btr Hs10.out Hs16.out))))) (Nat.le_refl _)
    have Hy1 : Hid (Rd w15 ay ly) := Hy0.out.below (btr Hs2.out (btr Hs4.out (btr Hs6.out (btr Hs8.out (btr Hs10.out Hs16.out))))) (Nat.le_refl _)
    have Hm1 : Hid (Rd w15 am m) := Hm0.out.below (btr Hs2.out (btr Hs4.out (btr Hs6.out (btr Hs8.out (btr Hs10.out Hs16.out))))) (Nat.le_refl _)
    have Hg3 : Hid (Rd w15 (some ⟨g, off, none⟩) sg) := Hg2.out.below (btr Hs10.out Hs16.out) (Nat.le_refl _)
    have C := verify_v hk h ax ay am _ cx cy cm _ lx ly m sg _ HT1.out Hx1.out Hy1.out Hm1.out Hg3.out HLn.out.1 HLn.out.2.1 HLn.out.2.2.1 HLn.out.2.2.2.1 HLn.out.2.2.2.2
    obtain ⟨z, Hz⟩ : ∃ z, Hid (z = verV p b n (.A gx gy) 48 h lx ly m sg) := ⟨_, rfl⟩
    rw [← Hz.out, Hl.out] at C
    refine (C).mono ?_
    rintro e w17 ⟨rfl, hB⟩
    have Hs18 : Hid (Below w15.heap.size w15 w17) := hB
    clear hB C
    have hne : (z != 0) = true := bne_iff_ne.2 (by rw [Hz.out]; exact ver_ne hk h lx ly m sg (fun h => HX.out (by rw [HR.out, HS.out]; exact h.2)))
    have HB1 : Hid (Below w.heap.size w w17) := HB0.out.trans ((btr Hs2.out (btr Hs4.out (btr Hs6.out (btr Hs8.out (btr Hs10.out (btr Hs16.out Hs18.out)))))).mono HB0.out.size)
    go_wp2
    go_ret
    exact ⟨rfl, HB1.out⟩
  have hyR : decide (cR ≥ 0) = false := by rw [HcR.out, cmp_ge, decide_eq_false (not_not_intro hRn)]
  have hwR : ¬ (0 : Int) ≤ cR := of_decide_eq_false hyR
  obtain ⟨cS, HcS⟩ : ∃ z : Int, Hid (z = cmp3 (S : Int) (n : Int)) := ⟨_, rfl⟩
  go_wp2_with fail
  have Ht1 : Hid (Mk w15 0 (.slice t0 t1 t2) S 384) := Ht0.out.below Hs16.out
  have Hn2 : Hid (Mk w15 0 (.slice n0 n1 n2) n 384) := Hn1.out.below Hs16.out
  have C := vcmp _ _ S n _ _ _ Ht1.out.nk.1 Hn2.out.nk.1 (by decide) (by decide)
  rw [← HcS.out] at C
  refine (C).mono ?_
  rintro e w19 ⟨rfl, q_, hq_⟩
  have Hs20 : Hid (Below w15.heap.size w15 w19) := (by rw [hq_]; exact below_drewN (Below.refl _ _) q_ : Below _ _ _)
  clear hq_ q_
  clear C
  by_cases hSn : S < n
  rotate_left
  · have hz : decide (cS ≥ 0) = true := by rw [HcS.out, cmp_ge, decide_eq_true hSn]
    have hz' : (0 : Int) ≤ cS := of_decide_eq_true hz
    have HX : Hid (¬ ((0 < R ∧ R < n) ∧ 0 < S ∧ S < n)) := fun h => hSn h.2.2
    go_wp2_with fail
    have HT1 : Hid (Sha.Tb w19) := HT0.out.below (btr Hs2.out (btr Hs4.out (btr Hs6.out (btr Hs8.out (btr Hs10.out (btr Hs16.out Hs20.out))))))
    have Hx1 : Hid (Rd w19 ax lx) := Hx0.out.below (btr Hs2.out (btr Hs4.out (btr Hs6.out (btr Hs8.out (btr Hs10.out (btr Hs16.out Hs20.out)))))) (Nat.le_refl _)
    have Hy1 : Hid (Rd w19 ay ly) := Hy0.out.below (btr Hs2.out (btr Hs4.out (btr Hs6.out (btr Hs8.out (btr Hs10.out (btr Hs16.out Hs20.out)))))) (Nat.le_refl _)
    have Hm1 : Hid (Rd w19 am m) := Hm0.out.below (btr Hs2.out (btr Hs4.out (btr Hs6.out (btr Hs8.out (btr Hs10.out (btr Hs16.out Hs20.out)))))) (Nat.le_refl _)
    have Hg3 : Hid (Rd w19 (some ⟨g, off, none⟩) sg) := Hg2.out.below (btr Hs10.out (btr Hs16.out Hs20.out)) (Nat.le_refl _)
    have C := verify_v hk h ax ay am _ cx cy cm _ lx ly m sg _ HT1.out Hx1.out Hy1.out Hm1.out Hg3.out HLn.out.1 HLn.out.2.1 HLn.out.2.2.1 HLn.out.2.2.2.1 HLn.out.2.2.2.2
    obtain ⟨z, Hz⟩ : ∃ z, Hid (z = verV p b n (.A gx gy) 48 h lx ly m sg) := ⟨_, rfl⟩
    rw [← Hz.out, Hl.out] at C
    refine (C).mono ?_
    rintro e w21 ⟨rfl, hB⟩
    have Hs22 : Hid (Below w19.heap.size w19 w21) := hB
    clear hB C
    have hne : (z != 0) = true := bne_iff_ne.2 (by rw [Hz.out]; exact ver_ne hk h lx ly m sg (fun h => HX.out (by rw [HR.out, HS.out]; exact h.2)))
    have HB1 : Hid (Below w.heap.size w w21) := HB0.out.trans ((btr Hs2.out (btr Hs4.out (btr Hs6.out (btr Hs8.out (btr Hs10.out (btr Hs16.out (btr Hs20.out Hs22.out))))))).mono HB0.out.size)
    go_wp2
    go_ret
    exact ⟨rfl, HB1.out⟩
  have hyS : decide (cS ≥ 0) = false := by rw [HcS.out, cmp_ge, decide_eq_false (not_not_intro hSn)]
  have hwS : ¬ (0 : Int) ≤ cS := of_decide_eq_false hyS
  have HRn : Hid (0 < R ∧ R < n) := ⟨hR0, hRn⟩
  have HSn : Hid (0 < S ∧ S < n) := ⟨hS0, hSn⟩
  go_wp2_with fail
  have Hn3 : Hid (Mk w19 0 (.slice n0 n1 n2) n 384) := Hn2.out.below Hs20.out
  have Ht2 : Hid (Mk w19 0 (.slice t0 t1 t2) S 384) := Ht1.out.below Hs20.out
  have C := vsub _ _ n S _ _ _ Hn3.out.nk.1 Ht2.out.nk.1 (by decide) (by decide)
  rw [decide_eq_true (Nat.le_of_lt HSn.out.2)] at C
  refine (C).mono ?_
  rintro e w23 ⟨uv, rfl, hh⟩
  have Hs24 : Hid (Below w19.heap.size w19 w23) := hh.2.2
  clear C
  obtain ⟨u0, u1, u2, rfl⟩ := hh.vl.shape
  have Hu0 : Hid (Nu w23 (.slice u0 u1 u2) (n - S)) := New.vl hh
  clear hh
  go_wp2_with fail
  have Hr2 : Hid (Mk w23 0 (.slice r0 r1 r2) R 384) := Hr1.out.below (btr Hs16.out (btr Hs20.out Hs24.out))
  refine (joined_v _ _ R (n - S) 48 _ Hr2.out.nk.1 Hu0.out (lst_ok hk (Nat.lt_trans HRn.out.2 hk.nlp)) (lst_ok hk (Nat.lt_of_le_of_lt (Nat.sub_le _ _) hk.nlp))).mono ?_
  rintro e w25 ⟨ov, rfl, o1, hB⟩
  have Hs26 : Hid (Below w23.heap.size w23 w25) := hB
  obtain ⟨oa, oc, rfl, hs1, hs2⟩ := o1.nb
  have HLo : Hid ((tobe (48 : Int).toNat R ++ tobe (48 : Int).toNat (n - S)).length = 96) := (by rw [List.length_append, tobe_length, tobe_length]; rfl)
  rw [HLo.out]
  rw [HLo.out] at hs1
  have Hoc : Hid (96 ≤ oc) := hs1
  have Ho0 : Hid (Rd w25 oa (tobe (48 : Int).toNat R ++ tobe (48 : Int).toNat (n - S))) := hs2
  clear hB o1 hs1 hs2
  go_wp2_with fail
  have HT1 : Hid (Sha.Tb w25) := HT0.out.below (btr Hs2.out (btr Hs4.out (btr Hs6.out (btr Hs8.out (btr Hs10.out (btr Hs16.out (btr Hs20.out (btr Hs24.out Hs26.out))))))))
  have Hx1 : Hid (Rd w25 ax lx) := Hx0.out.below (btr Hs2.out (btr Hs4.out (btr Hs6.out (btr Hs8.out (btr Hs10.out (btr Hs16.out (btr Hs20.out (btr Hs24.out Hs26.out)))))))) (Nat.le_refl _)
  have Hy1 : Hid (Rd w25 ay ly) := Hy0.out.below (btr Hs2.out (btr Hs4.out (btr Hs6.out (btr Hs8.out (btr Hs10.out (btr Hs16.out (btr Hs20.out (btr Hs24.out Hs26.out)))))))) (Nat.le_refl _)
  have Hm1 : Hid (Rd w25 am m) := Hm0.out.below (btr Hs2.out (btr Hs4.out (btr Hs6.out (btr Hs8.out (btr Hs10.out (btr Hs16.out (btr Hs20.out (btr Hs24.out Hs26.out)))))))) (Nat.le_refl _)
  have Hg3 : Hid (Rd w25 (some ⟨g, off, none⟩) sg) := Hg2.out.below (btr Hs10.out (btr Hs16.out (btr Hs20.out (btr Hs24.out Hs26.out)))) (Nat.le_refl _)
  have C := verify_v hk h ax ay am _ cx cy cm _ lx ly m sg _ HT1.out Hx1.out Hy1.out Hm1.out Hg3.out HLn.out.1 HLn.out.2.1 HLn.out.2.2.1 HLn.out.2.2.2.1 HLn.out.2.2.2.2
  obtain ⟨z, Hz⟩ : ∃ z, Hid (z = verV p b n (.A gx gy) 48 h lx ly m sg) := ⟨_, rfl⟩
  rw [← Hz.out, Hl.out] at C
  refine (C).mono ?_
  rintro e w27 ⟨rfl, hB⟩
  have Hs28 : Hid (Below w25.heap.size w25 w27) := hB
  clear hB C
  go_wp2_with fail
  have Ho1 : Hid (Rd w27 oa (tobe (48 : Int).toNat R ++ tobe (48 : Int).toNat (n - S))) := Ho0.out.below Hs28.out (Nat.le_refl _)
  have HT2 : Hid (Sha.Tb w27) := HT1.out.below Hs28.out
  have Hx2 : Hid (Rd w27 ax lx) := Hx1.out.below Hs28.out (Nat.le_refl _)
  have Hy2 : Hid (Rd w27 ay ly) := Hy1.out.below Hs28.out (Nat.le_refl _)
  have Hm2 : Hid (Rd w27 am m) := Hm1.out.below Hs28.out (Nat.le_refl _)
  have C := verify_v hk h ax ay am oa cx cy cm oc lx ly m (tobe (48 : Int).toNat R ++ tobe (48 : Int).toNat (n - S)) _ HT2.out Hx2.out Hy2.out Hm2.out Ho1.out HLn.out.1 HLn.out.2.1 HLn.out.2.2.1 (by rw [HLo.out]; exact Hoc.out) HLn.out.2.2.2.2
  rw [HLo.out, show verV p b n (.A gx gy) 48 h lx ly m (tobe (48 : Int).toNat R ++ tobe (48 : Int).toNat (n - S)) = z from (by rw [Hz.out, HR.out, HS.out]; exact ver_twin hk h lx ly m sg (by rw [Hl.out]; rfl) (HR.out ▸ HRn.out) (HS.out ▸ HSn.out))] at C
  refine (C).mono ?_
  rintro e w29 ⟨rfl, hB⟩
  have Hs30 : Hid (Below w27.heap.size w27 w29) := hB
  clear hB C
  have hzz : (z == z) = true := by simp
  have HB1 : Hid (Below w.heap.size w w29) := HB0.out.trans ((btr Hs2.out (btr Hs4.out (btr Hs6.out (btr Hs8.out (btr Hs10.out (btr Hs16.out (btr Hs20.out (btr Hs24.out (btr Hs26.out (btr Hs28.out Hs30.out)))))))))).mono HB0.out.size)
  go_wp2
  go_ret
  exact ⟨rfl, HB1.out⟩
theorem twins_core (c : Int) (h : Int) (ax ay am ag : Option Addr) (cx cy cm cg : Nat) (lx ly m sg : List UInt8) (w : World) (T : Sha.Tb w) (hx : Rd w ax lx) (hy : Rd w ay ly) (hm : Rd w am m) (hg : Rd w ag sg) (l1 : lx.length ≤ 100000000) (l2 : ly.length ≤ 100000000) (l3 : m.length ≤ 100000000) (l4 : sg.length ≤ cg) (c3 : m.length ≤ cm ∧ cm ≤ 9223372036854775807) : Calls Tryz.prog 3 #[.int .i64 h, .int .i64 c, .slice ax lx.length cx, .slice ay ly.length cy, .slice am m.length cm, .slice ag sg.length cg] w fun e w' => e = .returned (.bool true) ∧ Below w.heap.size w w' := by
  have key : ∀ {s : Int} {p b n gx gy : Nat}, Kv c p b n gx gy s → Calls Tryz.prog 3 #[.int .i64 h, .int .i64 c, .slice ax lx.length cx, .slice ay ly.length cy, .slice am m.length cm, .slice ag sg.length cg] w fun e w' => e = .returned (.bool true) ∧ Below w.heap.size w w' := by
    intro s p b n gx gy hk
    by_cases hl : (sg.length : Int) = 2 * s
    · rcases hk.s0 with hs | hs <;> subst hs
      · have e : sg.length = 64 := by omega
        have := tw_32 hk h ax ay am ag cx cy cm cg lx ly m sg w T hx hy hm hg l1 l2 l3 l4 c3 e
        rw [e]; exact this
      · have e : sg.length = 96 := by omega
        have := tw_48 hk h ax ay am ag cx cy cm cg lx ly m sg w T hx hy hm hg l1 l2 l3 l4 c3 e
        rw [e]; exact this
    · rcases hk.s0 with hs | hs <;> subst hs
      · exact tw_len32 hk h ax ay am ag cx cy cm cg lx ly m sg w T hx hy hm hg l1 l2 l3 l4 c3 (by omega)
      · exact tw_len48 hk h ax ay am ag cx cy cm cg lx ly m sg w T hx hy hm hg l1 l2 l3 l4 c3 (by omega)
  by_cases h1 : c = 1
  · subst h1; exact key .k1
  · by_cases h2 : c = 2
    · subst h2; exact key .k2
    · exact tw_none c h1 h2 h ax ay am ag cx cy cm cg lx ly m sg w T hx hy hm hg l1 l2 l3 l4 c3
end Go.Proofs.YtghfoppojdkhkaaGreatDoor
