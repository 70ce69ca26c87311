import Derived.Test.YtghfoppojdkhkaaGreatDoorEP
namespace Go.Proofs.YtghfoppojdkhkaaGreatDoor
open Go.RowKit

set_option maxRecDepth 100000

set_option maxHeartbeats 40000000 in
theorem eq_alg (c : Int) (h : Int) (ax ay am ag : Option Addr) (cx cy cm cg : Nat) (lx ly m sg : List UInt8) (w : World) (T : Sha.Tb w) (hx : Rd w ax lx) (hy : Rd w ay ly) (hm : Rd w am m) (hg : Rd w ag sg) (l1 : lx.length ≤ 100000000) (l2 : ly.length ≤ 100000000) (l3 : m.length ≤ 100000000) (l4 : sg.length ≤ cg) (c3 : m.length ≤ cm ∧ cm ≤ 9223372036854775807) (h0 : Sha.siz h = 0) :
    Calls Tryz.prog 6 #[.int .i64 h, .int .i64 c, .slice ax lx.length cx, .slice ay ly.length cy, .slice am m.length cm, .slice ag sg.length cg] w fun e w' => e = .returned (.bool true) ∧ Below w.heap.size w w' := by
  have HT0 : Hid (Sha.Tb w) := T
  have Hx0 : Hid (Rd w ax lx) := hx
  have Hy0 : Hid (Rd w ay ly) := hy
  have Hm0 : Hid (Rd w am m) := hm
  have Hg0 : Hid (Rd w ag sg) := hg
  have HB0 : Hid (Below w.heap.size w w) := Below.refl _ _
  have HLn : Hid (lx.length ≤ 100000000 ∧ ly.length ≤ 100000000 ∧ m.length ≤ 100000000 ∧ sg.length ≤ cg ∧ m.length ≤ cm ∧ cm ≤ 9223372036854775807) := ⟨l1, l2, l3, l4, c3⟩
  clear T hx hy hm hg l1 l2 l3 l4 c3
  go_enter Tryz.func6, Tryz.ntmps6
  go_wp2_with fail
  refine (awake12_v _ HT0.out).mono ?_
  rintro e w1 ⟨rfl, hB⟩
  have Hs2 : Hid (Below w.heap.size w w1) := hB
  clear hB
  go_wp2_with fail
  have HT1 : Hid (Sha.Tb w1) := HT0.out.below Hs2.out
  have Hx1 : Hid (Rd w1 ax lx) := Hx0.out.below Hs2.out (Nat.le_refl _)
  have Hy1 : Hid (Rd w1 ay ly) := Hy0.out.below Hs2.out (Nat.le_refl _)
  have Hm1 : Hid (Rd w1 am m) := Hm0.out.below Hs2.out (Nat.le_refl _)
  have Hg1 : Hid (Rd w1 ag sg) := Hg0.out.below Hs2.out (Nat.le_refl _)
  refine (ver_alg c h ax ay am ag cx cy cm cg lx ly m sg _ HT1.out Hx1.out Hy1.out Hm1.out Hg1.out HLn.out.1 HLn.out.2.1 HLn.out.2.2.1 HLn.out.2.2.2.1 HLn.out.2.2.2.2 h0).mono ?_
  rintro e w3 ⟨rfl, hB⟩
  have Hs4 : Hid (Below w1.heap.size w1 w3) := hB
  clear hB
  go_wp2_with fail
  have CS := fun w => Sha.size_any h w
  rw [h0] at CS
  refine (CS _).mono ?_
  clear CS
  rintro e w3 ⟨rfl, rfl⟩
  have HB1 : Hid (Below w.heap.size w w3) := HB0.out.trans ((btr Hs2.out Hs4.out).mono HB0.out.size)
  go_wp2
  go_ret
  exact ⟨rfl, HB1.out⟩
set_option maxHeartbeats 40000000 in
theorem eq_none (c : Int) (h1 : c ≠ 1) (h2 : c ≠ 2) (h : Int) (ax ay am ag : Option Addr) (cx cy cm cg : Nat) (lx ly m sg : List UInt8) (w : World) (T : Sha.Tb w) (hx : Rd w ax lx) (hy : Rd w ay ly) (hm : Rd w am m) (hg : Rd w ag sg) (l1 : lx.length ≤ 100000000) (l2 : ly.length ≤ 100000000) (l3 : m.length ≤ 100000000) (l4 : sg.length ≤ cg) (c3 : m.length ≤ cm ∧ cm ≤ 9223372036854775807) (h0 : Sha.siz h ≠ 0) :
    Calls Tryz.prog 6 #[.int .i64 h, .int .i64 c, .slice ax lx.length cx, .slice ay ly.length cy, .slice am m.length cm, .slice ag sg.length cg] w fun e w' => e = .returned (.bool true) ∧ Below w.heap.size w w' := by
  have HT0 : Hid (Sha.Tb w) := T
  have Hx0 : Hid (Rd w ax lx) := hx
  have Hy0 : Hid (Rd w ay ly) := hy
  have Hm0 : Hid (Rd w am m) := hm
  have Hg0 : Hid (Rd w ag sg) := hg
  have HB0 : Hid (Below w.heap.size w w) := Below.refl _ _
  have HLn : Hid (lx.length ≤ 100000000 ∧ ly.length ≤ 100000000 ∧ m.length ≤ 100000000 ∧ sg.length ≤ cg ∧ m.length ≤ cm ∧ cm ≤ 9223372036854775807) := ⟨l1, l2, l3, l4, c3⟩
  clear T hx hy hm hg l1 l2 l3 l4 c3
  go_enter Tryz.func6, Tryz.ntmps6
  go_wp2_with fail
  refine (awake12_v _ HT0.out).mono ?_
  rintro e w1 ⟨rfl, hB⟩
  have Hs2 : Hid (Below w.heap.size w w1) := hB
  clear hB
  go_wp2_with fail
  have HT1 : Hid (Sha.Tb w1) := HT0.out.below Hs2.out
  have Hx1 : Hid (Rd w1 ax lx) := Hx0.out.below Hs2.out (Nat.le_refl _)
  have Hy1 : Hid (Rd w1 ay ly) := Hy0.out.below Hs2.out (Nat.le_refl _)
  have Hm1 : Hid (Rd w1 am m) := Hm0.out.below Hs2.out (Nat.le_refl _)
  have Hg1 : Hid (Rd w1 ag sg) := Hg0.out.below Hs2.out (Nat.le_refl _)
  refine (ver_none c h1 h2 h ax ay am ag cx cy cm cg lx ly m sg _ HT1.out Hx1.out Hy1.out Hm1.out Hg1.out HLn.out.1 HLn.out.2.1 HLn.out.2.2.1 HLn.out.2.2.2.1 HLn.out.2.2.2.2 h0).mono ?_
  rintro e w3 ⟨rfl, hB⟩
  have Hs4 : Hid (Below w1.heap.size w1 w3) := hB
  clear hB
  go_wp2_with fail
  have CS := fun w => Sha.size_any h w
  have hz0 : (((Sha.siz h : Nat) : Int) == 0) = false := by have := h0; simp; omega
  generalize Sha.siz h = zs at CS hz0
  refine (CS _).mono ?_
  clear CS
  rintro e w3 ⟨rfl, rfl⟩
  go_wp2_with fail
  have Hx2 : Hid (Rd w3 ax lx) := Hx1.out.below Hs4.out (Nat.le_refl _)
  have Hy2 : Hid (Rd w3 ay ly) := Hy1.out.below Hs4.out (Nat.le_refl _)
  refine (decode_none c h1 h2 ax ay cx cy lx ly _ Hx2.out Hy2.out HLn.out.1 HLn.out.2.1).mono ?_
  rintro e w5 ⟨rfl, hB⟩
  have Hs6 : Hid (Below w3.heap.size w3 w5) := hB
  clear hB
  have Hs7 : Hid (Below w5.heap.size w5 (w5.alloc (.cells #[.slice none 0 0, .slice none 0 0, .bool false] 41))) := alloc_below _ _
  have Hbq0 : Hid (Bl 41 (w5.alloc (.cells #[.slice none 0 0, .slice none 0 0, .bool false] 41)) w5.heap.size [.slice none 0 0, .slice none 0 0, .bool false]) := alloc_bl w5 [.slice none 0 0, .slice none 0 0, .bool false] 41
  have HB1 : Hid (Below w.heap.size w (w5.alloc (.cells #[.slice none 0 0, .slice none 0 0, .bool false] 41))) := HB0.out.trans ((btr Hs2.out (btr Hs4.out (btr Hs6.out Hs7.out))).mono HB0.out.size)
  go_wp2
  go_ret
  exact ⟨rfl, HB1.out⟩
set_option maxHeartbeats 40000000 in
theorem eq_key {c s : Int} {p b n gx gy : Nat} (hk : Kv c p b n gx gy s) (h : Int) (ax ay am ag : Option Addr) (cx cy cm cg : Nat) (lx ly m sg : List UInt8) (w : World) (T : Sha.Tb w) (hx : Rd w ax lx) (hy : Rd w ay ly) (hm : Rd w am m) (hg : Rd w ag sg) (l1 : lx.length ≤ 100000000) (l2 : ly.length ≤ 100000000) (l3 : m.length ≤ 100000000) (l4 : sg.length ≤ cg) (c3 : m.length ≤ cm ∧ cm ≤ 9223372036854775807) (h0 : Sha.siz h ≠ 0) (hd : decB p b s lx ly = false) :
    Calls Tryz.prog 6 #[.int .i64 h, .int .i64 c, .slice ax lx.length cx, .slice ay ly.length cy, .slice am m.length cm, .slice ag sg.length cg] w fun e w' => e = .returned (.bool true) ∧ Below w.heap.size w w' := by
  have HT0 : Hid (Sha.Tb w) := T
  have Hx0 : Hid (Rd w ax lx) := hx
  have Hy0 : Hid (Rd w ay ly) := hy
  have Hm0 : Hid (Rd w am m) := hm
  have Hg0 : Hid (Rd w ag sg) := hg
  have HB0 : Hid (Below w.heap.size w w) := Below.refl _ _
  have HLn : Hid (lx.length ≤ 100000000 ∧ ly.length ≤ 100000000 ∧ m.length ≤ 100000000 ∧ sg.length ≤ cg ∧ m.length ≤ cm ∧ cm ≤ 9223372036854775807) := ⟨l1, l2, l3, l4, c3⟩
  clear T hx hy hm hg l1 l2 l3 l4 c3
  go_enter Tryz.func6, Tryz.ntmps6
  go_wp2_with fail
  refine (awake12_v _ HT0.out).mono ?_
  rintro e w1 ⟨rfl, hB⟩
  have Hs2 : Hid (Below w.heap.size w w1) := hB
  clear hB
  go_wp2_with fail
  have HT1 : Hid (Sha.Tb w1) := HT0.out.below Hs2.out
  have Hx1 : Hid (Rd w1 ax lx) := Hx0.out.below Hs2.out (Nat.le_refl _)
  have Hy1 : Hid (Rd w1 ay ly) := Hy0.out.below Hs2.out (Nat.le_refl _)
  have Hm1 : Hid (Rd w1 am m) := Hm0.out.below Hs2.out (Nat.le_refl _)
  have Hg1 : Hid (Rd w1 ag sg) := Hg0.out.below Hs2.out (Nat.le_refl _)
  refine (ver_key hk h ax ay am ag cx cy cm cg lx ly m sg _ HT1.out Hx1.out Hy1.out Hm1.out Hg1.out HLn.out.1 HLn.out.2.1 HLn.out.2.2.1 HLn.out.2.2.2.1 HLn.out.2.2.2.2 h0 hd).mono ?_
  rintro e w3 ⟨rfl, hB⟩
  have Hs4 : Hid (Below w1.heap.size w1 w3) := hB
  clear hB
  go_wp2_with fail
  have CS := fun w => Sha.size_any h w
  have hz0 : (((Sha.siz h : Nat) : Int) == 0) = false := by have := h0; simp; omega
  generalize Sha.siz h = zs at CS hz0
  refine (CS _).mono ?_
  clear CS
  rintro e w3 ⟨rfl, rfl⟩
  go_wp2_with fail
  have Hx2 : Hid (Rd w3 ax lx) := Hx1.out.below Hs4.out (Nat.le_refl _)
  have Hy2 : Hid (Rd w3 ay ly) := Hy1.out.below Hs4.out (Nat.le_refl _)
  refine (decode_bad hk ax ay cx cy lx ly _ Hx2.out Hy2.out HLn.out.1 HLn.out.2.1 hd).mono ?_
  rintro e w5 ⟨rfl, hB⟩
  have Hs6 : Hid (Below w3.heap.size w3 w5) := hB
  clear hB
  have Hs7 : Hid (Below w5.heap.size w5 (w5.alloc (.cells #[.slice none 0 0, .slice none 0 0, .bool false] 41))) := alloc_below _ _
  have Hbq0 : Hid (Bl 41 (w5.alloc (.cells #[.slice none 0 0, .slice none 0 0, .bool false] 41)) w5.heap.size [.slice none 0 0, .slice none 0 0, .bool false]) := alloc_bl w5 [.slice none 0 0, .slice none 0 0, .bool false] 41
  have HB1 : Hid (Below w.heap.size w (w5.alloc (.cells #[.slice none 0 0, .slice none 0 0, .bool false] 41))) := HB0.out.trans ((btr Hs2.out (btr Hs4.out (btr Hs6.out Hs7.out))).mono HB0.out.size)
  go_wp2
  go_ret
  exact ⟨rfl, HB1.out⟩
set_option maxHeartbeats 40000000 in
theorem eq_len32 {c : Int} {p b n gx gy : Nat} (hk : Kv c p b n gx gy 32) (h : Int) (ax ay am ag : Option Addr) (cx cy cm cg : Nat) (lx ly m sg : List UInt8) (w : World) (T : Sha.Tb w) (hx : Rd w ax lx) (hy : Rd w ay ly) (hm : Rd w am m) (hg : Rd w ag sg) (l1 : lx.length ≤ 100000000) (l2 : ly.length ≤ 100000000) (l3 : m.length ≤ 100000000) (l4 : sg.length ≤ cg) (c3 : m.length ≤ cm ∧ cm ≤ 9223372036854775807) (h0 : Sha.siz h ≠ 0) (hd : decB p b 32 lx ly = true) (hl : sg.length ≠ 64) :
    Calls Tryz.prog 6 #[.int .i64 h, .int .i64 c, .slice ax lx.length cx, .slice ay ly.length cy, .slice am m.length cm, .slice ag sg.length cg] w fun e w' => e = .returned (.bool true) ∧ Below w.heap.size w w' := by
  have HT0 : Hid (Sha.Tb w) := T
  have Hx0 : Hid (Rd w ax lx) := hx
  have Hy0 : Hid (Rd w ay ly) := hy
  have Hm0 : Hid (Rd w am m) := hm
  have Hg0 : Hid (Rd w ag sg) := hg
  have HB0 : Hid (Below w.heap.size w w) := Below.refl _ _
  have HLn : Hid (lx.length ≤ 100000000 ∧ ly.length ≤ 100000000 ∧ m.length ≤ 100000000 ∧ sg.length ≤ cg ∧ m.length ≤ cm ∧ cm ≤ 9223372036854775807) := ⟨l1, l2, l3, l4, c3⟩
  clear T hx hy hm hg l1 l2 l3 l4 c3
  go_enter Tryz.func6, Tryz.ntmps6
  go_wp2_with fail
  refine (awake12_v _ HT0.out).mono ?_
  rintro e w1 ⟨rfl, hB⟩
  have Hs2 : Hid (Below w.heap.size w w1) := hB
  clear hB
  go_wp2_with fail
  have HT1 : Hid (Sha.Tb w1) := HT0.out.below Hs2.out
  have Hx1 : Hid (Rd w1 ax lx) := Hx0.out.below Hs2.out (Nat.le_refl _)
  have Hy1 : Hid (Rd w1 ay ly) := Hy0.out.below Hs2.out (Nat.le_refl _)
  have Hm1 : Hid (Rd w1 am m) := Hm0.out.below Hs2.out (Nat.le_refl _)
  have Hg1 : Hid (Rd w1 ag sg) := Hg0.out.below Hs2.out (Nat.le_refl _)
  refine (ver_len hk h ax ay am ag cx cy cm cg lx ly m sg _ HT1.out Hx1.out Hy1.out Hm1.out Hg1.out HLn.out.1 HLn.out.2.1 HLn.out.2.2.1 HLn.out.2.2.2.1 HLn.out.2.2.2.2 h0 hd (by omega)).mono ?_
  rintro e w3 ⟨rfl, hB⟩
  have Hs4 : Hid (Below w1.heap.size w1 w3) := hB
  clear hB
  go_wp2_with fail
  have CS := fun w => Sha.size_any h w
  have hz0 : (((Sha.siz h : Nat) : Int) == 0) = false := by have := h0; simp; omega
  generalize Sha.siz h = zs at CS hz0
  refine (CS _).mono ?_
  clear CS
  rintro e w3 ⟨rfl, rfl⟩
  go_wp2_with fail
  have Hx2 : Hid (Rd w3 ax lx) := Hx1.out.below Hs4.out (Nat.le_refl _)
  have Hy2 : Hid (Rd w3 ay ly) := Hy1.out.below Hs4.out (Nat.le_refl _)
  refine (decode_good hk ax ay cx cy lx ly _ Hx2.out Hy2.out HLn.out.1 HLn.out.2.1 hd).mono ?_
  rintro e w5 ⟨r, rfl, hPa⟩
  have Hs6 : Hid (Below w3.heap.size w3 w5) := hPa.bel
  obtain ⟨qx0, qy0, qx1, qx2, qy1, qy2, qX, qY, qf, rfl, hpv⟩ := hPa.pv
  have Hpq0 : Hid (Pv w5 (.slice qx0 qx1 qx2) (.slice qy0 qy1 qy2) qf qX qY (.A (bv lx) (bv ly))) := hpv
  clear hpv
  clear hPa
  have Hs7 : Hid (Below w5.heap.size w5 (w5.alloc (.cells #[.slice qx0 qx1 qx2, .slice qy0 qy1 qy2, .bool qf] 41))) := alloc_below _ _
  have Hbq0 : Hid (Bl 41 (w5.alloc (.cells #[.slice qx0 qx1 qx2, .slice qy0 qy1 qy2, .bool qf] 41)) w5.heap.size [.slice qx0 qx1 qx2, .slice qy0 qy1 qy2, .bool qf]) := alloc_bl w5 [.slice qx0 qx1 qx2, .slice qy0 qy1 qy2, .bool qf] 41
  go_wp2_with fail
  generalize (w5.alloc (.cells #[.slice qx0 qx1 qx2, .slice qy0 qy1 qy2, .bool qf] 41)) = wv8 at *
  refine (size_v hk _).mono ?_
  rintro e w9 ⟨rfl, hB⟩
  have Hs10 : Hid (Below wv8.heap.size wv8 w9) := hB
  clear hB
  have hln : (((sg.length : Nat) : Int) != 64) = true := bne_iff_ne.2 (by omega)
  go_wp2_with fail
  refine (order_v hk _).mono ?_
  rintro e w11 ⟨nv, rfl, mN, hB⟩
  have Hs12 : Hid (Below w9.heap.size w9 w11) := hB
  obtain ⟨n0, n1, n2, rfl⟩ := mN.nk.sl
  have Hn0 : Hid (Mk w11 0 (.slice n0 n1 n2) n 384) := mN.base (Nat.zero_le _)
  clear mN hB
  have HB1 : Hid (Below w.heap.size w w11) := HB0.out.trans ((btr Hs2.out (btr Hs4.out (btr Hs6.out (btr Hs7.out (btr Hs10.out Hs12.out))))).mono HB0.out.size)
  go_wp2
  go_ret
  exact ⟨rfl, HB1.out⟩
set_option maxHeartbeats 40000000 in
theorem eq_in32 {c : Int} {p b n gx gy : Nat} (hk : Kv c p b n gx gy 32) (h : Int) (ax ay am ag : Option Addr) (cx cy cm cg : Nat) (lx ly m sg : List UInt8) (w : World) (T : Sha.Tb w) (hx : Rd w ax lx) (hy : Rd w ay ly) (hm : Rd w am m) (hg : Rd w ag sg) (l1 : lx.length ≤ 100000000) (l2 : ly.length ≤ 100000000) (l3 : m.length ≤ 100000000) (l4 : sg.length ≤ cg) (c3 : m.length ≤ cm ∧ cm ≤ 9223372036854775807) (h0 : Sha.siz h ≠ 0) (hd : decB p b 32 lx ly = true) (hl : sg.length = 64) :
    Calls Tryz.prog 6 #[.int .i64 h, .int .i64 c, .slice ax lx.length cx, .slice ay ly.length cy, .slice am m.length cm, .slice ag 64 cg] w fun e w' => e = .returned (.bool true) ∧ Below w.heap.size w w' := by
  have Hl : Hid (sg.length = 64) := hl
  have hcg : 64 ≤ cg := hl ▸ l4
  have HD : Hid (Sha.siz h ≠ 0 ∧ decB p b 32 lx ly = true) := ⟨h0, hd⟩
  obtain ⟨g, off, rfl⟩ : ∃ g off : Nat, ag = some ⟨g, off, none⟩ := by
    rcases hg with h | ⟨g, off, e, _⟩
    · subst h; simp at hl
    · exact ⟨g, off, e⟩
  have HT0 : Hid (Sha.Tb w) := T
  have Hx0 : Hid (Rd w ax lx) := hx
  have Hy0 : Hid (Rd w ay ly) := hy
  have Hm0 : Hid (Rd w am m) := hm
  have Hg0 : Hid (Rd w (some ⟨g, off, none⟩) sg) := hg
  have HB0 : Hid (Below w.heap.size w w) := Below.refl _ _
  have HLn : Hid (lx.length ≤ 100000000 ∧ ly.length ≤ 100000000 ∧ m.length ≤ 100000000 ∧ sg.length ≤ cg ∧ m.length ≤ cm ∧ cm ≤ 9223372036854775807) := ⟨l1, l2, l3, l4, c3⟩
  clear T hx hy hm hg l1 l2 l3 l4 c3
  go_enter Tryz.func6, Tryz.ntmps6
  go_wp2_with fail
  refine (awake12_v _ HT0.out).mono ?_
  rintro e w1 ⟨rfl, hB⟩
  have Hs2 : Hid (Below w.heap.size w w1) := hB
  clear hB
  clear hl
  go_wp2_with fail
  have HT1 : Hid (Sha.Tb w1) := HT0.out.below Hs2.out
  have Hx1 : Hid (Rd w1 ax lx) := Hx0.out.below Hs2.out (Nat.le_refl _)
  have Hy1 : Hid (Rd w1 ay ly) := Hy0.out.below Hs2.out (Nat.le_refl _)
  have Hm1 : Hid (Rd w1 am m) := Hm0.out.below Hs2.out (Nat.le_refl _)
  have Hg1 : Hid (Rd w1 (some ⟨g, off, none⟩) sg) := Hg0.out.below Hs2.out (Nat.le_refl _)
  have C := verify_v hk h ax ay am _ cx cy cm _ lx ly m sg _ HT1.out Hx1.out Hy1.out Hm1.out Hg1.out HLn.out.1 HLn.out.2.1 HLn.out.2.2.1 HLn.out.2.2.2.1 HLn.out.2.2.2.2
  obtain ⟨z, Hz⟩ : ∃ z, Hid (z = verV p b n (.A gx gy) 32 h lx ly m sg) := ⟨_, rfl⟩
  rw [← Hz.out, Hl.out] at C
  refine (C).mono ?_
  rintro e w3 ⟨rfl, hB⟩
  have Hs4 : Hid (Below w1.heap.size w1 w3) := hB
  clear hB C
  go_wp2_with fail
  have CS := fun w => Sha.size_any h w
  have hz0 : (((Sha.siz h : Nat) : Int) == 0) = false := by have := h0; simp; omega
  generalize Sha.siz h = zs at CS hz0
  refine (CS _).mono ?_
  clear CS
  rintro e w3 ⟨rfl, rfl⟩
  go_wp2_with fail
  have Hx2 : Hid (Rd w3 ax lx) := Hx1.out.below Hs4.out (Nat.le_refl _)
  have Hy2 : Hid (Rd w3 ay ly) := Hy1.out.below Hs4.out (Nat.le_refl _)
  refine (decode_good hk ax ay cx cy lx ly _ Hx2.out Hy2.out HLn.out.1 HLn.out.2.1 hd).mono ?_
  rintro e w5 ⟨r, rfl, hPa⟩
  have Hs6 : Hid (Below w3.heap.size w3 w5) := hPa.bel
  obtain ⟨qx0, qy0, qx1, qx2, qy1, qy2, qX, qY, qf, rfl, hpv⟩ := hPa.pv
  have Hpq0 : Hid (Pv w5 (.slice qx0 qx1 qx2) (.slice qy0 qy1 qy2) qf qX qY (.A (bv lx) (bv ly))) := hpv
  clear hpv
  clear hPa
  have Hs7 : Hid (Below w5.heap.size w5 (w5.alloc (.cells #[.slice qx0 qx1 qx2, .slice qy0 qy1 qy2, .bool qf] 41))) := alloc_below _ _
  have Hbq0 : Hid (Bl 41 (w5.alloc (.cells #[.slice qx0 qx1 qx2, .slice qy0 qy1 qy2, .bool qf] 41)) w5.heap.size [.slice qx0 qx1 qx2, .slice qy0 qy1 qy2, .bool qf]) := alloc_bl w5 [.slice qx0 qx1 qx2, .slice qy0 qy1 qy2, .bool qf] 41
  go_wp2_with fail
  generalize (w5.alloc (.cells #[.slice qx0 qx1 qx2, .slice qy0 qy1 qy2, .bool qf] 41)) = wv8 at *
  refine (size_v hk _).mono ?_
  rintro e w9 ⟨rfl, hB⟩
  have Hs10 : Hid (Below wv8.heap.size wv8 w9) := hB
  clear hB
  go_wp2_with fail
  refine (order_v hk _).mono ?_
  rintro e w11 ⟨nv, rfl, mN, hB⟩
  have Hs12 : Hid (Below w9.heap.size w9 w11) := hB
  obtain ⟨n0, n1, n2, rfl⟩ := mN.nk.sl
  have Hn0 : Hid (Mk w11 0 (.slice n0 n1 n2) n 384) := mN.base (Nat.zero_le _)
  clear mN hB
  have HLk : Hid ((sg.take 32).length = 32 ∧ (sg.drop 32).length = 32) := ⟨by simp [Hl.out], by simp [Hl.out]⟩
  obtain ⟨R, HR⟩ : ∃ V, Hid (V = bv (sg.take 32)) := ⟨_, rfl⟩
  obtain ⟨S, HS⟩ : ∃ V, Hid (V = bv (sg.drop 32)) := ⟨_, rfl⟩
  have Hg2 : Hid (Rd w11 (some ⟨g, off, none⟩) sg) := Hg1.out.below (btr Hs4.out (btr Hs6.out (btr Hs7.out (btr Hs10.out Hs12.out)))) (Nat.le_refl _)
  go_wp2_with fail
  refine (from_e (rd_take Hg2.out 32) HLk.out.1 (by decide) HR.out).mono ?_
  rintro e w13 ⟨rv, rfl, hh⟩
  have Hs14 : Hid (Below w11.heap.size w11 w13) := hh.bel
  obtain ⟨r0, r1, r2, rfl⟩ := hh.sl
  have Hr0 : Hid (Mk w13 0 (.slice r0 r1 r2) R 384) := hh.mk.base (Nat.zero_le _)
  clear hh
  have Hg3 : Hid (Rd w13 (some ⟨g, off, none⟩) sg) := Hg2.out.below Hs14.out (Nat.le_refl _)
  go_wp2_with fail
  refine (from_e (rd_drop Hg3.out 32) HLk.out.2 (by decide) HS.out).mono ?_
  rintro e w15 ⟨tv, rfl, hh⟩
  have Hs16 : Hid (Below w13.heap.size w13 w15) := hh.bel
  obtain ⟨t0, t1, t2, rfl⟩ := hh.sl
  have Ht0 : Hid (Mk w15 0 (.slice t0 t1 t2) S 384) := hh.mk.base (Nat.zero_le _)
  clear hh
  obtain ⟨bR, HbR⟩ : ∃ z : Int, Hid (z = ((bl R : Nat) : Int)) := ⟨_, rfl⟩
  go_wp2_with fail
  have Hr1 : Hid (Mk w15 0 (.slice r0 r1 r2) R 384) := Hr0.out.below Hs16.out
  have C := bits_p Hr1.out.nk.1
  rw [← HbR.out] at C
  refine C.mono ?_
  clear C
  rintro e w15 ⟨rfl, rfl⟩
  by_cases hR0 : 0 < R
  rotate_left
  · have hz : (bR == 0) = true := by rw [HbR.out, bl_is0, decide_eq_true hR0]
    have HX : Hid (¬ ((0 < R ∧ R < n) ∧ 0 < S ∧ S < n)) := fun h => hR0 h.1.1
    obtain rfl : z = 91 := by rw [Hz.out]; exact ver_91 hk HD.out.1 HD.out.2 (fun h => HX.out (by rw [HR.out, HS.out]; exact h.2))
    have HB1 : Hid (Below w.heap.size w w15) := HB0.out.trans ((btr Hs2.out (btr Hs4.out (btr Hs6.out (btr Hs7.out (btr Hs10.out (btr Hs12.out (btr Hs14.out Hs16.out))))))).mono HB0.out.size)
    go_wp2
    go_ret
    exact ⟨rfl, HB1.out⟩
  have hzR : (bR == 0) = false := by rw [HbR.out, bl_is0, decide_eq_false (not_not_intro hR0)]
  obtain ⟨bS, HbS⟩ : ∃ z : Int, Hid (z = ((bl S : Nat) : Int)) := ⟨_, rfl⟩
  go_wp2_with fail
  have C := bits_p Ht0.out.nk.1
  rw [← HbS.out] at C
  refine C.mono ?_
  clear C
  rintro e w15 ⟨rfl, rfl⟩
  by_cases hS0 : 0 < S
  rotate_left
  · have hz : (bS == 0) = true := by rw [HbS.out, bl_is0, decide_eq_true hS0]
    have HX : Hid (¬ ((0 < R ∧ R < n) ∧ 0 < S ∧ S < n)) := fun h => hS0 h.2.1
    obtain rfl : z = 91 := by rw [Hz.out]; exact ver_91 hk HD.out.1 HD.out.2 (fun h => HX.out (by rw [HR.out, HS.out]; exact h.2))
    have HB1 : Hid (Below w.heap.size w w15) := HB0.out.trans ((btr Hs2.out (btr Hs4.out (btr Hs6.out (btr Hs7.out (btr Hs10.out (btr Hs12.out (btr Hs14.out Hs16.out))))))).mono HB0.out.size)
    go_wp2
    go_ret
    exact ⟨rfl, HB1.out⟩
  have hzS : (bS == 0) = false := by rw [HbS.out, bl_is0, decide_eq_false (not_not_intro hS0)]
  obtain ⟨cR, HcR⟩ : ∃ z : Int, Hid (z = cmp3 (R : Int) (n : Int)) := ⟨_, rfl⟩
  go_wp2_with fail
  have Hn1 : Hid (Mk w15 0 (.slice n0 n1 n2) n 384) := Hn0.out.below (btr Hs14.out Hs16.out)
  have C := vcmp _ _ R n _ _ _ Hr1.out.nk.1 Hn1.out.nk.1 (by decide) (by decide)
  rw [← HcR.out] at C
  refine (C).mono ?_
  rintro e w17 ⟨rfl, q_, hq_⟩
  have Hs18 : Hid (Below w15.heap.size w15 w17) := (by rw [hq_]; exact below_drewN (Below.refl _ _) q_ : Below _ _ _)
  clear hq_ q_
  clear C
  by_cases hRn : R < n
  rotate_left
  · have hz : decide (cR ≥ 0) = true := by rw [HcR.out, cmp_ge, decide_eq_true hRn]
    have hz' : (0 : Int) ≤ cR := of_decide_eq_true hz
    have HX : Hid (¬ ((0 < R ∧ R < n) ∧ 0 < S ∧ S < n)) := fun h => hRn h.1.2
    obtain rfl : z = 91 := by rw [Hz.out]; exact ver_91 hk HD.out.1 HD.out.2 (fun h => HX.out (by rw [HR.out, HS.out]; exact h.2))
    have HB1 : Hid (Below w.heap.size w w17) := HB0.out.trans ((btr Hs2.out (btr Hs4.out (btr Hs6.out (btr Hs7.out (btr Hs10.out (btr Hs12.out (btr Hs14.out (btr Hs16.out Hs18.out)))))))).mono HB0.out.size)
    go_wp2
    go_ret
    exact ⟨rfl, HB1.out⟩
  have hyR : decide (cR ≥ 0) = false := by rw [HcR.out, cmp_ge, decide_eq_false (not_not_intro hRn)]
  have hwR : ¬ (0 : Int) ≤ cR := of_decide_eq_false hyR
  obtain ⟨cS, HcS⟩ : ∃ z : Int, Hid (z = cmp3 (S : Int) (n : Int)) := ⟨_, rfl⟩
  go_wp2_with fail
  have Ht1 : Hid (Mk w17 0 (.slice t0 t1 t2) S 384) := Ht0.out.below Hs18.out
  have Hn2 : Hid (Mk w17 0 (.slice n0 n1 n2) n 384) := Hn1.out.below Hs18.out
  have C := vcmp _ _ S n _ _ _ Ht1.out.nk.1 Hn2.out.nk.1 (by decide) (by decide)
  rw [← HcS.out] at C
  refine (C).mono ?_
  rintro e w19 ⟨rfl, q_, hq_⟩
  have Hs20 : Hid (Below w17.heap.size w17 w19) := (by rw [hq_]; exact below_drewN (Below.refl _ _) q_ : Below _ _ _)
  clear hq_ q_
  clear C
  by_cases hSn : S < n
  rotate_left
  · have hz : decide (cS ≥ 0) = true := by rw [HcS.out, cmp_ge, decide_eq_true hSn]
    have hz' : (0 : Int) ≤ cS := of_decide_eq_true hz
    have HX : Hid (¬ ((0 < R ∧ R < n) ∧ 0 < S ∧ S < n)) := fun h => hSn h.2.2
    obtain rfl : z = 91 := by rw [Hz.out]; exact ver_91 hk HD.out.1 HD.out.2 (fun h => HX.out (by rw [HR.out, HS.out]; exact h.2))
    have HB1 : Hid (Below w.heap.size w w19) := HB0.out.trans ((btr Hs2.out (btr Hs4.out (btr Hs6.out (btr Hs7.out (btr Hs10.out (btr Hs12.out (btr Hs14.out (btr Hs16.out (btr Hs18.out Hs20.out))))))))).mono HB0.out.size)
    go_wp2
    go_ret
    exact ⟨rfl, HB1.out⟩
  have hyS : decide (cS ≥ 0) = false := by rw [HcS.out, cmp_ge, decide_eq_false (not_not_intro hSn)]
  have hwS : ¬ (0 : Int) ≤ cS := of_decide_eq_false hyS
  have HRn : Hid (0 < R ∧ R < n) := ⟨hR0, hRn⟩
  have HSn : Hid (0 < S ∧ S < n) := ⟨hS0, hSn⟩
  go_wp2_with fail
  have HT2 : Hid (Sha.Tb w19) := HT1.out.below (btr Hs4.out (btr Hs6.out (btr Hs7.out (btr Hs10.out (btr Hs12.out (btr Hs14.out (btr Hs16.out (btr Hs18.out Hs20.out))))))))
  have Hm2 : Hid (Rd w19 am m) := Hm1.out.below (btr Hs4.out (btr Hs6.out (btr Hs7.out (btr Hs10.out (btr Hs12.out (btr Hs14.out (btr Hs16.out (btr Hs18.out Hs20.out)))))))) (Nat.le_refl _)
  refine (lnumber_v hk h am cm m _ HT2.out Hm2.out HLn.out.2.2.2.2.1 HLn.out.2.2.2.2.2 (by have := HLn.out.2.2.1; omega)).mono ?_
  rintro e w21 ⟨zv, rfl, mz, hB⟩
  have Hs22 : Hid (Below w19.heap.size w19 w21) := hB
  obtain ⟨z0, z1, z2, rfl⟩ := mz.nk.sl
  have Hz0 : Hid (Mk w21 0 (.slice z0 z1 z2) (zV 32 h m) 384) := mz.base (Nat.zero_le _)
  clear mz hB
  go_wp2_with fail
  have Ht2 : Hid (Mk w21 0 (.slice t0 t1 t2) S 384) := Ht1.out.below (btr Hs20.out Hs22.out)
  have Hn3 : Hid (Mk w21 0 (.slice n0 n1 n2) n 384) := Hn2.out.below (btr Hs20.out Hs22.out)
  refine (invn_v hk _ _ S _ Ht2.out.nk.1 Hn3.out.nk.1 HSn.out.1 HSn.out.2).mono ?_
  rintro e w23 ⟨iv, rfl, hh⟩
  have Hs24 : Hid (Below w21.heap.size w21 w23) := hh.bel
  obtain ⟨i0, i1, i2, rfl⟩ := hh.sl
  have Hi0 : Hid (Nk w23 (.slice i0 i1 i2) (iv n S) 384) := hh.nb
  clear hh
  go_wp2_with fail
  have Hz1 : Hid (Mk w23 0 (.slice z0 z1 z2) (zV 32 h m) 384) := Hz0.out.below Hs24.out
  have Hn4 : Hid (Mk w23 0 (.slice n0 n1 n2) n 384) := Hn3.out.below Hs24.out
  refine (muln_v hk _ _ _ (zV 32 h m) (iv n S) _ Hz1.out.nk Hi0.out Hn4.out.nk.1).mono ?_
  rintro e w25 ⟨uv, rfl, hh⟩
  have Hs26 : Hid (Below w23.heap.size w23 w25) := hh.bel
  obtain ⟨u0, u1, u2, rfl⟩ := hh.sl
  have Hu0 : Hid (Nk w25 (.slice u0 u1 u2) ((zV 32 h m) * iv n S % n) 384) := hh.nb
  clear hh
  go_wp2_with fail
  have Hr2 : Hid (Mk w25 0 (.slice r0 r1 r2) R 384) := Hr1.out.below (btr Hs18.out (btr Hs20.out (btr Hs22.out (btr Hs24.out Hs26.out))))
  have Hi1 : Hid (Nk w25 (.slice i0 i1 i2) (iv n S) 384) := Hi0.out.below Hs26.out (Nat.le_refl _)
  have Hn5 : Hid (Mk w25 0 (.slice n0 n1 n2) n 384) := Hn4.out.below Hs26.out
  refine (muln_v hk _ _ _ R (iv n S) _ Hr2.out.nk Hi1.out Hn5.out.nk.1).mono ?_
  rintro e w27 ⟨vv, rfl, hh⟩
  have Hs28 : Hid (Below w25.heap.size w25 w27) := hh.bel
  obtain ⟨v0, v1, v2, rfl⟩ := hh.sl
  have Hv0 : Hid (Nk w27 (.slice v0 v1 v2) (R * iv n S % n) 384) := hh.nb
  clear hh
  go_wp2_with fail
  refine (base_v hk _).mono ?_
  rintro e w29 ⟨r, rfl, hPa⟩
  have Hs30 : Hid (Below w27.heap.size w27 w29) := hPa.bel
  obtain ⟨gx0, gy0, gx1, gx2, gy1, gy2, gX, gY, gf, rfl, hpv⟩ := hPa.pv
  have Hpg0 : Hid (Pv w29 (.slice gx0 gx1 gx2) (.slice gy0 gy1 gy2) gf gX gY (.A gx gy)) := hpv
  clear hpv
  clear hPa
  go_wp2_with fail
  have Hu1 : Hid (Nk w29 (.slice u0 u1 u2) ((zV 32 h m) * iv n S % n) 384) := Hu0.out.below (btr Hs28.out Hs30.out) (Nat.le_refl _)
  refine (mul_p hk Hu1.out Hpg0.out hk.gp.oG).mono ?_
  rintro e w31 ⟨r, rfl, hPa, hB⟩
  have Hs32 : Hid (Below w29.heap.size w29 w31) := hB
  obtain ⟨ax0, ay0, ax1, ax2, ay1, ay2, aX, aY, af, rfl, hpv⟩ := hPa.pv
  have Hpa0 : Hid (Pv w31 (.slice ax0 ax1 ax2) (.slice ay0 ay1 ay2) af aX aY (ml p ((zV 32 h m) * iv n S % n) (.A gx gy))) := hpv
  clear hpv
  clear hPa hB
  have Hs33 : Hid (Below w31.heap.size w31 (w31.alloc (.cells #[.slice ax0 ax1 ax2, .slice ay0 ay1 ay2, .bool af] 41))) := alloc_below _ _
  have Hba0 : Hid (Bl 41 (w31.alloc (.cells #[.slice ax0 ax1 ax2, .slice ay0 ay1 ay2, .bool af] 41)) w31.heap.size [.slice ax0 ax1 ax2, .slice ay0 ay1 ay2, .bool af]) := alloc_bl w31 [.slice ax0 ax1 ax2, .slice ay0 ay1 ay2, .bool af] 41
  have Hbq1 : Hid (Bl 41 (w31.alloc (.cells #[.slice ax0 ax1 ax2, .slice ay0 ay1 ay2, .bool af] 41)) w5.heap.size [.slice qx0 qx1 qx2, .slice qy0 qy1 qy2, .bool qf]) := Hbq0.out.below (btr Hs10.out (btr Hs12.out (btr Hs14.out (btr Hs16.out (btr Hs18.out (btr Hs20.out (btr Hs22.out (btr Hs24.out (btr Hs26.out (btr Hs28.out (btr Hs30.out (btr Hs32.out Hs33.out)))))))))))) Hbq0.out.lt
  have kq_0 : (w31.alloc (.cells #[.slice ax0 ax1 ax2, .slice ay0 ay1 ay2, .bool af] 41)).cell? ⟨w5.heap.size, 0, none⟩ = some (.slice qx0 qx1 qx2) := Hbq1.out.cell 0 (by simp)
  have kq_1 : (w31.alloc (.cells #[.slice ax0 ax1 ax2, .slice ay0 ay1 ay2, .bool af] 41)).cell? ⟨w5.heap.size, 1, none⟩ = some (.slice qy0 qy1 qy2) := Hbq1.out.cell 1 (by simp)
  have kq_2 : (w31.alloc (.cells #[.slice ax0 ax1 ax2, .slice ay0 ay1 ay2, .bool af] 41)).cell? ⟨w5.heap.size, 2, none⟩ = some (.bool qf) := Hbq1.out.cell 2 (by simp)
  go_wp2_with fail
  clear kq_0 kq_1 kq_2
  generalize (w31.alloc (.cells #[.slice ax0 ax1 ax2, .slice ay0 ay1 ay2, .bool af] 41)) = wv34 at *
  have Hv1 : Hid (Nk wv34 (.slice v0 v1 v2) (R * iv n S % n) 384) := Hv0.out.below (btr Hs30.out (btr Hs32.out Hs33.out)) (Nat.le_refl _)
  have Hpq1 : Hid (Pv wv34 (.slice qx0 qx1 qx2) (.slice qy0 qy1 qy2) qf qX qY (.A (bv lx) (bv ly))) := Hpq0.out.below (btr Hs7.out (btr Hs10.out (btr Hs12.out (btr Hs14.out (btr Hs16.out (btr Hs18.out (btr Hs20.out (btr Hs22.out (btr Hs24.out (btr Hs26.out (btr Hs28.out (btr Hs30.out (btr Hs32.out Hs33.out))))))))))))) (Nat.le_refl _)
  refine (mul_p hk Hv1.out Hpq1.out (decB_on hk HD.out.2)).mono ?_
  rintro e w35 ⟨r, rfl, hPa, hB⟩
  have Hs36 : Hid (Below wv34.heap.size wv34 w35) := hB
  obtain ⟨bx0, by0, bx1, bx2, by1, by2, bX, bY, bf, rfl, hpv⟩ := hPa.pv
  have Hpb0 : Hid (Pv w35 (.slice bx0 bx1 bx2) (.slice by0 by1 by2) bf bX bY (ml p (R * iv n S % n) (.A (bv lx) (bv ly)))) := hpv
  clear hpv
  clear hPa hB
  have Hs37 : Hid (Below w35.heap.size w35 (w35.alloc (.cells #[.slice bx0 bx1 bx2, .slice by0 by1 by2, .bool bf] 41))) := alloc_below _ _
  have Hbb0 : Hid (Bl 41 (w35.alloc (.cells #[.slice bx0 bx1 bx2, .slice by0 by1 by2, .bool bf] 41)) w35.heap.size [.slice bx0 bx1 bx2, .slice by0 by1 by2, .bool bf]) := alloc_bl w35 [.slice bx0 bx1 bx2, .slice by0 by1 by2, .bool bf] 41
  have Hba1 : Hid (Bl 41 (w35.alloc (.cells #[.slice bx0 bx1 bx2, .slice by0 by1 by2, .bool bf] 41)) w31.heap.size [.slice ax0 ax1 ax2, .slice ay0 ay1 ay2, .bool af]) := Hba0.out.below (btr Hs36.out Hs37.out) Hba0.out.lt
  have ka_0 : (w35.alloc (.cells #[.slice bx0 bx1 bx2, .slice by0 by1 by2, .bool bf] 41)).cell? ⟨w31.heap.size, 0, none⟩ = some (.slice ax0 ax1 ax2) := Hba1.out.cell 0 (by simp)
  have ka_1 : (w35.alloc (.cells #[.slice bx0 bx1 bx2, .slice by0 by1 by2, .bool bf] 41)).cell? ⟨w31.heap.size, 1, none⟩ = some (.slice ay0 ay1 ay2) := Hba1.out.cell 1 (by simp)
  have ka_2 : (w35.alloc (.cells #[.slice bx0 bx1 bx2, .slice by0 by1 by2, .bool bf] 41)).cell? ⟨w31.heap.size, 2, none⟩ = some (.bool af) := Hba1.out.cell 2 (by simp)
  have kb_0 : (w35.alloc (.cells #[.slice bx0 bx1 bx2, .slice by0 by1 by2, .bool bf] 41)).cell? ⟨w35.heap.size, 0, none⟩ = some (.slice bx0 bx1 bx2) := Hbb0.out.cell 0 (by simp)
  have kb_1 : (w35.alloc (.cells #[.slice bx0 bx1 bx2, .slice by0 by1 by2, .bool bf] 41)).cell? ⟨w35.heap.size, 1, none⟩ = some (.slice by0 by1 by2) := Hbb0.out.cell 1 (by simp)
  have kb_2 : (w35.alloc (.cells #[.slice bx0 bx1 bx2, .slice by0 by1 by2, .bool bf] 41)).cell? ⟨w35.heap.size, 2, none⟩ = some (.bool bf) := Hbb0.out.cell 2 (by simp)
  go_wp2_with fail
  clear ka_0 ka_1 ka_2 kb_0 kb_1 kb_2
  generalize (w35.alloc (.cells #[.slice bx0 bx1 bx2, .slice by0 by1 by2, .bool bf] 41)) = wv38 at *
  have Hpa1 : Hid (Pv wv38 (.slice ax0 ax1 ax2) (.slice ay0 ay1 ay2) af aX aY (ml p ((zV 32 h m) * iv n S % n) (.A gx gy))) := Hpa0.out.below (btr Hs33.out (btr Hs36.out Hs37.out)) (Nat.le_refl _)
  have Hpb1 : Hid (Pv wv38 (.slice bx0 bx1 bx2) (.slice by0 by1 by2) bf bX bY (ml p (R * iv n S % n) (.A (bv lx) (bv ly)))) := Hpb0.out.below Hs37.out (Nat.le_refl _)
  refine (add_p hk Hpa1.out Hpb1.out (hk.cv.mon hk.gp.oG _) (hk.cv.mon (decB_on hk HD.out.2) _)).mono ?_
  rintro e w39 ⟨r, rfl, hPa, hB⟩
  have Hs40 : Hid (Below wv38.heap.size wv38 w39) := hB
  obtain ⟨px0, py0, px1, px2, py1, py2, pX, pY, pf, rfl, hpv⟩ := hPa.pv
  have Hpp0 : Hid (Pv w39 (.slice px0 px1 px2) (.slice py0 py1 py2) pf pX pY (jt p n (.A gx gy) (zV 32 h m) R (iv n S) (.A (bv lx) (bv ly)))) := hpv
  clear hpv
  clear hPa hB
  have Hs41 : Hid (Below w39.heap.size w39 (w39.alloc (.cells #[.slice px0 px1 px2, .slice py0 py1 py2, .bool pf] 41))) := alloc_below _ _
  have Hbp0 : Hid (Bl 41 (w39.alloc (.cells #[.slice px0 px1 px2, .slice py0 py1 py2, .bool pf] 41)) w39.heap.size [.slice px0 px1 px2, .slice py0 py1 py2, .bool pf]) := alloc_bl w39 [.slice px0 px1 px2, .slice py0 py1 py2, .bool pf] 41
  have hver : z = if mkx n (jt p n (.A gx gy) (zV 32 h m) R (iv n S) (.A (bv lx) (bv ly))) R = true then 0 else 91 := by rw [Hz.out, ver_in' hk HD.out.1 HD.out.2 (by rw [Hl.out]; rfl) (by show 0 < bv (sg.take 32) ∧ bv (sg.take 32) < n; rw [← HR.out]; exact HRn.out) (by show 0 < bv (sg.drop 32) ∧ bv (sg.drop 32) < n; rw [← HS.out]; exact HSn.out)]; show (if mkx n (jt p n (.A gx gy) (zV 32 h m) (bv (sg.take 32)) (iv n (bv (sg.drop 32))) (.A (bv lx) (bv ly))) (bv (sg.take 32)) = true then (0 : Int) else 91) = _; rw [← HR.out, ← HS.out]
  have Hver : Hid (z = if mkx n (jt p n (.A gx gy) (zV 32 h m) R (iv n S) (.A (bv lx) (bv ly))) R = true then 0 else 91) := hver
  clear hver
  obtain ⟨pF, HpF⟩ : ∃ f, Hid (f = pf) := ⟨_, rfl⟩
  cases pf with
  | true =>
    have Hpp1 : Hid (Pv (w39.alloc (.cells #[.slice px0 px1 px2, .slice py0 py1 py2, .bool true] 41)) (.slice px0 px1 px2) (.slice py0 py1 py2) true pX pY (jt p n (.A gx gy) (zV 32 h m) R (iv n S) (.A (bv lx) (bv ly)))) := Hpp0.out.below Hs41.out (Nat.le_refl _)
    obtain rfl : z = 91 := by rw [Hver.out, ← Hpp1.out.pt]; rfl
    have kp_0 : (w39.alloc (.cells #[.slice px0 px1 px2, .slice py0 py1 py2, .bool true] 41)).cell? ⟨w39.heap.size, 0, none⟩ = some (.slice px0 px1 px2) := Hbp0.out.cell 0 (by simp)
    have kp_1 : (w39.alloc (.cells #[.slice px0 px1 px2, .slice py0 py1 py2, .bool true] 41)).cell? ⟨w39.heap.size, 1, none⟩ = some (.slice py0 py1 py2) := Hbp0.out.cell 1 (by simp)
    have kp_2 : (w39.alloc (.cells #[.slice px0 px1 px2, .slice py0 py1 py2, .bool true] 41)).cell? ⟨w39.heap.size, 2, none⟩ = some (.bool true) := Hbp0.out.cell 2 (by simp)
    have HB1 : Hid (Below w.heap.size w (w39.alloc (.cells #[.slice px0 px1 px2, .slice py0 py1 py2, .bool true] 41))) := HB0.out.trans ((btr Hs2.out (btr Hs4.out (btr Hs6.out (btr Hs7.out (btr Hs10.out (btr Hs12.out (btr Hs14.out (btr Hs16.out (btr Hs18.out (btr Hs20.out (btr Hs22.out (btr Hs24.out (btr Hs26.out (btr Hs28.out (btr Hs30.out (btr Hs32.out (btr Hs33.out (btr Hs36.out (btr Hs37.out (btr Hs40.out Hs41.out)))))))))))))))))))).mono HB0.out.size)
    go_wp2
    go_ret
    exact ⟨rfl, HB1.out⟩
  | false =>
    have Hpp1 : Hid (Pv (w39.alloc (.cells #[.slice px0 px1 px2, .slice py0 py1 py2, .bool false] 41)) (.slice px0 px1 px2) (.slice py0 py1 py2) false pX pY (jt p n (.A gx gy) (zV 32 h m) R (iv n S) (.A (bv lx) (bv ly)))) := Hpp0.out.below Hs41.out (Nat.le_refl _)
    have Hmk : Hid (z = if decide (pX % n = R) = true then 0 else 91) := (by have h1 := Hver.out; rw [← Hpp1.out.pt] at h1; exact h1 : z = if decide (pX % n = R) = true then 0 else 91)
    have kp_0 : (w39.alloc (.cells #[.slice px0 px1 px2, .slice py0 py1 py2, .bool false] 41)).cell? ⟨w39.heap.size, 0, none⟩ = some (.slice px0 px1 px2) := Hbp0.out.cell 0 (by simp)
    have kp_1 : (w39.alloc (.cells #[.slice px0 px1 px2, .slice py0 py1 py2, .bool false] 41)).cell? ⟨w39.heap.size, 1, none⟩ = some (.slice py0 py1 py2) := Hbp0.out.cell 1 (by simp)
    have kp_2 : (w39.alloc (.cells #[.slice px0 px1 px2, .slice py0 py1 py2, .bool false] 41)).cell? ⟨w39.heap.size, 2, none⟩ = some (.bool false) := Hbp0.out.cell 2 (by simp)
    go_wp2_with fail
    clear kp_0 kp_1 kp_2
    generalize (w39.alloc (.cells #[.slice px0 px1 px2, .slice py0 py1 py2, .bool false] 41)) = wv42 at *
    have Hn6 : Hid (Mk wv42 0 (.slice n0 n1 n2) n 384) := Hn5.out.below (btr Hs28.out (btr Hs30.out (btr Hs32.out (btr Hs33.out (btr Hs36.out (btr Hs37.out (btr Hs40.out Hs41.out)))))))
    refine (vdiv _ _ pX n _ _ _ Hpp1.out.mx.nk.1 Hn6.out.nk.1 (by decide) (by decide) (by have := hk.pmn.1; omega)).mono ?_
    rintro e w43 ⟨dv, ev, rfl, hq, hr_⟩
    have Hs44 : Hid (Below wv42.heap.size wv42 w43) := hq.2.2
    obtain ⟨d0, d1, d2, rfl⟩ := hq.vl.shape
    obtain ⟨e0, e1, e2, rfl⟩ := hr_.vl.shape
    have He0 : Hid (Nu w43 (.slice e0 e1 e2) (pX % n)) := New.vl hr_
    clear hq hr_
    obtain ⟨cM, HcM⟩ : ∃ z : Int, Hid (z = cmp3 ((pX % n : Nat) : Int) (R : Int)) := ⟨_, rfl⟩
    go_wp2_with fail
    have Hr3 : Hid (Mk w43 0 (.slice r0 r1 r2) R 384) := Hr2.out.below (btr Hs28.out (btr Hs30.out (btr Hs32.out (btr Hs33.out (btr Hs36.out (btr Hs37.out (btr Hs40.out (btr Hs41.out Hs44.out))))))))
    have C := vcmp _ _ (pX % n) R _ _ _ He0.out Hr3.out.nk.1 (by decide) (by decide)
    rw [← HcM.out] at C
    refine (C).mono ?_
    rintro e w45 ⟨rfl, q_, hq_⟩
    have Hs46 : Hid (Below w43.heap.size w43 w45) := (by rw [hq_]; exact below_drewN (Below.refl _ _) q_ : Below _ _ _)
    clear hq_ q_
    clear C
    by_cases hxr : pX % n = R
    rotate_left
    · have hc : (cM != 0) = true := by rw [HcM.out]; exact bne_iff_ne.2 (cmq_ne hxr)
      obtain rfl : z = 91 := by rw [Hmk.out, if_neg (by simpa using hxr)]
      have HB1 : Hid (Below w.heap.size w w45) := HB0.out.trans ((btr Hs2.out (btr Hs4.out (btr Hs6.out (btr Hs7.out (btr Hs10.out (btr Hs12.out (btr Hs14.out (btr Hs16.out (btr Hs18.out (btr Hs20.out (btr Hs22.out (btr Hs24.out (btr Hs26.out (btr Hs28.out (btr Hs30.out (btr Hs32.out (btr Hs33.out (btr Hs36.out (btr Hs37.out (btr Hs40.out (btr Hs41.out (btr Hs44.out Hs46.out)))))))))))))))))))))).mono HB0.out.size)
      go_wp2
      go_ret
      exact ⟨rfl, HB1.out⟩
    have hc : (cM != 0) = false := by rw [HcM.out, hxr, cmq_eq]; rfl
    obtain rfl : z = 0 := by rw [Hmk.out, if_pos (by simpa using hxr)]
    have Hbp1 : Hid (Bl 41 w45 w39.heap.size [.slice px0 px1 px2, .slice py0 py1 py2, .bool false]) := Hbp0.out.below (btr Hs44.out Hs46.out) Hbp0.out.lt
    have kp_0 : w45.cell? ⟨w39.heap.size, 0, none⟩ = some (.slice px0 px1 px2) := Hbp1.out.cell 0 (by simp)
    have kp_1 : w45.cell? ⟨w39.heap.size, 1, none⟩ = some (.slice py0 py1 py2) := Hbp1.out.cell 1 (by simp)
    have kp_2 : w45.cell? ⟨w39.heap.size, 2, none⟩ = some (.bool false) := Hbp1.out.cell 2 (by simp)
    go_wp2_with fail
    clear kp_0 kp_1 kp_2
    have Ht3 : Hid (Mk w45 0 (.slice t0 t1 t2) S 384) := Ht2.out.below (btr Hs24.out (btr Hs26.out (btr Hs28.out (btr Hs30.out (btr Hs32.out (btr Hs33.out (btr Hs36.out (btr Hs37.out (btr Hs40.out (btr Hs41.out (btr Hs44.out Hs46.out)))))))))))
    have Hpp2 : Hid (Pv w45 (.slice px0 px1 px2) (.slice py0 py1 py2) false pX pY (jt p n (.A gx gy) (zV 32 h m) R (iv n S) (.A (bv lx) (bv ly)))) := Hpp1.out.below (btr Hs44.out Hs46.out) (Nat.le_refl _)
    refine (mul_p hk Ht3.out.nk Hpp2.out (hk.gp.jon (decB_on hk HD.out.2))).mono ?_
    rintro e w47 ⟨r, rfl, hPa, hB⟩
    have Hs48 : Hid (Below w45.heap.size w45 w47) := hB
    rw [hk.gp.jmul (decB_on hk HD.out.2) (iv_inz hk.prn HSn.out.1 HSn.out.2).2] at hPa
    obtain ⟨lx0, ly0, lx1, lx2, ly1, ly2, lX, lY, lf, rfl, hpv⟩ := hPa.pv
    have Hpl0 : Hid (Pv w47 (.slice lx0 lx1 lx2) (.slice ly0 ly1 ly2) lf lX lY (sm p (ml p (zV 32 h m) (.A gx gy)) (ml p R (.A (bv lx) (bv ly))))) := hpv
    clear hpv
    clear hPa hB
    have Hs49 : Hid (Below w47.heap.size w47 (w47.alloc (.cells #[.slice lx0 lx1 lx2, .slice ly0 ly1 ly2, .bool lf] 41))) := alloc_below _ _
    have Hbl0 : Hid (Bl 41 (w47.alloc (.cells #[.slice lx0 lx1 lx2, .slice ly0 ly1 ly2, .bool lf] 41)) w47.heap.size [.slice lx0 lx1 lx2, .slice ly0 ly1 ly2, .bool lf]) := alloc_bl w47 [.slice lx0 lx1 lx2, .slice ly0 ly1 ly2, .bool lf] 41
    go_wp2_with fail
    generalize (w47.alloc (.cells #[.slice lx0 lx1 lx2, .slice ly0 ly1 ly2, .bool lf] 41)) = wv50 at *
    refine (base_v hk _).mono ?_
    rintro e w51 ⟨r, rfl, hPa⟩
    have Hs52 : Hid (Below wv50.heap.size wv50 w51) := hPa.bel
    obtain ⟨hx0, hy0, hx1, hx2, hy1, hy2, hX, hY, hf, rfl, hpv⟩ := hPa.pv
    have Hph0 : Hid (Pv w51 (.slice hx0 hx1 hx2) (.slice hy0 hy1 hy2) hf hX hY (.A gx gy)) := hpv
    clear hpv
    clear hPa
    go_wp2_with fail
    have Hz2 : Hid (Mk w51 0 (.slice z0 z1 z2) (zV 32 h m) 384) := Hz1.out.below (btr Hs26.out (btr Hs28.out (btr Hs30.out (btr Hs32.out (btr Hs33.out (btr Hs36.out (btr Hs37.out (btr Hs40.out (btr Hs41.out (btr Hs44.out (btr Hs46.out (btr Hs48.out (btr Hs49.out Hs52.out)))))))))))))
    refine (mul_p hk Hz2.out.nk Hph0.out hk.gp.oG).mono ?_
    rintro e w53 ⟨r, rfl, hPa, hB⟩
    have Hs54 : Hid (Below w51.heap.size w51 w53) := hB
    obtain ⟨dx0, dy0, dx1, dx2, dy1, dy2, dX, dY, df, rfl, hpv⟩ := hPa.pv
    have Hpd0 : Hid (Pv w53 (.slice dx0 dx1 dx2) (.slice dy0 dy1 dy2) df dX dY (ml p (zV 32 h m) (.A gx gy))) := hpv
    clear hpv
    clear hPa hB
    have Hs55 : Hid (Below w53.heap.size w53 (w53.alloc (.cells #[.slice dx0 dx1 dx2, .slice dy0 dy1 dy2, .bool df] 41))) := alloc_below _ _
    have Hbd0 : Hid (Bl 41 (w53.alloc (.cells #[.slice dx0 dx1 dx2, .slice dy0 dy1 dy2, .bool df] 41)) w53.heap.size [.slice dx0 dx1 dx2, .slice dy0 dy1 dy2, .bool df]) := alloc_bl w53 [.slice dx0 dx1 dx2, .slice dy0 dy1 dy2, .bool df] 41
    have Hbq2 : Hid (Bl 41 (w53.alloc (.cells #[.slice dx0 dx1 dx2, .slice dy0 dy1 dy2, .bool df] 41)) w5.heap.size [.slice qx0 qx1 qx2, .slice qy0 qy1 qy2, .bool qf]) := Hbq1.out.below (btr Hs36.out (btr Hs37.out (btr Hs40.out (btr Hs41.out (btr Hs44.out (btr Hs46.out (btr Hs48.out (btr Hs49.out (btr Hs52.out (btr Hs54.out Hs55.out)))))))))) Hbq1.out.lt
    have kq_0 : (w53.alloc (.cells #[.slice dx0 dx1 dx2, .slice dy0 dy1 dy2, .bool df] 41)).cell? ⟨w5.heap.size, 0, none⟩ = some (.slice qx0 qx1 qx2) := Hbq2.out.cell 0 (by simp)
    have kq_1 : (w53.alloc (.cells #[.slice dx0 dx1 dx2, .slice dy0 dy1 dy2, .bool df] 41)).cell? ⟨w5.heap.size, 1, none⟩ = some (.slice qy0 qy1 qy2) := Hbq2.out.cell 1 (by simp)
    have kq_2 : (w53.alloc (.cells #[.slice dx0 dx1 dx2, .slice dy0 dy1 dy2, .bool df] 41)).cell? ⟨w5.heap.size, 2, none⟩ = some (.bool qf) := Hbq2.out.cell 2 (by simp)
    go_wp2_with fail
    clear kq_0 kq_1 kq_2
    generalize (w53.alloc (.cells #[.slice dx0 dx1 dx2, .slice dy0 dy1 dy2, .bool df] 41)) = wv56 at *
    have Hr4 : Hid (Mk wv56 0 (.slice r0 r1 r2) R 384) := Hr3.out.below (btr Hs46.out (btr Hs48.out (btr Hs49.out (btr Hs52.out (btr Hs54.out Hs55.out)))))
    have Hpq2 : Hid (Pv wv56 (.slice qx0 qx1 qx2) (.slice qy0 qy1 qy2) qf qX qY (.A (bv lx) (bv ly))) := Hpq1.out.below (btr Hs36.out (btr Hs37.out (btr Hs40.out (btr Hs41.out (btr Hs44.out (btr Hs46.out (btr Hs48.out (btr Hs49.out (btr Hs52.out (btr Hs54.out Hs55.out)))))))))) (Nat.le_refl _)
    refine (mul_p hk Hr4.out.nk Hpq2.out (decB_on hk HD.out.2)).mono ?_
    rintro e w57 ⟨r, rfl, hPa, hB⟩
    have Hs58 : Hid (Below wv56.heap.size wv56 w57) := hB
    obtain ⟨fx0, fy0, fx1, fx2, fy1, fy2, fX, fY, ff, rfl, hpv⟩ := hPa.pv
    have Hpf0 : Hid (Pv w57 (.slice fx0 fx1 fx2) (.slice fy0 fy1 fy2) ff fX fY (ml p R (.A (bv lx) (bv ly)))) := hpv
    clear hpv
    clear hPa hB
    have Hs59 : Hid (Below w57.heap.size w57 (w57.alloc (.cells #[.slice fx0 fx1 fx2, .slice fy0 fy1 fy2, .bool ff] 41))) := alloc_below _ _
    have Hbf0 : Hid (Bl 41 (w57.alloc (.cells #[.slice fx0 fx1 fx2, .slice fy0 fy1 fy2, .bool ff] 41)) w57.heap.size [.slice fx0 fx1 fx2, .slice fy0 fy1 fy2, .bool ff]) := alloc_bl w57 [.slice fx0 fx1 fx2, .slice fy0 fy1 fy2, .bool ff] 41
    have Hbd1 : Hid (Bl 41 (w57.alloc (.cells #[.slice fx0 fx1 fx2, .slice fy0 fy1 fy2, .bool ff] 41)) w53.heap.size [.slice dx0 dx1 dx2, .slice dy0 dy1 dy2, .bool df]) := Hbd0.out.below (btr Hs58.out Hs59.out) Hbd0.out.lt
    have kd_0 : (w57.alloc (.cells #[.slice fx0 fx1 fx2, .slice fy0 fy1 fy2, .bool ff] 41)).cell? ⟨w53.heap.size, 0, none⟩ = some (.slice dx0 dx1 dx2) := Hbd1.out.cell 0 (by simp)
    have kd_1 : (w57.alloc (.cells #[.slice fx0 fx1 fx2, .slice fy0 fy1 fy2, .bool ff] 41)).cell? ⟨w53.heap.size, 1, none⟩ = some (.slice dy0 dy1 dy2) := Hbd1.out.cell 1 (by simp)
    have kd_2 : (w57.alloc (.cells #[.slice fx0 fx1 fx2, .slice fy0 fy1 fy2, .bool ff] 41)).cell? ⟨w53.heap.size, 2, none⟩ = some (.bool df) := Hbd1.out.cell 2 (by simp)
    have kf_0 : (w57.alloc (.cells #[.slice fx0 fx1 fx2, .slice fy0 fy1 fy2, .bool ff] 41)).cell? ⟨w57.heap.size, 0, none⟩ = some (.slice fx0 fx1 fx2) := Hbf0.out.cell 0 (by simp)
    have kf_1 : (w57.alloc (.cells #[.slice fx0 fx1 fx2, .slice fy0 fy1 fy2, .bool ff] 41)).cell? ⟨w57.heap.size, 1, none⟩ = some (.slice fy0 fy1 fy2) := Hbf0.out.cell 1 (by simp)
    have kf_2 : (w57.alloc (.cells #[.slice fx0 fx1 fx2, .slice fy0 fy1 fy2, .bool ff] 41)).cell? ⟨w57.heap.size, 2, none⟩ = some (.bool ff) := Hbf0.out.cell 2 (by simp)
    go_wp2_with fail
    clear kd_0 kd_1 kd_2 kf_0 kf_1 kf_2
    generalize (w57.alloc (.cells #[.slice fx0 fx1 fx2, .slice fy0 fy1 fy2, .bool ff] 41)) = wv60 at *
    have Hpd1 : Hid (Pv wv60 (.slice dx0 dx1 dx2) (.slice dy0 dy1 dy2) df dX dY (ml p (zV 32 h m) (.A gx gy))) := Hpd0.out.below (btr Hs55.out (btr Hs58.out Hs59.out)) (Nat.le_refl _)
    have Hpf1 : Hid (Pv wv60 (.slice fx0 fx1 fx2) (.slice fy0 fy1 fy2) ff fX fY (ml p R (.A (bv lx) (bv ly)))) := Hpf0.out.below Hs59.out (Nat.le_refl _)
    refine (add_p hk Hpd1.out Hpf1.out (hk.cv.mon hk.gp.oG _) (hk.cv.mon (decB_on hk HD.out.2) _)).mono ?_
    rintro e w61 ⟨r, rfl, hPa, hB⟩
    have Hs62 : Hid (Below wv60.heap.size wv60 w61) := hB
    have Hpl1 : Hid (Pv w61 (.slice lx0 lx1 lx2) (.slice ly0 ly1 ly2) lf lX lY (sm p (ml p (zV 32 h m) (.A gx gy)) (ml p R (.A (bv lx) (bv ly))))) := Hpl0.out.below (btr Hs49.out (btr Hs52.out (btr Hs54.out (btr Hs55.out (btr Hs58.out (btr Hs59.out Hs62.out)))))) (Nat.le_refl _)
    obtain ⟨tx0, ty0, tx1, tx2, ty1, ty2, tX, tY, tf, rfl, hpv⟩ := hPa.pv
    obtain ⟨e1_, e2_, e3_⟩ := Hpl1.out.one hpv
    subst e1_
    subst e2_
    subst e3_
    have Hpt0 : Hid (Pv w61 (.slice tx0 tx1 tx2) (.slice ty0 ty1 ty2) lf lX lY (sm p (ml p (zV 32 h m) (.A gx gy)) (ml p R (.A (bv lx) (bv ly))))) := hpv
    clear hPa hB hpv
    have Hs63 : Hid (Below w61.heap.size w61 (w61.alloc (.cells #[.slice tx0 tx1 tx2, .slice ty0 ty1 ty2, .bool lf] 41))) := alloc_below _ _
    have Hbt0 : Hid (Bl 41 (w61.alloc (.cells #[.slice tx0 tx1 tx2, .slice ty0 ty1 ty2, .bool lf] 41)) w61.heap.size [.slice tx0 tx1 tx2, .slice ty0 ty1 ty2, .bool lf]) := alloc_bl w61 [.slice tx0 tx1 tx2, .slice ty0 ty1 ty2, .bool lf] 41
    have hff : (lf == lf) = true := by simp
    have Hbl1 : Hid (Bl 41 (w61.alloc (.cells #[.slice tx0 tx1 tx2, .slice ty0 ty1 ty2, .bool lf] 41)) w47.heap.size [.slice lx0 lx1 lx2, .slice ly0 ly1 ly2, .bool lf]) := Hbl0.out.below (btr Hs52.out (btr Hs54.out (btr Hs55.out (btr Hs58.out (btr Hs59.out (btr Hs62.out Hs63.out)))))) Hbl0.out.lt
    have kl_0 : (w61.alloc (.cells #[.slice tx0 tx1 tx2, .slice ty0 ty1 ty2, .bool lf] 41)).cell? ⟨w47.heap.size, 0, none⟩ = some (.slice lx0 lx1 lx2) := Hbl1.out.cell 0 (by simp)
    have kl_1 : (w61.alloc (.cells #[.slice tx0 tx1 tx2, .slice ty0 ty1 ty2, .bool lf] 41)).cell? ⟨w47.heap.size, 1, none⟩ = some (.slice ly0 ly1 ly2) := Hbl1.out.cell 1 (by simp)
    have kl_2 : (w61.alloc (.cells #[.slice tx0 tx1 tx2, .slice ty0 ty1 ty2, .bool lf] 41)).cell? ⟨w47.heap.size, 2, none⟩ = some (.bool lf) := Hbl1.out.cell 2 (by simp)
    have kt_0 : (w61.alloc (.cells #[.slice tx0 tx1 tx2, .slice ty0 ty1 ty2, .bool lf] 41)).cell? ⟨w61.heap.size, 0, none⟩ = some (.slice tx0 tx1 tx2) := Hbt0.out.cell 0 (by simp)
    have kt_1 : (w61.alloc (.cells #[.slice tx0 tx1 tx2, .slice ty0 ty1 ty2, .bool lf] 41)).cell? ⟨w61.heap.size, 1, none⟩ = some (.slice ty0 ty1 ty2) := Hbt0.out.cell 1 (by simp)
    have kt_2 : (w61.alloc (.cells #[.slice tx0 tx1 tx2, .slice ty0 ty1 ty2, .bool lf] 41)).cell? ⟨w61.heap.size, 2, none⟩ = some (.bool lf) := Hbt0.out.cell 2 (by simp)
    go_wp2_with fail
    clear kl_0 kl_1 kl_2 kt_0 kt_1 kt_2
    generalize (w61.alloc (.cells #[.slice tx0 tx1 tx2, .slice ty0 ty1 ty2, .bool lf] 41)) = wv64 at *
    have Hpl2 : Hid (Pv wv64 (.slice lx0 lx1 lx2) (.slice ly0 ly1 ly2) lf lX lY (sm p (ml p (zV 32 h m) (.A gx gy)) (ml p R (.A (bv lx) (bv ly))))) := Hpl1.out.below Hs63.out (Nat.le_refl _)
    have Hpt1 : Hid (Pv wv64 (.slice tx0 tx1 tx2) (.slice ty0 ty1 ty2) lf lX lY (sm p (ml p (zV 32 h m) (.A gx gy)) (ml p R (.A (bv lx) (bv ly))))) := Hpt0.out.below Hs63.out (Nat.le_refl _)
    refine (same_mk Hpl2.out.mx Hpt1.out.mx).mono ?_
    rintro e w65 ⟨rfl, q_, hq_⟩
    have Hs66 : Hid (Below wv64.heap.size wv64 w65) := (by rw [hq_]; exact below_drewN (Below.refl _ _) q_ : Below _ _ _)
    clear hq_ q_
    have Hbl2 : Hid (Bl 41 w65 w47.heap.size [.slice lx0 lx1 lx2, .slice ly0 ly1 ly2, .bool lf]) := Hbl1.out.below Hs66.out Hbl1.out.lt
    have kl_0 : w65.cell? ⟨w47.heap.size, 0, none⟩ = some (.slice lx0 lx1 lx2) := Hbl2.out.cell 0 (by simp)
    have kl_1 : w65.cell? ⟨w47.heap.size, 1, none⟩ = some (.slice ly0 ly1 ly2) := Hbl2.out.cell 1 (by simp)
    have kl_2 : w65.cell? ⟨w47.heap.size, 2, none⟩ = some (.bool lf) := Hbl2.out.cell 2 (by simp)
    have Hbt1 : Hid (Bl 41 w65 w61.heap.size [.slice tx0 tx1 tx2, .slice ty0 ty1 ty2, .bool lf]) := Hbt0.out.below Hs66.out Hbt0.out.lt
    have kt_0 : w65.cell? ⟨w61.heap.size, 0, none⟩ = some (.slice tx0 tx1 tx2) := Hbt1.out.cell 0 (by simp)
    have kt_1 : w65.cell? ⟨w61.heap.size, 1, none⟩ = some (.slice ty0 ty1 ty2) := Hbt1.out.cell 1 (by simp)
    have kt_2 : w65.cell? ⟨w61.heap.size, 2, none⟩ = some (.bool lf) := Hbt1.out.cell 2 (by simp)
    go_wp2_with fail
    clear kl_0 kl_1 kl_2 kt_0 kt_1 kt_2
    have Hpl3 : Hid (Pv w65 (.slice lx0 lx1 lx2) (.slice ly0 ly1 ly2) lf lX lY (sm p (ml p (zV 32 h m) (.A gx gy)) (ml p R (.A (bv lx) (bv ly))))) := Hpl2.out.below Hs66.out (Nat.le_refl _)
    have Hpt2 : Hid (Pv w65 (.slice tx0 tx1 tx2) (.slice ty0 ty1 ty2) lf lX lY (sm p (ml p (zV 32 h m) (.A gx gy)) (ml p R (.A (bv lx) (bv ly))))) := Hpt1.out.below Hs66.out (Nat.le_refl _)
    refine (same_mk Hpl3.out.my Hpt2.out.my).mono ?_
    rintro e w67 ⟨rfl, q_, hq_⟩
    have Hs68 : Hid (Below w65.heap.size w65 w67) := (by rw [hq_]; exact below_drewN (Below.refl _ _) q_ : Below _ _ _)
    clear hq_ q_
    have HB1 : Hid (Below w.heap.size w w67) := HB0.out.trans ((btr Hs2.out (btr Hs4.out (btr Hs6.out (btr Hs7.out (btr Hs10.out (btr Hs12.out (btr Hs14.out (btr Hs16.out (btr Hs18.out (btr Hs20.out (btr Hs22.out (btr Hs24.out (btr Hs26.out (btr Hs28.out (btr Hs30.out (btr Hs32.out (btr Hs33.out (btr Hs36.out (btr Hs37.out (btr Hs40.out (btr Hs41.out (btr Hs44.out (btr Hs46.out (btr Hs48.out (btr Hs49.out (btr Hs52.out (btr Hs54.out (btr Hs55.out (btr Hs58.out (btr Hs59.out (btr Hs62.out (btr Hs63.out (btr Hs66.out Hs68.out))))))))))))))))))))))))))))))))).mono HB0.out.size)
    go_wp2
    go_ret
    exact ⟨rfl, HB1.out⟩
set_option maxHeartbeats 40000000 in
theorem eq_len48 {c : Int} {p b n gx gy : Nat} (hk : Kv c p b n gx gy 48) (h : Int) (ax ay am ag : Option Addr) (cx cy cm cg : Nat) (lx ly m sg : List UInt8) (w : World) (T : Sha.Tb w) (hx : Rd w ax lx) (hy : Rd w ay ly) (hm : Rd w am m) (hg : Rd w ag sg) (l1 : lx.length ≤ 100000000) (l2 : ly.length ≤ 100000000) (l3 : m.length ≤ 100000000) (l4 : sg.length ≤ cg) (c3 : m.length ≤ cm ∧ cm ≤ 9223372036854775807) (h0 : Sha.siz h ≠ 0) (hd : decB p b 48 lx ly = true) (hl : sg.length ≠ 96) :
    Calls Tryz.prog 6 #[.int .i64 h, .int .i64 c, .slice ax lx.length cx, .slice ay ly.length cy, .slice am m.length cm, .slice ag sg.length cg] w fun e w' => e = .returned (.bool true) ∧ Below w.heap.size w w' := by
  have HT0 : Hid (Sha.Tb w) := T
  have Hx0 : Hid (Rd w ax lx) := hx
  have Hy0 : Hid (Rd w ay ly) := hy
  have Hm0 : Hid (Rd w am m) := hm
  have Hg0 : Hid (Rd w ag sg) := hg
  have HB0 : Hid (Below w.heap.size w w) := Below.refl _ _
  have HLn : Hid (lx.length ≤ 100000000 ∧ ly.length ≤ 100000000 ∧ m.length ≤ 100000000 ∧ sg.length ≤ cg ∧ m.length ≤ cm ∧ cm ≤ 9223372036854775807) := ⟨l1, l2, l3, l4, c3⟩
  clear T hx hy hm hg l1 l2 l3 l4 c3
  go_enter Tryz.func6, Tryz.ntmps6
  go_wp2_with fail
  refine (awake12_v _ HT0.out).mono ?_
  rintro e w1 ⟨rfl, hB⟩
  have Hs2 : Hid (Below w.heap.size w w1) := hB
  clear hB
  go_wp2_with fail
  have HT1 : Hid (Sha.Tb w1) := HT0.out.below Hs2.out
  have Hx1 : Hid (Rd w1 ax lx) := Hx0.out.below Hs2.out (Nat.le_refl _)
  have Hy1 : Hid (Rd w1 ay ly) := Hy0.out.below Hs2.out (Nat.le_refl _)
  have Hm1 : Hid (Rd w1 am m) := Hm0.out.below Hs2.out (Nat.le_refl _)
  have Hg1 : Hid (Rd w1 ag sg) := Hg0.out.below Hs2.out (Nat.le_refl _)
  refine (ver_len hk h ax ay am ag cx cy cm cg lx ly m sg _ HT1.out Hx1.out Hy1.out Hm1.out Hg1.out HLn.out.1 HLn.out.2.1 HLn.out.2.2.1 HLn.out.2.2.2.1 HLn.out.2.2.2.2 h0 hd (by omega)).mono ?_
  rintro e w3 ⟨rfl, hB⟩
  have Hs4 : Hid (Below w1.heap.size w1 w3) := hB
  clear hB
  go_wp2_with fail
  have CS := fun w => Sha.size_any h w
  have hz0 : (((Sha.siz h : Nat) : Int) == 0) = false := by have := h0; simp; omega
  generalize Sha.siz h = zs at CS hz0
  refine (CS _).mono ?_
  clear CS
  rintro e w3 ⟨rfl, rfl⟩
  go_wp2_with fail
  have Hx2 : Hid (Rd w3 ax lx) := Hx1.out.below Hs4.out (Nat.le_refl _)
  have Hy2 : Hid (Rd w3 ay ly) := Hy1.out.below Hs4.out (Nat.le_refl _)
  refine (decode_good hk ax ay cx cy lx ly _ Hx2.out Hy2.out HLn.out.1 HLn.out.2.1 hd).mono ?_
  rintro e w5 ⟨r, rfl, hPa⟩
  have Hs6 : Hid (Below w3.heap.size w3 w5) := hPa.bel
  obtain ⟨qx0, qy0, qx1, qx2, qy1, qy2, qX, qY, qf, rfl, hpv⟩ := hPa.pv
  have Hpq0 : Hid (Pv w5 (.slice qx0 qx1 qx2) (.slice qy0 qy1 qy2) qf qX qY (.A (bv lx) (bv ly))) := hpv
  clear hpv
  clear hPa
  have Hs7 : Hid (Below w5.heap.size w5 (w5.alloc (.cells #[.slice qx0 qx1 qx2, .slice qy0 qy1 qy2, .bool qf] 41))) := alloc_below _ _
  have Hbq0 : Hid (Bl 41 (w5.alloc (.cells #[.slice qx0 qx1 qx2, .slice qy0 qy1 qy2, .bool qf] 41)) w5.heap.size [.slice qx0 qx1 qx2, .slice qy0 qy1 qy2, .bool qf]) := alloc_bl w5 [.slice qx0 qx1 qx2, .slice qy0 qy1 qy2, .bool qf] 41
  go_wp2_with fail
  generalize (w5.alloc (.cells #[.slice qx0 qx1 qx2, .slice qy0 qy1 qy2, .bool qf] 41)) = wv8 at *
  refine (size_v hk _).mono ?_
  rintro e w9 ⟨rfl, hB⟩
  have Hs10 : Hid (Below wv8.heap.size wv8 w9) := hB
  clear hB
  have hln : (((sg.length : Nat) : Int) != 96) = true := bne_iff_ne.2 (by omega)
  go_wp2_with fail
  refine (order_v hk _).mono ?_
  rintro e w11 ⟨nv, rfl, mN, hB⟩
  have Hs12 : Hid (Below w9.heap.size w9 w11) := hB
  obtain ⟨n0, n1, n2, rfl⟩ := mN.nk.sl
  have Hn0 : Hid (Mk w11 0 (.slice n0 n1 n2) n 384) := mN.base (Nat.zero_le _)
  clear mN hB
  have HB1 : Hid (Below w.heap.size w w11) := HB0.out.trans ((btr Hs2.out (btr Hs4.out (btr Hs6.out (btr Hs7.out (btr Hs10.out Hs12.out))))).mono HB0.out.size)
  go_wp2
  go_ret
  exact ⟨rfl, HB1.out⟩
set_option maxHeartbeats 40000000 in
theorem eq_in48 {c : Int} {p b n gx gy : Nat} (hk : Kv c p b n gx gy 48) (h : Int) (ax ay am ag : Option Addr) (cx cy cm cg : Nat) (lx ly m sg : List UInt8) (w : World) (T : Sha.Tb w) (hx : Rd w ax lx) (hy : Rd w ay ly) (hm : Rd w am m) (hg : Rd w ag sg) (l1 : lx.length ≤ 100000000) (l2 : ly.length ≤ 100000000) (l3 : m.length ≤ 100000000) (l4 : sg.length ≤ cg) (c3 : m.length ≤ cm ∧ cm ≤ 9223372036854775807) (h0 : Sha.siz h ≠ 0) (hd : decB p b 48 lx ly = true) (hl : sg.length = 96) :
    Calls Tryz.prog 6 #[.int .i64 h, .int .i64 c, .slice ax lx.length cx, .slice ay ly.length cy, .slice am m.length cm, .slice ag 96 cg] w fun e w' => e = .returned (.bool true) ∧ Below w.heap.size w w' := by
  have Hl : Hid (sg.length = 96) := hl
  have hcg : 96 ≤ cg := hl ▸ l4
  have HD : Hid (Sha.siz h ≠ 0 ∧ decB p b 48 lx ly = true) := ⟨h0, hd⟩
  obtain ⟨g, off, rfl⟩ : ∃ g off : Nat, ag = some ⟨g, off, none⟩ := by
    rcases hg with h | ⟨g, off, e, _⟩
    · subst h; simp at hl
    · exact ⟨g, off, e⟩
  have HT0 : Hid (Sha.Tb w) := T
  have Hx0 : Hid (Rd w ax lx) := hx
  have Hy0 : Hid (Rd w ay ly) := hy
  have Hm0 : Hid (Rd w am m) := hm
  have Hg0 : Hid (Rd w (some ⟨g, off, none⟩) sg) := hg
  have HB0 : Hid (Below w.heap.size w w) := Below.refl _ _
  have HLn : Hid (lx.length ≤ 100000000 ∧ ly.length ≤ 100000000 ∧ m.length ≤ 100000000 ∧ sg.length ≤ cg ∧ m.length ≤ cm ∧ cm ≤ 9223372036854775807) := ⟨l1, l2, l3, l4, c3⟩
  clear T hx hy hm hg l1 l2 l3 l4 c3
  go_enter Tryz.func6, Tryz.ntmps6
  go_wp2_with fail
  refine (awake12_v _ HT0.out).mono ?_
  rintro e w1 ⟨rfl, hB⟩
  have Hs2 : Hid (Below w.heap.size w w1) := hB
  clear hB
  clear hl
  go_wp2_with fail
  have HT1 : Hid (Sha.Tb w1) := HT0.out.below Hs2.out
  have Hx1 : Hid (Rd w1 ax lx) := Hx0.out.below Hs2.out (Nat.le_refl _)
  have Hy1 : Hid (Rd w1 ay ly) := Hy0.out.below Hs2.out (Nat.le_refl _)
  have Hm1 : Hid (Rd w1 am m) := Hm0.out.below Hs2.out (Nat.le_refl _)
  have Hg1 : Hid (Rd w1 (some ⟨g, off, none⟩) sg) := Hg0.out.below Hs2.out (Nat.le_refl _)
  have C := verify_v hk h ax ay am _ cx cy cm _ lx ly m sg _ HT1.out Hx1.out Hy1.out Hm1.out Hg1.out HLn.out.1 HLn.out.2.1 HLn.out.2.2.1 HLn.out.2.2.2.1 HLn.out.2.2.2.2
  obtain ⟨z, Hz⟩ : ∃ z, Hid (z = verV p b n (.A gx gy) 48 h lx ly m sg) := ⟨_, rfl⟩
  rw [← Hz.out, Hl.out] at C
  refine (C).mono ?_
  rintro e w3 ⟨rfl, hB⟩
  have Hs4 : Hid (Below w1.heap.size w1 w3) := hB
  clear hB C
  go_wp2_with fail
  have CS := fun w => Sha.size_any h w
  have hz0 : (((Sha.siz h : Nat) : Int) == 0) = false := by have := h0; simp; omega
  generalize Sha.siz h = zs at CS hz0
  refine (CS _).mono ?_
  clear CS
  rintro e w3 ⟨rfl, rfl⟩
  go_wp2_with fail
  have Hx2 : Hid (Rd w3 ax lx) := Hx1.out.below Hs4.out (Nat.le_refl _)
  have Hy2 : Hid (Rd w3 ay ly) := Hy1.out.below Hs4.out (Nat.le_refl _)
  refine (decode_good hk ax ay cx cy lx ly _ Hx2.out Hy2.out HLn.out.1 HLn.out.2.1 hd).mono ?_
  rintro e w5 ⟨r, rfl, hPa⟩
  have Hs6 : Hid (Below w3.heap.size w3 w5) := hPa.bel
  obtain ⟨qx0, qy0, qx1, qx2, qy1, qy2, qX, qY, qf, rfl, hpv⟩ := hPa.pv
  have Hpq0 : Hid (Pv w5 (.slice qx0 qx1 qx2) (.slice qy0 qy1 qy2) qf qX qY (.A (bv lx) (bv ly))) := hpv
  clear hpv
  clear hPa
  have Hs7 : Hid (Below w5.heap.size w5 (w5.alloc (.cells #[.slice qx0 qx1 qx2, .slice qy0 qy1 qy2, .bool qf] 41))) := alloc_below _ _
  have Hbq0 : Hid (Bl 41 (w5.alloc (.cells #[.slice qx0 qx1 qx2, .slice qy0 qy1 qy2, .bool qf] 41)) w5.heap.size [.slice qx0 qx1 qx2, .slice qy0 qy1 qy2, .bool qf]) := alloc_bl w5 [.slice qx0 qx1 qx2, .slice qy0 qy1 qy2, .bool qf] 41
  go_wp2_with fail
  generalize (w5.alloc (.cells #[.slice qx0 qx1 qx2, .slice qy0 qy1 qy2, .bool qf] 41)) = wv8 at *
  refine (size_v hk _).mono ?_
  rintro e w9 ⟨rfl, hB⟩
  have Hs10 : Hid (Below wv8.heap.size wv8 w9) := hB
  clear hB
  go_wp2_with fail
  refine (order_v hk _).mono ?_
  rintro e w11 ⟨nv, rfl, mN, hB⟩
  have Hs12 : Hid (Below w9.heap.size w9 w11) := hB
  obtain ⟨n0, n1, n2, rfl⟩ := mN.nk.sl
  have Hn0 : Hid (Mk w11 0 (.slice n0 n1 n2) n 384) := mN.base (Nat.zero_le _)
  clear mN hB
  have HLk : Hid ((sg.take 48).length = 48 ∧ (sg.drop 48).length = 48) := ⟨by simp [Hl.out], by simp [Hl.out]⟩
  obtain ⟨R, HR⟩ : ∃ V, Hid (V = bv (sg.take 48)) := ⟨_, rfl⟩
  obtain ⟨S, HS⟩ : ∃ V, Hid (V = bv (sg.drop 48)) := ⟨_, rfl⟩
  have Hg2 : Hid (Rd w11 (some ⟨g, off, none⟩) sg) := Hg1.out.below (btr Hs4.out (btr Hs6.out (btr Hs7.out (btr Hs10.out Hs12.out)))) (Nat.le_refl _)
  go_wp2_with fail
  refine (from_e (rd_take Hg2.out 48) HLk.out.1 (by decide) HR.out).mono ?_
  rintro e w13 ⟨rv, rfl, hh⟩
  have Hs14 : Hid (Below w11.heap.size w11 w13) := hh.bel
  obtain ⟨r0, r1, r2, rfl⟩ := hh.sl
  have Hr0 : Hid (Mk w13 0 (.slice r0 r1 r2) R 384) := hh.mk.base (Nat.zero_le _)
  clear hh
  have Hg3 : Hid (Rd w13 (some ⟨g, off, none⟩) sg) := Hg2.out.below Hs14.out (Nat.le_refl _)
  go_wp2_with fail
  refine (from_e (rd_drop Hg3.out 48) HLk.out.2 (by decide) HS.out).mono ?_
  rintro e w15 ⟨tv, rfl, hh⟩
  have Hs16 : Hid (Below w13.heap.size w13 w15) := hh.bel
  obtain ⟨t0, t1, t2, rfl⟩ := hh.sl
  have Ht0 : Hid (Mk w15 0 (.slice t0 t1 t2) S 384) := hh.mk.base (Nat.zero_le _)
  clear hh
  obtain ⟨bR, HbR⟩ : ∃ z : Int, Hid (z = ((bl R : Nat) : Int)) := ⟨_, rfl⟩
  go_wp2_with fail
  have Hr1 : Hid (Mk w15 0 (.slice r0 r1 r2) R 384) := Hr0.out.below Hs16.out
  have C := bits_p Hr1.out.nk.1
  rw [← HbR.out] at C
  refine C.mono ?_
  clear C
  rintro e w15 ⟨rfl, rfl⟩
  by_cases hR0 : 0 < R
  rotate_left
  · have hz : (bR == 0) = true := by rw [HbR.out, bl_is0, decide_eq_true hR0]
    have HX : Hid (¬ ((0 < R ∧ R < n) ∧ 0 < S ∧ S < n)) := fun h => hR0 h.1.1
    obtain rfl : z = 91 := by rw [Hz.out]; exact ver_91 hk HD.out.1 HD.out.2 (fun h => HX.out (by rw [HR.out, HS.out]; exact h.2))
    have HB1 : Hid (Below w.heap.size w w15) := HB0.out.trans ((btr Hs2.out (btr Hs4.out (btr Hs6.out (btr Hs7.out (btr Hs10.out (btr Hs12.out (btr Hs14.out Hs16.out))))))).mono HB0.out.size)
    go_wp2
    go_ret
    exact ⟨rfl, HB1.out⟩
  have hzR : (bR == 0) = false := by rw [HbR.out, bl_is0, decide_eq_false (not_not_intro hR0)]
  obtain ⟨bS, HbS⟩ : ∃ z : Int, Hid (z = ((bl S : Nat) : Int)) := ⟨_, rfl⟩
  go_wp2_with fail
  have C := bits_p Ht0.out.nk.1
  rw [← HbS.out] at C
  refine C.mono ?_
  clear C
  rintro e w15 ⟨rfl, rfl⟩
  by_cases hS0 : 0 < S
  rotate_left
  · have hz : (bS == 0) = true := by rw [HbS.out, bl_is0, decide_eq_true hS0]
    have HX : Hid (¬ ((0 < R ∧ R < n) ∧ 0 < S ∧ S < n)) := fun h => hS0 h.2.1
    obtain rfl : z = 91 := by rw [Hz.out]; exact ver_91 hk HD.out.1 HD.out.2 (fun h => HX.out (by rw [HR.out, HS.out]; exact h.2))
    have HB1 : Hid (Below w.heap.size w w15) := HB0.out.trans ((btr Hs2.out (btr Hs4.out (btr Hs6.out (btr Hs7.out (btr Hs10.out (btr Hs12.out (btr Hs14.out Hs16.out))))))).mono HB0.out.size)
    go_wp2
    go_ret
    exact ⟨rfl, HB1.out⟩
  have hzS : (bS == 0) = false := by rw [HbS.out, bl_is0, decide_eq_false (not_not_intro hS0)]
  obtain ⟨cR, HcR⟩ : ∃ z : Int, Hid (z = cmp3 (R : Int) (n : Int)) := ⟨_, rfl⟩
  go_wp2_with fail
  have Hn1 : Hid (Mk w15 0 (.slice n0 n1 n2) n 384) := Hn0.out.below (btr Hs14.out Hs16.out)
  have C := vcmp _ _ R n _ _ _ Hr1.out.nk.1 Hn1.out.nk.1 (by decide) (by decide)
  rw [← HcR.out] at C
  refine (C).mono ?_
  rintro e w17 ⟨rfl, q_, hq_⟩
  have Hs18 : Hid (Below w15.heap.size w15 w17) := (by rw [hq_]; exact below_drewN (Below.refl _ _) q_ : Below _ _ _)
  clear hq_ q_
  clear C
  by_cases hRn : R < n
  rotate_left
  · have hz : decide (cR ≥ 0) = true := by rw [HcR.out, cmp_ge, decide_eq_true hRn]
    have hz' : (0 : Int) ≤ cR := of_decide_eq_true hz
    have HX : Hid (¬ ((0 < R ∧ R < n) ∧ 0 < S ∧ S < n)) := fun h => hRn h.1.2
    obtain rfl : z = 91 := by rw [Hz.out]; exact ver_91 hk HD.out.1 HD.out.2 (fun h => HX.out (by rw [HR.out, HS.out]; exact h.2))
    have HB1 : Hid (Below w.heap.size w w17) := HB0.out.trans ((btr Hs2.out (btr Hs4.out (btr Hs6.out (btr Hs7.out (btr Hs10.out (btr Hs12.out (btr Hs14.out (btr Hs16.out Hs18.out)))))))).mono HB0.out.size)
    go_wp2
    go_ret
    exact ⟨rfl, HB1.out⟩
  have hyR : decide (cR ≥ 0) = false := by rw [HcR.out, cmp_ge, decide_eq_false (not_not_intro hRn)]
  have hwR : ¬ (0 : Int) ≤ cR := of_decide_eq_false hyR
  obtain ⟨cS, HcS⟩ : ∃ z : Int, Hid (z = cmp3 (S : Int) (n : Int)) := ⟨_, rfl⟩
  go_wp2_with fail
  have Ht1 : Hid (Mk w17 0 (.slice t0 t1 t2) S 384) := Ht0.out.below Hs18.out
  have Hn2 : Hid (Mk w17 0 (.slice n0 n1 n2) n 384) := Hn1.out.below Hs18.out
  have C := vcmp _ _ S n _ _ _ Ht1.out.nk.1 Hn2.out.nk.1 (by decide) (by decide)
  rw [← HcS.out] at C
  refine (C).mono ?_
  rintro e w19 ⟨rfl, q_, hq_⟩
  have Hs20 : Hid (Below w17.heap.size w17 w19) := (by rw [hq_]; exact below_drewN (Below.refl _ _) q_ : Below _ _ _)
  clear hq_ q_
  clear C
  by_cases hSn : S < n
  rotate_left
  · have hz : decide (cS ≥ 0) = true := by rw [HcS.out, cmp_ge, decide_eq_true hSn]
    have hz' : (0 : Int) ≤ cS := of_decide_eq_true hz
    have HX : Hid (¬ ((0 < R ∧ R < n) ∧ 0 < S ∧ S < n)) := fun h => hSn h.2.2
    obtain rfl : z = 91 := by rw [Hz.out]; exact ver_91 hk HD.out.1 HD.out.2 (fun h => HX.out (by rw [HR.out, HS.out]; exact h.2))
    have HB1 : Hid (Below w.heap.size w w19) := HB0.out.trans ((btr Hs2.out (btr Hs4.out (btr Hs6.out (btr Hs7.out (btr Hs10.out (btr Hs12.out (btr Hs14.out (btr Hs16.out (btr Hs18.out Hs20.out))))))))).mono HB0.out.size)
    go_wp2
    go_ret
    exact ⟨rfl, HB1.out⟩
  have hyS : decide (cS ≥ 0) = false := by rw [HcS.out, cmp_ge, decide_eq_false (not_not_intro hSn)]
  have hwS : ¬ (0 : Int) ≤ cS := of_decide_eq_false hyS
  have HRn : Hid (0 < R ∧ R < n) := ⟨hR0, hRn⟩
  have HSn : Hid (0 < S ∧ S < n) := ⟨hS0, hSn⟩
  go_wp2_with fail
  have HT2 : Hid (Sha.Tb w19) := HT1.out.below (btr Hs4.out (btr Hs6.out (btr Hs7.out (btr Hs10.out (btr Hs12.out (btr Hs14.out (btr Hs16.out (btr Hs18.out Hs20.out))))))))
  have Hm2 : Hid (Rd w19 am m) := Hm1.out.below (btr Hs4.out (btr Hs6.out (btr Hs7.out (btr Hs10.out (btr Hs12.out (btr Hs14.out (btr Hs16.out (btr Hs18.out Hs20.out)))))))) (Nat.le_refl _)
  refine (lnumber_v hk h am cm m _ HT2.out Hm2.out HLn.out.2.2.2.2.1 HLn.out.2.2.2.2.2 (by have := HLn.out.2.2.1; omega)).mono ?_
  rintro e w21 ⟨zv, rfl, mz, hB⟩
  have Hs22 : Hid (Below w19.heap.size w19 w21) := hB
  obtain ⟨z0, z1, z2, rfl⟩ := mz.nk.sl
  have Hz0 : Hid (Mk w21 0 (.slice z0 z1 z2) (zV 48 h m) 384) := mz.base (Nat.zero_le _)
  clear mz hB
  go_wp2_with fail
  have Ht2 : Hid (Mk w21 0 (.slice t0 t1 t2) S 384) := Ht1.out.below (btr Hs20.out Hs22.out)
  have Hn3 : Hid (Mk w21 0 (.slice n0 n1 n2) n 384) := Hn2.out.below (btr Hs20.out Hs22.out)
  refine (invn_v hk _ _ S _ Ht2.out.nk.1 Hn3.out.nk.1 HSn.out.1 HSn.out.2).mono ?_
  rintro e w23 ⟨iv, rfl, hh⟩
  have Hs24 : Hid (Below w21.heap.size w21 w23) := hh.bel
  obtain ⟨i0, i1, i2, rfl⟩ := hh.sl
  have Hi0 : Hid (Nk w23 (.slice i0 i1 i2) (iv n S) 384) := hh.nb
  clear hh
  go_wp2_with fail
  have Hz1 : Hid (Mk w23 0 (.slice z0 z1 z2) (zV 48 h m) 384) := Hz0.out.below Hs24.out
  have Hn4 : Hid (Mk w23 0 (.slice n0 n1 n2) n 384) := Hn3.out.below Hs24.out
  refine (muln_v hk _ _ _ (zV 48 h m) (iv n S) _ Hz1.out.nk Hi0.out Hn4.out.nk.1).mono ?_
  rintro e w25 ⟨uv, rfl, hh⟩
  have Hs26 : Hid (Below w23.heap.size w23 w25) := hh.bel
  obtain ⟨u0, u1, u2, rfl⟩ := hh.sl
  have Hu0 : Hid (Nk w25 (.slice u0 u1 u2) ((zV 48 h m) * iv n S % n) 384) := hh.nb
  clear hh
  go_wp2_with fail
  have Hr2 : Hid (Mk w25 0 (.slice r0 r1 r2) R 384) := Hr1.out.below (btr Hs18.out (btr Hs20.out (btr Hs22.out (btr Hs24.out Hs26.out))))
  have Hi1 : Hid (Nk w25 (.slice i0 i1 i2) (iv n S) 384) := Hi0.out.below Hs26.out (Nat.le_refl _)
  have Hn5 : Hid (Mk w25 0 (.slice n0 n1 n2) n 384) := Hn4.out.below Hs26.out
  refine (muln_v hk _ _ _ R (iv n S) _ Hr2.out.nk Hi1.out Hn5.out.nk.1).mono ?_
  rintro e w27 ⟨vv, rfl, hh⟩
  have Hs28 : Hid (Below w25.heap.size w25 w27) := hh.bel
  obtain ⟨v0, v1, v2, rfl⟩ := hh.sl
  have Hv0 : Hid (Nk w27 (.slice v0 v1 v2) (R * iv n S % n) 384) := hh.nb
  clear hh
  go_wp2_with fail
  refine (base_v hk _).mono ?_
  rintro e w29 ⟨r, rfl, hPa⟩
  have Hs30 : Hid (Below w27.heap.size w27 w29) := hPa.bel
  obtain ⟨gx0, gy0, gx1, gx2, gy1, gy2, gX, gY, gf, rfl, hpv⟩ := hPa.pv
  have Hpg0 : Hid (Pv w29 (.slice gx0 gx1 gx2) (.slice gy0 gy1 gy2) gf gX gY (.A gx gy)) := hpv
  clear hpv
  clear hPa
  go_wp2_with fail
  have Hu1 : Hid (Nk w29 (.slice u0 u1 u2) ((zV 48 h m) * iv n S % n) 384) := Hu0.out.below (btr Hs28.out Hs30.out) (Nat.le_refl _)
  refine (mul_p hk Hu1.out Hpg0.out hk.gp.oG).mono ?_
  rintro e w31 ⟨r, rfl, hPa, hB⟩
  have Hs32 : Hid (Below w29.heap.size w29 w31) := hB
  obtain ⟨ax0, ay0, ax1, ax2, ay1, ay2, aX, aY, af, rfl, hpv⟩ := hPa.pv
  have Hpa0 : Hid (Pv w31 (.slice ax0 ax1 ax2) (.slice ay0 ay1 ay2) af aX aY (ml p ((zV 48 h m) * iv n S % n) (.A gx gy))) := hpv
  clear hpv
  clear hPa hB
  have Hs33 : Hid (Below w31.heap.size w31 (w31.alloc (.cells #[.slice ax0 ax1 ax2, .slice ay0 ay1 ay2, .bool af] 41))) := alloc_below _ _
  have Hba0 : Hid (Bl 41 (w31.alloc (.cells #[.slice ax0 ax1 ax2, .slice ay0 ay1 ay2, .bool af] 41)) w31.heap.size [.slice ax0 ax1 ax2, .slice ay0 ay1 ay2, .bool af]) := alloc_bl w31 [.slice ax0 ax1 ax2, .slice ay0 ay1 ay2, .bool af] 41
  have Hbq1 : Hid (Bl 41 (w31.alloc (.cells #[.slice ax0 ax1 ax2, .slice ay0 ay1 ay2, .bool af] 41)) w5.heap.size [.slice qx0 qx1 qx2, .slice qy0 qy1 qy2, .bool qf]) := Hbq0.out.below (btr Hs10.out (btr Hs12.out (btr Hs14.out (btr Hs16.out (btr Hs18.out (btr Hs20.out (btr Hs22.out (btr Hs24.out (btr Hs26.out (btr Hs28.out (btr Hs30.out (btr Hs32.out Hs33.out)))))))))))) Hbq0.out.lt
  have kq_0 : (w31.alloc (.cells #[.slice ax0 ax1 ax2, .slice ay0 ay1 ay2, .bool af] 41)).cell? ⟨w5.heap.size, 0, none⟩ = some (.slice qx0 qx1 qx2) := Hbq1.out.cell 0 (by simp)
  have kq_1 : (w31.alloc (.cells #[.slice ax0 ax1 ax2, .slice ay0 ay1 ay2, .bool af] 41)).cell? ⟨w5.heap.size, 1, none⟩ = some (.slice qy0 qy1 qy2) := Hbq1.out.cell 1 (by simp)
  have kq_2 : (w31.alloc (.cells #[.slice ax0 ax1 ax2, .slice ay0 ay1 ay2, .bool af] 41)).cell? ⟨w5.heap.size, 2, none⟩ = some (.bool qf) := Hbq1.out.cell 2 (by simp)
  go_wp2_with fail
  clear kq_0 kq_1 kq_2
  generalize (w31.alloc (.cells #[.slice ax0 ax1 ax2, .slice ay0 ay1 ay2, .bool af] 41)) = wv34 at *
  have Hv1 : Hid (Nk wv34 (.slice v0 v1 v2) (R * iv n S % n) 384) := Hv0.out.below (btr Hs30.out (btr Hs32.out Hs33.out)) (Nat.le_refl _)
  have Hpq1 : Hid (Pv wv34 (.slice qx0 qx1 qx2) (.slice qy0 qy1 qy2) qf qX qY (.A (bv lx) (bv ly))) := Hpq0.out.below (btr Hs7.out (btr Hs10.out (btr Hs12.out (btr Hs14.out (btr Hs16.out (btr Hs18.out (btr Hs20.out (btr Hs22.out (btr Hs24.out (btr Hs26.out (btr Hs28.out (btr Hs30.out (btr Hs32.out Hs33.out))))))))))))) (Nat.le_refl _)
  refine (mul_p hk Hv1.out Hpq1.out (decB_on hk HD.out.2)).mono ?_
  rintro e w35 ⟨r, rfl, hPa, hB⟩
  have Hs36 : Hid (Below wv34.heap.size wv34 w35) := hB
  obtain ⟨bx0, by0, bx1, bx2, by1, by2, bX, bY, bf, rfl, hpv⟩ := hPa.pv
  have Hpb0 : Hid (Pv w35 (.slice bx0 bx1 bx2) (.slice by0 by1 by2) bf bX bY (ml p (R * iv n S % n) (.A (bv lx) (bv ly)))) := hpv
  clear hpv
  clear hPa hB
  have Hs37 : Hid (Below w35.heap.size w35 (w35.alloc (.cells #[.slice bx0 bx1 bx2, .slice by0 by1 by2, .bool bf] 41))) := alloc_below _ _
  have Hbb0 : Hid (Bl 41 (w35.alloc (.cells #[.slice bx0 bx1 bx2, .slice by0 by1 by2, .bool bf] 41)) w35.heap.size [.slice bx0 bx1 bx2, .slice by0 by1 by2, .bool bf]) := alloc_bl w35 [.slice bx0 bx1 bx2, .slice by0 by1 by2, .bool bf] 41
  have Hba1 : Hid (Bl 41 (w35.alloc (.cells #[.slice bx0 bx1 bx2, .slice by0 by1 by2, .bool bf] 41)) w31.heap.size [.slice ax0 ax1 ax2, .slice ay0 ay1 ay2, .bool af]) := Hba0.out.below (btr Hs36.out Hs37.out) Hba0.out.lt
  have ka_0 : (w35.alloc (.cells #[.slice bx0 bx1 bx2, .slice by0 by1 by2, .bool bf] 41)).cell? ⟨w31.heap.size, 0, none⟩ = some (.slice ax0 ax1 ax2) := Hba1.out.cell 0 (by simp)
  have ka_1 : (w35.alloc (.cells #[.slice bx0 bx1 bx2, .slice by0 by1 by2, .bool bf] 41)).cell? ⟨w31.heap.size, 1, none⟩ = some (.slice ay0 ay1 ay2) := Hba1.out.cell 1 (by simp)
  have ka_2 : (w35.alloc (.cells #[.slice bx0 bx1 bx2, .slice by0 by1 by2, .bool bf] 41)).cell? ⟨w31.heap.size, 2, none⟩ = some (.bool af) := Hba1.out.cell 2 (by simp)
  have kb_0 : (w35.alloc (.cells #[.slice bx0 bx1 bx2, .slice by0 by1 by2, .bool bf] 41)).cell? ⟨w35.heap.size, 0, none⟩ = some (.slice bx0 bx1 bx2) := Hbb0.out.cell 0 (by simp)
  have kb_1 : (w35.alloc (.cells #[.slice bx0 bx1 bx2, .slice by0 by1 by2, .bool bf] 41)).cell? ⟨w35.heap.size, 1, none⟩ = some (.slice by0 by1 by2) := Hbb0.out.cell 1 (by simp)
  have kb_2 : (w35.alloc (.cells #[.slice bx0 bx1 bx2, .slice by0 by1 by2, .bool bf] 41)).cell? ⟨w35.heap.size, 2, none⟩ = some (.bool bf) := Hbb0.out.cell 2 (by simp)
  go_wp2_with fail
  clear ka_0 ka_1 ka_2 kb_0 kb_1 kb_2
  generalize (w35.alloc (.cells #[.slice bx0 bx1 bx2, .slice by0 by1 by2, .bool bf] 41)) = wv38 at *
  have Hpa1 : Hid (Pv wv38 (.slice ax0 ax1 ax2) (.slice ay0 ay1 ay2) af aX aY (ml p ((zV 48 h m) * iv n S % n) (.A gx gy))) := Hpa0.out.below (btr Hs33.out (btr Hs36.out Hs37.out)) (Nat.le_refl _)
  have Hpb1 : Hid (Pv wv38 (.slice bx0 bx1 bx2) (.slice by0 by1 by2) bf bX bY (ml p (R * iv n S % n) (.A (bv lx) (bv ly)))) := Hpb0.out.below Hs37.out (Nat.le_refl _)
  refine (add_p hk Hpa1.out Hpb1.out (hk.cv.mon hk.gp.oG _) (hk.cv.mon (decB_on hk HD.out.2) _)).mono ?_
  rintro e w39 ⟨r, rfl, hPa, hB⟩
  have Hs40 : Hid (Below wv38.heap.size wv38 w39) := hB
  obtain ⟨px0, py0, px1, px2, py1, py2, pX, pY, pf, rfl, hpv⟩ := hPa.pv
  have Hpp0 : Hid (Pv w39 (.slice px0 px1 px2) (.slice py0 py1 py2) pf pX pY (jt p n (.A gx gy) (zV 48 h m) R (iv n S) (.A (bv lx) (bv ly)))) := hpv
  clear hpv
  clear hPa hB
  have Hs41 : Hid (Below w39.heap.size w39 (w39.alloc (.cells #[.slice px0 px1 px2, .slice py0 py1 py2, .bool pf] 41))) := alloc_below _ _
  have Hbp0 : Hid (Bl 41 (w39.alloc (.cells #[.slice px0 px1 px2, .slice py0 py1 py2, .bool pf] 41)) w39.heap.size [.slice px0 px1 px2, .slice py0 py1 py2, .bool pf]) := alloc_bl w39 [.slice px0 px1 px2, .slice py0 py1 py2, .bool pf] 41
  have hver : z = if mkx n (jt p n (.A gx gy) (zV 48 h m) R (iv n S) (.A (bv lx) (bv ly))) R = true then 0 else 91 := by rw [Hz.out, ver_in' hk HD.out.1 HD.out.2 (by rw [Hl.out]; rfl) (by show 0 < bv (sg.take 48) ∧ bv (sg.take 48) < n; rw [← HR.out]; exact HRn.out) (by show 0 < bv (sg.drop 48) ∧ bv (sg.drop 48) < n; rw [← HS.out]; exact HSn.out)]; show (if mkx n (jt p n (.A gx gy) (zV 48 h m) (bv (sg.take 48)) (iv n (bv (sg.drop 48))) (.A (bv lx) (bv ly))) (bv (sg.take 48)) = true then (0 : Int) else 91) = _; rw [← HR.out, ← HS.out]
  have Hver : Hid (z = if mkx n (jt p n (.A gx gy) (zV 48 h m) R (iv n S) (.A (bv lx) (bv ly))) R = true then 0 else 91) := hver
  clear hver
  obtain ⟨pF, HpF⟩ : ∃ f, Hid (f = pf) := ⟨_, rfl⟩
  cases pf with
  | true =>
    have Hpp1 : Hid (Pv (w39.alloc (.cells #[.slice px0 px1 px2, .slice py0 py1 py2, .bool true] 41)) (.slice px0 px1 px2) (.slice py0 py1 py2) true pX pY (jt p n (.A gx gy) (zV 48 h m) R (iv n S) (.A (bv lx) (bv ly)))) := Hpp0.out.below Hs41.out (Nat.le_refl _)
    obtain rfl : z = 91 := by rw [Hver.out, ← Hpp1.out.pt]; rfl
    have kp_0 : (w39.alloc (.cells #[.slice px0 px1 px2, .slice py0 py1 py2, .bool true] 41)).cell? ⟨w39.heap.size, 0, none⟩ = some (.slice px0 px1 px2) := Hbp0.out.cell 0 (by simp)
    have kp_1 : (w39.alloc (.cells #[.slice px0 px1 px2, .slice py0 py1 py2, .bool true] 41)).cell? ⟨w39.heap.size, 1, none⟩ = some (.slice py0 py1 py2) := Hbp0.out.cell 1 (by simp)
    have kp_2 : (w39.alloc (.cells #[.slice px0 px1 px2, .slice py0 py1 py2, .bool true] 41)).cell? ⟨w39.heap.size, 2, none⟩ = some (.bool true) := Hbp0.out.cell 2 (by simp)
    have HB1 : Hid (Below w.heap.size w (w39.alloc (.cells #[.slice px0 px1 px2, .slice py0 py1 py2, .bool true] 41))) := HB0.out.trans ((btr Hs2.out (btr Hs4.out (btr Hs6.out (btr Hs7.out (btr Hs10.out (btr Hs12.out (btr Hs14.out (btr Hs16.out (btr Hs18.out (btr Hs20.out (btr Hs22.out (btr Hs24.out (btr Hs26.out (btr Hs28.out (btr Hs30.out (btr Hs32.out (btr Hs33.out (btr Hs36.out (btr Hs37.out (btr Hs40.out Hs41.out)))))))))))))))))))).mono HB0.out.size)
    go_wp2
    go_ret
    exact ⟨rfl, HB1.out⟩
  | false =>
    have Hpp1 : Hid (Pv (w39.alloc (.cells #[.slice px0 px1 px2, .slice py0 py1 py2, .bool false] 41)) (.slice px0 px1 px2) (.slice py0 py1 py2) false pX pY (jt p n (.A gx gy) (zV 48 h m) R (iv n S) (.A (bv lx) (bv ly)))) := Hpp0.out.below Hs41.out (Nat.le_refl _)
    have Hmk : Hid (z = if decide (pX % n = R) = true then 0 else 91) := (by have h1 := Hver.out; rw [← Hpp1.out.pt] at h1; exact h1 : z = if decide (pX % n = R) = true then 0 else 91)
    have kp_0 : (w39.alloc (.cells #[.slice px0 px1 px2, .slice py0 py1 py2, .bool false] 41)).cell? ⟨w39.heap.size, 0, none⟩ = some (.slice px0 px1 px2) := Hbp0.out.cell 0 (by simp)
    have kp_1 : (w39.alloc (.cells #[.slice px0 px1 px2, .slice py0 py1 py2, .bool false] 41)).cell? ⟨w39.heap.size, 1, none⟩ = some (.slice py0 py1 py2) := Hbp0.out.cell 1 (by simp)
    have kp_2 : (w39.alloc (.cells #[.slice px0 px1 px2, .slice py0 py1 py2, .bool false] 41)).cell? ⟨w39.heap.size, 2, none⟩ = some (.bool false) := Hbp0.out.cell 2 (by simp)
    go_wp2_with fail
    clear kp_0 kp_1 kp_2
    generalize (w39.alloc (.cells #[.slice px0 px1 px2, .slice py0 py1 py2, .bool false] 41)) = wv42 at *
    have Hn6 : Hid (Mk wv42 0 (.slice n0 n1 n2) n 384) := Hn5.out.below (btr Hs28.out (btr Hs30.out (btr Hs32.out (btr Hs33.out (btr Hs36.out (btr Hs37.out (btr Hs40.out Hs41.out)))))))
    refine (vdiv _ _ pX n _ _ _ Hpp1.out.mx.nk.1 Hn6.out.nk.1 (by decide) (by decide) (by have := hk.pmn.1; omega)).mono ?_
    rintro e w43 ⟨dv, ev, rfl, hq, hr_⟩
    have Hs44 : Hid (Below wv42.heap.size wv42 w43) := hq.2.2
    obtain ⟨d0, d1, d2, rfl⟩ := hq.vl.shape
    obtain ⟨e0, e1, e2, rfl⟩ := hr_.vl.shape
    have He0 : Hid (Nu w43 (.slice e0 e1 e2) (pX % n)) := New.vl hr_
    clear hq hr_
    obtain ⟨cM, HcM⟩ : ∃ z : Int, Hid (z = cmp3 ((pX % n : Nat) : Int) (R : Int)) := ⟨_, rfl⟩
    go_wp2_with fail
    have Hr3 : Hid (Mk w43 0 (.slice r0 r1 r2) R 384) := Hr2.out.below (btr Hs28.out (btr Hs30.out (btr Hs32.out (btr Hs33.out (btr Hs36.out (btr Hs37.out (btr Hs40.out (btr Hs41.out Hs44.out))))))))
    have C := vcmp _ _ (pX % n) R _ _ _ He0.out Hr3.out.nk.1 (by decide) (by decide)
    rw [← HcM.out] at C
    refine (C).mono ?_
    rintro e w45 ⟨rfl, q_, hq_⟩
    have Hs46 : Hid (Below w43.heap.size w43 w45) := (by rw [hq_]; exact below_drewN (Below.refl _ _) q_ : Below _ _ _)
    clear hq_ q_
    clear C
    by_cases hxr : pX % n = R
    rotate_left
    · have hc : (cM != 0) = true := by rw [HcM.out]; exact bne_iff_ne.2 (cmq_ne hxr)
      obtain rfl : z = 91 := by rw [Hmk.out, if_neg (by simpa using hxr)]
      have HB1 : Hid (Below w.heap.size w w45) := HB0.out.trans ((btr Hs2.out (btr Hs4.out (btr Hs6.out (btr Hs7.out (btr Hs10.out (btr Hs12.out (btr Hs14.out (btr Hs16.out (btr Hs18.out (btr Hs20.out (btr Hs22.out (btr Hs24.out (btr Hs26.out (btr Hs28.out (btr Hs30.out (btr Hs32.out (btr Hs33.out (btr Hs36.out (btr Hs37.out (btr Hs40.out (btr Hs41.out (btr Hs44.out Hs46.out)))))))))))))))))))))).mono HB0.out.size)
      go_wp2
      go_ret
      exact ⟨rfl, HB1.out⟩
    have hc : (cM != 0) = false := by rw [HcM.out, hxr, cmq_eq]; rfl
    obtain rfl : z = 0 := by rw [Hmk.out, if_pos (by simpa using hxr)]
    have Hbp1 : Hid (Bl 41 w45 w39.heap.size [.slice px0 px1 px2, .slice py0 py1 py2, .bool false]) := Hbp0.out.below (btr Hs44.out Hs46.out) Hbp0.out.lt
    have kp_0 : w45.cell? ⟨w39.heap.size, 0, none⟩ = some (.slice px0 px1 px2) := Hbp1.out.cell 0 (by simp)
    have kp_1 : w45.cell? ⟨w39.heap.size, 1, none⟩ = some (.slice py0 py1 py2) := Hbp1.out.cell 1 (by simp)
    have kp_2 : w45.cell? ⟨w39.heap.size, 2, none⟩ = some (.bool false) := Hbp1.out.cell 2 (by simp)
    go_wp2_with fail
    clear kp_0 kp_1 kp_2
    have Ht3 : Hid (Mk w45 0 (.slice t0 t1 t2) S 384) := Ht2.out.below (btr Hs24.out (btr Hs26.out (btr Hs28.out (btr Hs30.out (btr Hs32.out (btr Hs33.out (btr Hs36.out (btr Hs37.out (btr Hs40.out (btr Hs41.out (btr Hs44.out Hs46.out)))))))))))
    have Hpp2 : Hid (Pv w45 (.slice px0 px1 px2) (.slice py0 py1 py2) false pX pY (jt p n (.A gx gy) (zV 48 h m) R (iv n S) (.A (bv lx) (bv ly)))) := Hpp1.out.below (btr Hs44.out Hs46.out) (Nat.le_refl _)
    refine (mul_p hk Ht3.out.nk Hpp2.out (hk.gp.jon (decB_on hk HD.out.2))).mono ?_
    rintro e w47 ⟨r, rfl, hPa, hB⟩
    have Hs48 : Hid (Below w45.heap.size w45 w47) := hB
    rw [hk.gp.jmul (decB_on hk HD.out.2) (iv_inz hk.prn HSn.out.1 HSn.out.2).2] at hPa
    obtain ⟨lx0, ly0, lx1, lx2, ly1, ly2, lX, lY, lf, rfl, hpv⟩ := hPa.pv
    have Hpl0 : Hid (Pv w47 (.slice lx0 lx1 lx2) (.slice ly0 ly1 ly2) lf lX lY (sm p (ml p (zV 48 h m) (.A gx gy)) (ml p R (.A (bv lx) (bv ly))))) := hpv
    clear hpv
    clear hPa hB
    have Hs49 : Hid (Below w47.heap.size w47 (w47.alloc (.cells #[.slice lx0 lx1 lx2, .slice ly0 ly1 ly2, .bool lf] 41))) := alloc_below _ _
    have Hbl0 : Hid (Bl 41 (w47.alloc (.cells #[.slice lx0 lx1 lx2, .slice ly0 ly1 ly2, .bool lf] 41)) w47.heap.size [.slice lx0 lx1 lx2, .slice ly0 ly1 ly2, .bool lf]) := alloc_bl w47 [.slice lx0 lx1 lx2, .slice ly0 ly1 ly2, .bool lf] 41
    go_wp2_with fail
    generalize (w47.alloc (.cells #[.slice lx0 lx1 lx2, .slice ly0 ly1 ly2, .bool lf] 41)) = wv50 at *
    refine (base_v hk _).mono ?_
    rintro e w51 ⟨r, rfl, hPa⟩
    have Hs52 : Hid (Below wv50.heap.size wv50 w51) := hPa.bel
    obtain ⟨hx0, hy0, hx1, hx2, hy1, hy2, hX, hY, hf, rfl, hpv⟩ := hPa.pv
    have Hph0 : Hid (Pv w51 (.slice hx0 hx1 hx2) (.slice hy0 hy1 hy2) hf hX hY (.A gx gy)) := hpv
    clear hpv
    clear hPa
    go_wp2_with fail
    have Hz2 : Hid (Mk w51 0 (.slice z0 z1 z2) (zV 48 h m) 384) := Hz1.out.below (btr Hs26.out (btr Hs28.out (btr Hs30.out (btr Hs32.out (btr Hs33.out (btr Hs36.out (btr Hs37.out (btr Hs40.out (btr Hs41.out (btr Hs44.out (btr Hs46.out (btr Hs48.out (btr Hs49.out Hs52.out)))))))))))))
    refine (mul_p hk Hz2.out.nk Hph0.out hk.gp.oG).mono ?_
    rintro e w53 ⟨r, rfl, hPa, hB⟩
    have Hs54 : Hid (Below w51.heap.size w51 w53) := hB
    obtain ⟨dx0, dy0, dx1, dx2, dy1, dy2, dX, dY, df, rfl, hpv⟩ := hPa.pv
    have Hpd0 : Hid (Pv w53 (.slice dx0 dx1 dx2) (.slice dy0 dy1 dy2) df dX dY (ml p (zV 48 h m) (.A gx gy))) := hpv
    clear hpv
    clear hPa hB
    have Hs55 : Hid (Below w53.heap.size w53 (w53.alloc (.cells #[.slice dx0 dx1 dx2, .slice dy0 dy1 dy2, .bool df] 41))) := alloc_below _ _
    have Hbd0 : Hid (Bl 41 (w53.alloc (.cells #[.slice dx0 dx1 dx2, .slice dy0 dy1 dy2, .bool df] 41)) w53.heap.size [.slice dx0 dx1 dx2, .slice dy0 dy1 dy2, .bool df]) := alloc_bl w53 [.slice dx0 dx1 dx2, .slice dy0 dy1 dy2, .bool df] 41
    have Hbq2 : Hid (Bl 41 (w53.alloc (.cells #[.slice dx0 dx1 dx2, .slice dy0 dy1 dy2, .bool df] 41)) w5.heap.size [.slice qx0 qx1 qx2, .slice qy0 qy1 qy2, .bool qf]) := Hbq1.out.below (btr Hs36.out (btr Hs37.out (btr Hs40.out (btr Hs41.out (btr Hs44.out (btr Hs46.out (btr Hs48.out (btr Hs49.out (btr Hs52.out (btr Hs54.out Hs55.out)))))))))) Hbq1.out.lt
    have kq_0 : (w53.alloc (.cells #[.slice dx0 dx1 dx2, .slice dy0 dy1 dy2, .bool df] 41)).cell? ⟨w5.heap.size, 0, none⟩ = some (.slice qx0 qx1 qx2) := Hbq2.out.cell 0 (by simp)
    have kq_1 : (w53.alloc (.cells #[.slice dx0 dx1 dx2, .slice dy0 dy1 dy2, .bool df] 41)).cell? ⟨w5.heap.size, 1, none⟩ = some (.slice qy0 qy1 qy2) := Hbq2.out.cell 1 (by simp)
    have kq_2 : (w53.alloc (.cells #[.slice dx0 dx1 dx2, .slice dy0 dy1 dy2, .bool df] 41)).cell? ⟨w5.heap.size, 2, none⟩ = some (.bool qf) := Hbq2.out.cell 2 (by simp)
    go_wp2_with fail
    clear kq_0 kq_1 kq_2
    generalize (w53.alloc (.cells #[.slice dx0 dx1 dx2, .slice dy0 dy1 dy2, .bool df] 41)) = wv56 at *
    have Hr4 : Hid (Mk wv56 0 (.slice r0 r1 r2) R 384) := Hr3.out.below (btr Hs46.out (btr Hs48.out (btr Hs49.out (btr Hs52.out (btr Hs54.out Hs55.out)))))
    have Hpq2 : Hid (Pv wv56 (.slice qx0 qx1 qx2) (.slice qy0 qy1 qy2) qf qX qY (.A (bv lx) (bv ly))) := Hpq1.out.below (btr Hs36.out (btr Hs37.out (btr Hs40.out (btr Hs41.out (btr Hs44.out (btr Hs46.out (btr Hs48.out (btr Hs49.out (btr Hs52.out (btr Hs54.out Hs55.out)))))))))) (Nat.le_refl _)
    refine (mul_p hk Hr4.out.nk Hpq2.out (decB_on hk HD.out.2)).mono ?_
    rintro e w57 ⟨r, rfl, hPa, hB⟩
    have Hs58 : Hid (Below wv56.heap.size wv56 w57) := hB
    obtain ⟨fx0, fy0, fx1, fx2, fy1, fy2, fX, fY, ff, rfl, hpv⟩ := hPa.pv
    have Hpf0 : Hid (Pv w57 (.slice fx0 fx1 fx2) (.slice fy0 fy1 fy2) ff fX fY (ml p R (.A (bv lx) (bv ly)))) := hpv
    clear hpv
    clear hPa hB
    have Hs59 : Hid (Below w57.heap.size w57 (w57.alloc (.cells #[.slice fx0 fx1 fx2, .slice fy0 fy1 fy2, .bool ff] 41))) := alloc_below _ _
    have Hbf0 : Hid (Bl 41 (w57.alloc (.cells #[.slice fx0 fx1 fx2, .slice fy0 fy1 fy2, .bool ff] 41)) w57.heap.size [.slice fx0 fx1 fx2, .slice fy0 fy1 fy2, .bool ff]) := alloc_bl w57 [.slice fx0 fx1 fx2, .slice fy0 fy1 fy2, .bool ff] 41
    have Hbd1 : Hid (Bl 41 (w57.alloc (.cells #[.slice fx0 fx1 fx2, .slice fy0 fy1 fy2, .bool ff] 41)) w53.heap.size [.slice dx0 dx1 dx2, .slice dy0 dy1 dy2, .bool df]) := Hbd0.out.below (btr Hs58.out Hs59.out) Hbd0.out.lt
    have kd_0 : (w57.alloc (.cells #[.slice fx0 fx1 fx2, .slice fy0 fy1 fy2, .bool ff] 41)).cell? ⟨w53.heap.size, 0, none⟩ = some (.slice dx0 dx1 dx2) := Hbd1.out.cell 0 (by simp)
    have kd_1 : (w57.alloc (.cells #[.slice fx0 fx1 fx2, .slice fy0 fy1 fy2, .bool ff] 41)).cell? ⟨w53.heap.size, 1, none⟩ = some (.slice dy0 dy1 dy2) := Hbd1.out.cell 1 (by simp)
    have kd_2 : (w57.alloc (.cells #[.slice fx0 fx1 fx2, .slice fy0 fy1 fy2, .bool ff] 41)).cell? ⟨w53.heap.size, 2, none⟩ = some (.bool df) := Hbd1.out.cell 2 (by simp)
    have kf_0 : (w57.alloc (.cells #[.slice fx0 fx1 fx2, .slice fy0 fy1 fy2, .bool ff] 41)).cell? ⟨w57.heap.size, 0, none⟩ = some (.slice fx0 fx1 fx2) := Hbf0.out.cell 0 (by simp)
    have kf_1 : (w57.alloc (.cells #[.slice fx0 fx1 fx2, .slice fy0 fy1 fy2, .bool ff] 41)).cell? ⟨w57.heap.size, 1, none⟩ = some (.slice fy0 fy1 fy2) := Hbf0.out.cell 1 (by simp)
    have kf_2 : (w57.alloc (.cells #[.slice fx0 fx1 fx2, .slice fy0 fy1 fy2, .bool ff] 41)).cell? ⟨w57.heap.size, 2, none⟩ = some (.bool ff) := Hbf0.out.cell 2 (by simp)
    go_wp2_with fail
    clear kd_0 kd_1 kd_2 kf_0 kf_1 kf_2
    generalize (w57.alloc (.cells #[.slice fx0 fx1 fx2, .slice fy0 fy1 fy2, .bool ff] 41)) = wv60 at *
    have Hpd1 : Hid (Pv wv60 (.slice dx0 dx1 dx2) (.slice dy0 dy1 dy2) df dX dY (ml p (zV 48 h m) (.A gx gy))) := Hpd0.out.below (btr Hs55.out (btr Hs58.out Hs59.out)) (Nat.le_refl _)
    have Hpf1 : Hid (Pv wv60 (.slice fx0 fx1 fx2) (.slice fy0 fy1 fy2) ff fX fY (ml p R (.A (bv lx) (bv ly)))) := Hpf0.out.below Hs59.out (Nat.le_refl _)
    refine (add_p hk Hpd1.out Hpf1.out (hk.cv.mon hk.gp.oG _) (hk.cv.mon (decB_on hk HD.out.2) _)).mono ?_
    rintro e w61 ⟨r, rfl, hPa, hB⟩
    have Hs62 : Hid (Below wv60.heap.size wv60 w61) := hB
    have Hpl1 : Hid (Pv w61 (.slice lx0 lx1 lx2) (.slice ly0 ly1 ly2) lf lX lY (sm p (ml p (zV 48 h m) (.A gx gy)) (ml p R (.A (bv lx) (bv ly))))) := Hpl0.out.below (btr Hs49.out (btr Hs52.out (btr Hs54.out (btr Hs55.out (btr Hs58.out (btr Hs59.out Hs62.out)))))) (Nat.le_refl _)
    obtain ⟨tx0, ty0, tx1, tx2, ty1, ty2, tX, tY, tf, rfl, hpv⟩ := hPa.pv
    obtain ⟨e1_, e2_, e3_⟩ := Hpl1.out.one hpv
    subst e1_
    subst e2_
    subst e3_
    have Hpt0 : Hid (Pv w61 (.slice tx0 tx1 tx2) (.slice ty0 ty1 ty2) lf lX lY (sm p (ml p (zV 48 h m) (.A gx gy)) (ml p R (.A (bv lx) (bv ly))))) := hpv
    clear hPa hB hpv
    have Hs63 : Hid (Below w61.heap.size w61 (w61.alloc (.cells #[.slice tx0 tx1 tx2, .slice ty0 ty1 ty2, .bool lf] 41))) := alloc_below _ _
    have Hbt0 : Hid (Bl 41 (w61.alloc (.cells #[.slice tx0 tx1 tx2, .slice ty0 ty1 ty2, .bool lf] 41)) w61.heap.size [.slice tx0 tx1 tx2, .slice ty0 ty1 ty2, .bool lf]) := alloc_bl w61 [.slice tx0 tx1 tx2, .slice ty0 ty1 ty2, .bool lf] 41
    have hff : (lf == lf) = true := by simp
    have Hbl1 : Hid (Bl 41 (w61.alloc (.cells #[.slice tx0 tx1 tx2, .slice ty0 ty1 ty2, .bool lf] 41)) w47.heap.size [.slice lx0 lx1 lx2, .slice ly0 ly1 ly2, .bool lf]) := Hbl0.out.below (btr Hs52.out (btr Hs54.out (btr Hs55.out (btr Hs58.out (btr Hs59.out (btr Hs62.out Hs63.out)))))) Hbl0.out.lt
    have kl_0 : (w61.alloc (.cells #[.slice tx0 tx1 tx2, .slice ty0 ty1 ty2, .bool lf] 41)).cell? ⟨w47.heap.size, 0, none⟩ = some (.slice lx0 lx1 lx2) := Hbl1.out.cell 0 (by simp)
    have kl_1 : (w61.alloc (.cells #[.slice tx0 tx1 tx2, .slice ty0 ty1 ty2, .bool lf] 41)).cell? ⟨w47.heap.size, 1, none⟩ = some (.slice ly0 ly1 ly2) := Hbl1.out.cell 1 (by simp)
    have kl_2 : (w61.alloc (.cells #[.slice tx0 tx1 tx2, .slice ty0 ty1 ty2, .bool lf] 41)).cell? ⟨w47.heap.size, 2, none⟩ = some (.bool lf) := Hbl1.out.cell 2 (by simp)
    have kt_0 : (w61.alloc (.cells #[.slice tx0 tx1 tx2, .slice ty0 ty1 ty2, .bool lf] 41)).cell? ⟨w61.heap.size, 0, none⟩ = some (.slice tx0 tx1 tx2) := Hbt0.out.cell 0 (by simp)
    have kt_1 : (w61.alloc (.cells #[.slice tx0 tx1 tx2, .slice ty0 ty1 ty2, .bool lf] 41)).cell? ⟨w61.heap.size, 1, none⟩ = some (.slice ty0 ty1 ty2) := Hbt0.out.cell 1 (by simp)
    have kt_2 : (w61.alloc (.cells #[.slice tx0 tx1 tx2, .slice ty0 ty1 ty2, .bool lf] 41)).cell? ⟨w61.heap.size, 2, none⟩ = some (.bool lf) := Hbt0.out.cell 2 (by simp)
    go_wp2_with fail
    clear kl_0 kl_1 kl_2 kt_0 kt_1 kt_2
    generalize (w61.alloc (.cells #[.slice tx0 tx1 tx2, .slice ty0 ty1 ty2, .bool lf] 41)) = wv64 at *
    have Hpl2 : Hid (Pv wv64 (.slice lx0 lx1 lx2) (.slice ly0 ly1 ly2) lf lX lY (sm p (ml p (zV 48 h m) (.A gx gy)) (ml p R (.A (bv lx) (bv ly))))) := Hpl1.out.below Hs63.out (Nat.le_refl _)
    have Hpt1 : Hid (Pv wv64 (.slice tx0 tx1 tx2) (.slice ty0 ty1 ty2) lf lX lY (sm p (ml p (zV 48 h m) (.A gx gy)) (ml p R (.A (bv lx) (bv ly))))) := Hpt0.out.below Hs63.out (Nat.le_refl _)
    refine (same_mk Hpl2.out.mx Hpt1.out.mx).mono ?_
    rintro e w65 ⟨rfl, q_, hq_⟩
    have Hs66 : Hid (Below wv64.heap.size wv64 w65) := (by rw [hq_]; exact below_drewN (Below.refl _ _) q_ : Below _ _ _)
    clear hq_ q_
    have Hbl2 : Hid (Bl 41 w65 w47.heap.size [.slice lx0 lx1 lx2, .slice ly0 ly1 ly2, .bool lf]) := Hbl1.out.below Hs66.out Hbl1.out.lt
    have kl_0 : w65.cell? ⟨w47.heap.size, 0, none⟩ = some (.slice lx0 lx1 lx2) := Hbl2.out.cell 0 (by simp)
    have kl_1 : w65.cell? ⟨w47.heap.size, 1, none⟩ = some (.slice ly0 ly1 ly2) := Hbl2.out.cell 1 (by simp)
    have kl_2 : w65.cell? ⟨w47.heap.size, 2, none⟩ = some (.bool lf) := Hbl2.out.cell 2 (by simp)
    have Hbt1 : Hid (Bl 41 w65 w61.heap.size [.slice tx0 tx1 tx2, .slice ty0 ty1 ty2, .bool lf]) := Hbt0.out.below Hs66.out Hbt0.out.lt
    have kt_0 : w65.cell? ⟨w61.heap.size, 0, none⟩ = some (.slice tx0 tx1 tx2) := Hbt1.out.cell 0 (by simp)
    have kt_1 : w65.cell? ⟨w61.heap.size, 1, none⟩ = some (.slice ty0 ty1 ty2) := Hbt1.out.cell 1 (by simp)
    have kt_2 : w65.cell? ⟨w61.heap.size, 2, none⟩ = some (.bool lf) := Hbt1.out.cell 2 (by simp)
    go_wp2_with fail
    clear kl_0 kl_1 kl_2 kt_0 kt_1 kt_2
    have Hpl3 : Hid (Pv w65 (.slice lx0 lx1 lx2) (.slice ly0 ly1 ly2) lf lX lY (sm p (ml p (zV 48 h m) (.A gx gy)) (ml p R (.A (bv lx) (bv ly))))) := Hpl2.out.below Hs66.out (Nat.le_refl _)
    have Hpt2 : Hid (Pv w65 (.slice tx0 tx1 tx2) (.slice ty0 ty1 ty2) lf lX lY (sm p (ml p (zV 48 h m) (.A gx gy)) (ml p R (.A (bv lx) (bv ly))))) := Hpt1.out.below Hs66.out (Nat.le_refl _)
    refine (same_mk Hpl3.out.my Hpt2.out.my).mono ?_
    rintro e w67 ⟨rfl, q_, hq_⟩
    have Hs68 : Hid (Below w65.heap.size w65 w67) := (by rw [hq_]; exact below_drewN (Below.refl _ _) q_ : Below _ _ _)
    clear hq_ q_
    have HB1 : Hid (Below w.heap.size w w67) := HB0.out.trans ((btr Hs2.out (btr Hs4.out (btr Hs6.out (btr Hs7.out (btr Hs10.out (btr Hs12.out (btr Hs14.out (btr Hs16.out (btr Hs18.out (btr Hs20.out (btr Hs22.out (btr Hs24.out (btr Hs26.out (btr Hs28.out (btr Hs30.out (btr Hs32.out (btr Hs33.out (btr Hs36.out (btr Hs37.out (btr Hs40.out (btr Hs41.out (btr Hs44.out (btr Hs46.out (btr Hs48.out (btr Hs49.out (btr Hs52.out (btr Hs54.out (btr Hs55.out (btr Hs58.out (btr Hs59.out (btr Hs62.out (btr Hs63.out (btr Hs66.out Hs68.out))))))))))))))))))))))))))))))))).mono HB0.out.size)
    go_wp2
    go_ret
    exact ⟨rfl, HB1.out⟩
theorem equation_core (c : Int) (h : Int) (ax ay am ag : Option Addr) (cx cy cm cg : Nat) (lx ly m sg : List UInt8) (w : World) (T : Sha.Tb w) (hx : Rd w ax lx) (hy : Rd w ay ly) (hm : Rd w am m) (hg : Rd w ag sg) (l1 : lx.length ≤ 100000000) (l2 : ly.length ≤ 100000000) (l3 : m.length ≤ 100000000) (l4 : sg.length ≤ cg) (c3 : m.length ≤ cm ∧ cm ≤ 9223372036854775807) : Calls Tryz.prog 6 #[.int .i64 h, .int .i64 c, .slice ax lx.length cx, .slice ay ly.length cy, .slice am m.length cm, .slice ag sg.length cg] w fun e w' => e = .returned (.bool true) ∧ Below w.heap.size w w' := by
  by_cases h0 : Sha.siz h = 0
  · exact eq_alg c h ax ay am ag cx cy cm cg lx ly m sg w T hx hy hm hg l1 l2 l3 l4 c3 h0
  have key : ∀ {s : Int} {p b n gx gy : Nat}, Kv c p b n gx gy s → Calls Tryz.prog 6 #[.int .i64 h, .int .i64 c, .slice ax lx.length cx, .slice ay ly.length cy, .slice am m.length cm, .slice ag sg.length cg] w fun e w' => e = .returned (.bool true) ∧ Below w.heap.size w w' := by
    intro s p b n gx gy hk
    by_cases hd : decB p b s lx ly = false
    · exact eq_key hk h ax ay am ag cx cy cm cg lx ly m sg w T hx hy hm hg l1 l2 l3 l4 c3 h0 hd
    have hd' : decB p b s lx ly = true := by simpa using hd
    rcases hk.s0 with hs | hs <;> subst hs
    · by_cases e : sg.length = 64
      · have := eq_in32 hk h ax ay am ag cx cy cm cg lx ly m sg w T hx hy hm hg l1 l2 l3 l4 c3 h0 hd' e
        rw [e]; exact this
      · exact eq_len32 hk h ax ay am ag cx cy cm cg lx ly m sg w T hx hy hm hg l1 l2 l3 l4 c3 h0 hd' e
    · by_cases e : sg.length = 96
      · have := eq_in48 hk h ax ay am ag cx cy cm cg lx ly m sg w T hx hy hm hg l1 l2 l3 l4 c3 h0 hd' e
        rw [e]; exact this
      · exact eq_len48 hk h ax ay am ag cx cy cm cg lx ly m sg w T hx hy hm hg l1 l2 l3 l4 c3 h0 hd' e
  by_cases h1 : c = 1
  · subst h1; exact key .k1
  · by_cases h2 : c = 2
    · subst h2; exact key .k2
    · exact eq_none c h1 h2 h ax ay am ag cx cy cm cg lx ly m sg w T hx hy hm hg l1 l2 l3 l4 c3 h0
end Go.Proofs.YtghfoppojdkhkaaGreatDoor
