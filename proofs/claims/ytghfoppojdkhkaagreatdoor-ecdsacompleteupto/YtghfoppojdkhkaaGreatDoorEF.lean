import Derived.Test.YtghfoppojdkhkaaGreatDoorEQ
namespace Go.Proofs.YtghfoppojdkhkaaGreatDoor
open Go.RowKit

set_option maxRecDepth 100000

theorem order_any (c : Int) (w : World) : Calls Tryz.prog 9 #[.int .i64 c] w fun e w' => ∃ a0 a1 a2, e = .returned (.slice a0 a1 a2) ∧ Below w.heap.size w w' := by
  have key : ∀ {s : Int} {p b n gx gy : Nat}, Kv c p b n gx gy s → Calls Tryz.prog 9 #[.int .i64 c] w fun e w' => ∃ a0 a1 a2, e = .returned (.slice a0 a1 a2) ∧ Below w.heap.size w w' := by
    intro s p b n gx gy hk
    refine (order_v hk w).mono ?_
    rintro e w' ⟨r, rfl, m, hB⟩
    obtain ⟨a0, a1, a2, rfl⟩ := m.nk.sl
    exact ⟨a0, a1, a2, rfl, hB⟩
  by_cases h1 : c = 1
  · subst h1; exact key .k1
  · by_cases h2 : c = 2
    · subst h2; exact key .k2
    · refine (order_none c h1 h2 w).mono ?_
      rintro e w' ⟨rfl, hB⟩
      exact ⟨_, _, _, rfl, hB⟩
/-- What is recovered verifies. -/
theorem ver_rec {c s : Int} {p b n gx gy : Nat} (hk : Kv c p b n gx gy s) {h : Int} {m : List UInt8} {R S X Y a cc : Nat} (h0 : Sha.siz h ≠ 0) (ho : onB p b X Y false = true) (r1 : 0 < R ∧ R < n) (s1 : 0 < S ∧ S < n) (hmk : X % n = R) (hQ : jt p n (.A gx gy) (mn n (zV s h m)) S (iv n R) (.A X Y) = .A a cc) :
    verV p b n (.A gx gy) s h (tobe s.toNat a) (tobe s.toNat cc) m (tobe s.toNat R ++ tobe s.toNat S) = 0 := by
  have oP : onP p b (.A X Y) := ((onB_iff hk.pm).1 ho).1
  have oQ : onP p b (.A a cc) := hQ ▸ hk.gp.jon oP
  have hp := hk.nlp
  have hkk := jt_take (B := tobe s.toNat S) (tobe_length s.toNat R)
  have hs : ((s.toNat : Nat) : Int) = s := by rcases hk.s0 with h | h <;> subst h <;> rfl
  have hd : decB p b s (tobe s.toNat a) (tobe s.toNat cc) = true := by
    unfold decB
    rw [tobe_length, tobe_length, hk.bvt oQ.1, hk.bvt oQ.2.1, (onB_iff hk.pm).2 ⟨oQ, fun h => by cases h⟩, hs]
    simp
  unfold verV
  rw [hkk.1, hkk.2, hk.bvt (Nat.lt_trans r1.2 hp), hk.bvt (Nat.lt_trans s1.2 hp), hk.bvt oQ.1, hk.bvt oQ.2.1, if_neg h0, if_neg (by rw [hd]; simp), if_neg (fun h => h (hk.two _ _)), if_pos ⟨r1, s1⟩, ← hQ, hk.gp.complete oP (iv_inz hk.prn r1.1 r1.2).2 (iv_inz hk.prn s1.1 s1.2).2, if_pos (by show decide (X % n = R) = true; simp [hmk])]
set_option maxHeartbeats 40000000 in
theorem co_alg (c : Int) (h : Int) (am : Option Addr) (cm : Nat) (m : List UInt8) (r t x y : Value) (R S X Y : Nat) (w : World) (T : Sha.Tb w) (hm : Rd w am m) (l3 : m.length ≤ 100000000) (c3 : m.length ≤ cm ∧ cm ≤ 9223372036854775807) (hr : Nu w r R) (ht : Nu w t S) (hx : Nu w x X) (hy : Nu w y Y) (inf : Bool) (h0 : Sha.siz h = 0) :
    Calls Tryz.prog 5 #[.int .i64 h, .int .i64 c, .slice am m.length cm, r, t, .agg #[x, y, .bool inf]] w fun e w' => e = .returned (.bool true) ∧ Below w.heap.size w w' := by
  obtain ⟨r0, r1, r2, rfl⟩ := hr.shape
  obtain ⟨t0, t1, t2, rfl⟩ := ht.shape
  obtain ⟨x0, x1, x2, rfl⟩ := hx.shape
  obtain ⟨y0, y1, y2, rfl⟩ := hy.shape
  have HT0 : Hid (Sha.Tb w) := T
  have Hm0 : Hid (Rd w am m) := hm
  have Hr0 : Hid (Nu w (.slice r0 r1 r2) R) := hr
  have Ht0 : Hid (Nu w (.slice t0 t1 t2) S) := ht
  have Hx0 : Hid (Nu w (.slice x0 x1 x2) X) := hx
  have Hy0 : Hid (Nu w (.slice y0 y1 y2) Y) := hy
  have HB0 : Hid (Below w.heap.size w w) := Below.refl _ _
  have HLn : Hid (m.length ≤ 100000000 ∧ m.length ≤ cm ∧ cm ≤ 9223372036854775807) := ⟨l3, c3⟩
  clear T hm l3 c3 hr ht hx hy
  go_enter Tryz.func5, Tryz.ntmps5
  have Hs1 : Hid (Below w.heap.size w (w.alloc (.cells #[.slice x0 x1 x2, .slice y0 y1 y2, .bool inf] 41))) := alloc_below _ _
  have HbP0 : Hid (Bl 41 (w.alloc (.cells #[.slice x0 x1 x2, .slice y0 y1 y2, .bool inf] 41)) w.heap.size [.slice x0 x1 x2, .slice y0 y1 y2, .bool inf]) := alloc_bl w [.slice x0 x1 x2, .slice y0 y1 y2, .bool inf] 41
  go_wp2_with fail
  generalize (w.alloc (.cells #[.slice x0 x1 x2, .slice y0 y1 y2, .bool inf] 41)) = wv2 at *
  have HT1 : Hid (Sha.Tb wv2) := HT0.out.below Hs1.out
  refine (awake12_v _ HT1.out).mono ?_
  rintro e w3 ⟨rfl, hB⟩
  have Hs4 : Hid (Below wv2.heap.size wv2 w3) := hB
  clear hB
  have HbP1 : Hid (Bl 41 w3 w.heap.size [.slice x0 x1 x2, .slice y0 y1 y2, .bool inf]) := HbP0.out.below Hs4.out HbP0.out.lt
  have kP_0 : w3.cell? ⟨w.heap.size, 0, none⟩ = some (.slice x0 x1 x2) := HbP1.out.cell 0 (by simp)
  have kP_1 : w3.cell? ⟨w.heap.size, 1, none⟩ = some (.slice y0 y1 y2) := HbP1.out.cell 1 (by simp)
  have kP_2 : w3.cell? ⟨w.heap.size, 2, none⟩ = some (.bool inf) := HbP1.out.cell 2 (by simp)
  go_wp2_with fail
  clear kP_0 kP_1 kP_2
  have HT2 : Hid (Sha.Tb w3) := HT1.out.below Hs4.out
  have Hm1 : Hid (Rd w3 am m) := Hm0.out.below (btr Hs1.out Hs4.out) (Nat.le_refl _)
  have Hr1 : Hid (Nu w3 (.slice r0 r1 r2) R) := Hr0.out.below (btr Hs1.out Hs4.out) (Nat.le_refl _)
  have Ht1 : Hid (Nu w3 (.slice t0 t1 t2) S) := Ht0.out.below (btr Hs1.out Hs4.out) (Nat.le_refl _)
  have Hx1 : Hid (Nu w3 (.slice x0 x1 x2) X) := Hx0.out.below (btr Hs1.out Hs4.out) (Nat.le_refl _)
  have Hy1 : Hid (Nu w3 (.slice y0 y1 y2) Y) := Hy0.out.below (btr Hs1.out Hs4.out) (Nat.le_refl _)
  refine (rec_alg c h am cm m _ _ _ _ R S X Y _ HT2.out Hm1.out HLn.out.1 HLn.out.2 Hr1.out Ht1.out Hx1.out Hy1.out inf h0).mono ?_
  rintro e w5 ⟨rfl, hB⟩
  have Hs6 : Hid (Below w3.heap.size w3 w5) := hB
  clear hB
  go_wp2_with fail
  refine (order_any c _).mono ?_
  rintro e w7 ⟨n0, n1, n2, rfl, hB⟩
  have Hs8 : Hid (Below w5.heap.size w5 w7) := hB
  clear hB
  go_wp2_with fail
  have CS := fun w => Sha.size_any h w
  rw [h0] at CS
  refine (CS _).mono ?_
  clear CS
  rintro e w7 ⟨rfl, rfl⟩
  have HB1 : Hid (Below w.heap.size w w7) := HB0.out.trans ((btr Hs1.out (btr Hs4.out (btr Hs6.out Hs8.out))).mono HB0.out.size)
  go_wp2
  go_ret
  exact ⟨rfl, HB1.out⟩
set_option maxHeartbeats 40000000 in
theorem co_none (c : Int) (h1 : c ≠ 1) (h2 : c ≠ 2) (h : Int) (am : Option Addr) (cm : Nat) (m : List UInt8) (r t x y : Value) (R S X Y : Nat) (w : World) (T : Sha.Tb w) (hm : Rd w am m) (l3 : m.length ≤ 100000000) (c3 : m.length ≤ cm ∧ cm ≤ 9223372036854775807) (hr : Nu w r R) (ht : Nu w t S) (hx : Nu w x X) (hy : Nu w y Y) (inf : Bool) (h0 : Sha.siz h ≠ 0) :
    Calls Tryz.prog 5 #[.int .i64 h, .int .i64 c, .slice am m.length cm, r, t, .agg #[x, y, .bool inf]] w fun e w' => e = .returned (.bool true) ∧ Below w.heap.size w w' := by
  obtain ⟨r0, r1, r2, rfl⟩ := hr.shape
  obtain ⟨t0, t1, t2, rfl⟩ := ht.shape
  obtain ⟨x0, x1, x2, rfl⟩ := hx.shape
  obtain ⟨y0, y1, y2, rfl⟩ := hy.shape
  have HT0 : Hid (Sha.Tb w) := T
  have Hm0 : Hid (Rd w am m) := hm
  have Hr0 : Hid (Nu w (.slice r0 r1 r2) R) := hr
  have Ht0 : Hid (Nu w (.slice t0 t1 t2) S) := ht
  have Hx0 : Hid (Nu w (.slice x0 x1 x2) X) := hx
  have Hy0 : Hid (Nu w (.slice y0 y1 y2) Y) := hy
  have HB0 : Hid (Below w.heap.size w w) := Below.refl _ _
  have HLn : Hid (m.length ≤ 100000000 ∧ m.length ≤ cm ∧ cm ≤ 9223372036854775807) := ⟨l3, c3⟩
  clear T hm l3 c3 hr ht hx hy
  go_enter Tryz.func5, Tryz.ntmps5
  have Hs1 : Hid (Below w.heap.size w (w.alloc (.cells #[.slice x0 x1 x2, .slice y0 y1 y2, .bool inf] 41))) := alloc_below _ _
  have HbP0 : Hid (Bl 41 (w.alloc (.cells #[.slice x0 x1 x2, .slice y0 y1 y2, .bool inf] 41)) w.heap.size [.slice x0 x1 x2, .slice y0 y1 y2, .bool inf]) := alloc_bl w [.slice x0 x1 x2, .slice y0 y1 y2, .bool inf] 41
  go_wp2_with fail
  generalize (w.alloc (.cells #[.slice x0 x1 x2, .slice y0 y1 y2, .bool inf] 41)) = wv2 at *
  have HT1 : Hid (Sha.Tb wv2) := HT0.out.below Hs1.out
  refine (awake12_v _ HT1.out).mono ?_
  rintro e w3 ⟨rfl, hB⟩
  have Hs4 : Hid (Below wv2.heap.size wv2 w3) := hB
  clear hB
  have HbP1 : Hid (Bl 41 w3 w.heap.size [.slice x0 x1 x2, .slice y0 y1 y2, .bool inf]) := HbP0.out.below Hs4.out HbP0.out.lt
  have kP_0 : w3.cell? ⟨w.heap.size, 0, none⟩ = some (.slice x0 x1 x2) := HbP1.out.cell 0 (by simp)
  have kP_1 : w3.cell? ⟨w.heap.size, 1, none⟩ = some (.slice y0 y1 y2) := HbP1.out.cell 1 (by simp)
  have kP_2 : w3.cell? ⟨w.heap.size, 2, none⟩ = some (.bool inf) := HbP1.out.cell 2 (by simp)
  go_wp2_with fail
  clear kP_0 kP_1 kP_2
  have HT2 : Hid (Sha.Tb w3) := HT1.out.below Hs4.out
  have Hm1 : Hid (Rd w3 am m) := Hm0.out.below (btr Hs1.out Hs4.out) (Nat.le_refl _)
  have Hr1 : Hid (Nu w3 (.slice r0 r1 r2) R) := Hr0.out.below (btr Hs1.out Hs4.out) (Nat.le_refl _)
  have Ht1 : Hid (Nu w3 (.slice t0 t1 t2) S) := Ht0.out.below (btr Hs1.out Hs4.out) (Nat.le_refl _)
  have Hx1 : Hid (Nu w3 (.slice x0 x1 x2) X) := Hx0.out.below (btr Hs1.out Hs4.out) (Nat.le_refl _)
  have Hy1 : Hid (Nu w3 (.slice y0 y1 y2) Y) := Hy0.out.below (btr Hs1.out Hs4.out) (Nat.le_refl _)
  refine (rec_none c h1 h2 h am cm m _ _ _ _ R S X Y _ HT2.out Hm1.out HLn.out.1 HLn.out.2 Hr1.out Ht1.out Hx1.out Hy1.out inf h0).mono ?_
  rintro e w5 ⟨rfl, hB⟩
  have Hs6 : Hid (Below w3.heap.size w3 w5) := hB
  clear hB
  go_wp2_with fail
  refine (order_any c _).mono ?_
  rintro e w7 ⟨n0, n1, n2, rfl, hB⟩
  have Hs8 : Hid (Below w5.heap.size w5 w7) := hB
  clear hB
  go_wp2_with fail
  have CS := fun w => Sha.size_any h w
  have hz0 : (((Sha.siz h : Nat) : Int) == 0) = false := by have := h0; simp; omega
  generalize Sha.siz h = zs at CS hz0
  refine (CS _).mono ?_
  clear CS
  rintro e w7 ⟨rfl, rfl⟩
  go_wp2_with fail
  refine (size_none c h1 h2 _).mono ?_
  rintro e w9 ⟨rfl, hB⟩
  have Hs10 : Hid (Below w7.heap.size w7 w9) := hB
  clear hB
  have HB1 : Hid (Below w.heap.size w w9) := HB0.out.trans ((btr Hs1.out (btr Hs4.out (btr Hs6.out (btr Hs8.out Hs10.out)))).mono HB0.out.size)
  go_wp2
  go_ret
  exact ⟨rfl, HB1.out⟩
set_option maxHeartbeats 40000000 in
theorem co_inf {c s : Int} {p b n gx gy : Nat} (hk : Kv c p b n gx gy s) (h : Int) (am : Option Addr) (cm : Nat) (m : List UInt8) (r t x y : Value) (R S X Y : Nat) (w : World) (T : Sha.Tb w) (hm : Rd w am m) (l3 : m.length ≤ 100000000) (c3 : m.length ≤ cm ∧ cm ≤ 9223372036854775807) (hr : Nu w r R) (ht : Nu w t S) (hx : Nu w x X) (hy : Nu w y Y) (h0 : Sha.siz h ≠ 0) :
    Calls Tryz.prog 5 #[.int .i64 h, .int .i64 c, .slice am m.length cm, r, t, .agg #[x, y, .bool true]] w fun e w' => e = .returned (.bool true) ∧ Below w.heap.size w w' := by
  obtain ⟨r0, r1, r2, rfl⟩ := hr.shape
  obtain ⟨t0, t1, t2, rfl⟩ := ht.shape
  obtain ⟨x0, x1, x2, rfl⟩ := hx.shape
  obtain ⟨y0, y1, y2, rfl⟩ := hy.shape
  have HT0 : Hid (Sha.Tb w) := T
  have Hm0 : Hid (Rd w am m) := hm
  have Hr0 : Hid (Nu w (.slice r0 r1 r2) R) := hr
  have Ht0 : Hid (Nu w (.slice t0 t1 t2) S) := ht
  have Hx0 : Hid (Nu w (.slice x0 x1 x2) X) := hx
  have Hy0 : Hid (Nu w (.slice y0 y1 y2) Y) := hy
  have HB0 : Hid (Below w.heap.size w w) := Below.refl _ _
  have HLn : Hid (m.length ≤ 100000000 ∧ m.length ≤ cm ∧ cm ≤ 9223372036854775807) := ⟨l3, c3⟩
  clear T hm l3 c3 hr ht hx hy
  go_enter Tryz.func5, Tryz.ntmps5
  have Hs1 : Hid (Below w.heap.size w (w.alloc (.cells #[.slice x0 x1 x2, .slice y0 y1 y2, .bool true] 41))) := alloc_below _ _
  have HbP0 : Hid (Bl 41 (w.alloc (.cells #[.slice x0 x1 x2, .slice y0 y1 y2, .bool true] 41)) w.heap.size [.slice x0 x1 x2, .slice y0 y1 y2, .bool true]) := alloc_bl w [.slice x0 x1 x2, .slice y0 y1 y2, .bool true] 41
  go_wp2_with fail
  generalize (w.alloc (.cells #[.slice x0 x1 x2, .slice y0 y1 y2, .bool true] 41)) = wv2 at *
  have HT1 : Hid (Sha.Tb wv2) := HT0.out.below Hs1.out
  refine (awake12_v _ HT1.out).mono ?_
  rintro e w3 ⟨rfl, hB⟩
  have Hs4 : Hid (Below wv2.heap.size wv2 w3) := hB
  clear hB
  have HbP1 : Hid (Bl 41 w3 w.heap.size [.slice x0 x1 x2, .slice y0 y1 y2, .bool true]) := HbP0.out.below Hs4.out HbP0.out.lt
  have kP_0 : w3.cell? ⟨w.heap.size, 0, none⟩ = some (.slice x0 x1 x2) := HbP1.out.cell 0 (by simp)
  have kP_1 : w3.cell? ⟨w.heap.size, 1, none⟩ = some (.slice y0 y1 y2) := HbP1.out.cell 1 (by simp)
  have kP_2 : w3.cell? ⟨w.heap.size, 2, none⟩ = some (.bool true) := HbP1.out.cell 2 (by simp)
  go_wp2_with fail
  clear kP_0 kP_1 kP_2
  have HT2 : Hid (Sha.Tb w3) := HT1.out.below Hs4.out
  have Hm1 : Hid (Rd w3 am m) := Hm0.out.below (btr Hs1.out Hs4.out) (Nat.le_refl _)
  have Hr1 : Hid (Nu w3 (.slice r0 r1 r2) R) := Hr0.out.below (btr Hs1.out Hs4.out) (Nat.le_refl _)
  have Ht1 : Hid (Nu w3 (.slice t0 t1 t2) S) := Ht0.out.below (btr Hs1.out Hs4.out) (Nat.le_refl _)
  have Hx1 : Hid (Nu w3 (.slice x0 x1 x2) X) := Hx0.out.below (btr Hs1.out Hs4.out) (Nat.le_refl _)
  have Hy1 : Hid (Nu w3 (.slice y0 y1 y2) Y) := Hy0.out.below (btr Hs1.out Hs4.out) (Nat.le_refl _)
  refine (rec_inf hk h am cm m _ _ _ _ R S X Y _ HT2.out Hm1.out HLn.out.1 HLn.out.2 Hr1.out Ht1.out Hx1.out Hy1.out h0).mono ?_
  rintro e w5 ⟨rfl, hB⟩
  have Hs6 : Hid (Below w3.heap.size w3 w5) := hB
  clear hB
  go_wp2_with fail
  refine (order_v hk _).mono ?_
  rintro e w7 ⟨nv, rfl, mN, hB⟩
  have Hs8 : Hid (Below w5.heap.size w5 w7) := hB
  obtain ⟨n0, n1, n2, rfl⟩ := mN.nk.sl
  have Hn0 : Hid (Mk w7 0 (.slice n0 n1 n2) n 384) := mN.base (Nat.zero_le _)
  clear mN hB
  go_wp2_with fail
  have CS := fun w => Sha.size_any h w
  have hz0 : (((Sha.siz h : Nat) : Int) == 0) = false := by have := h0; simp; omega
  generalize Sha.siz h = zs at CS hz0
  refine (CS _).mono ?_
  clear CS
  rintro e w7 ⟨rfl, rfl⟩
  go_wp2_with fail
  refine (size_v hk _).mono ?_
  rintro e w9 ⟨rfl, hB⟩
  have Hs10 : Hid (Below w7.heap.size w7 w9) := hB
  clear hB
  have hs0 : (s == 0) = false := by rcases hk.s0 with hh | hh <;> subst hh <;> rfl
  have HB1 : Hid (Below w.heap.size w w9) := HB0.out.trans ((btr Hs1.out (btr Hs4.out (btr Hs6.out (btr Hs8.out Hs10.out)))).mono HB0.out.size)
  have HbP2 : Hid (Bl 41 w9 w.heap.size [.slice x0 x1 x2, .slice y0 y1 y2, .bool true]) := HbP1.out.below (btr Hs6.out (btr Hs8.out Hs10.out)) HbP1.out.lt
  have kP_0 : w9.cell? ⟨w.heap.size, 0, none⟩ = some (.slice x0 x1 x2) := HbP2.out.cell 0 (by simp)
  have kP_1 : w9.cell? ⟨w.heap.size, 1, none⟩ = some (.slice y0 y1 y2) := HbP2.out.cell 1 (by simp)
  have kP_2 : w9.cell? ⟨w.heap.size, 2, none⟩ = some (.bool true) := HbP2.out.cell 2 (by simp)
  go_wp2
  go_ret
  exact ⟨rfl, HB1.out⟩
set_option maxHeartbeats 40000000 in
theorem co_off {c s : Int} {p b n gx gy : Nat} (hk : Kv c p b n gx gy s) (h : Int) (am : Option Addr) (cm : Nat) (m : List UInt8) (r t x y : Value) (R S X Y : Nat) (w : World) (T : Sha.Tb w) (hm : Rd w am m) (l3 : m.length ≤ 100000000) (c3 : m.length ≤ cm ∧ cm ≤ 9223372036854775807) (hr : Nu w r R) (ht : Nu w t S) (hx : Nu w x X) (hy : Nu w y Y) (h0 : Sha.siz h ≠ 0) (ho : onB p b X Y false = false) :
    Calls Tryz.prog 5 #[.int .i64 h, .int .i64 c, .slice am m.length cm, r, t, .agg #[x, y, .bool false]] w fun e w' => e = .returned (.bool true) ∧ Below w.heap.size w w' := by
  obtain ⟨r0, r1, r2, rfl⟩ := hr.shape
  obtain ⟨t0, t1, t2, rfl⟩ := ht.shape
  obtain ⟨x0, x1, x2, rfl⟩ := hx.shape
  obtain ⟨y0, y1, y2, rfl⟩ := hy.shape
  have HT0 : Hid (Sha.Tb w) := T
  have Hm0 : Hid (Rd w am m) := hm
  have Hr0 : Hid (Nu w (.slice r0 r1 r2) R) := hr
  have Ht0 : Hid (Nu w (.slice t0 t1 t2) S) := ht
  have Hx0 : Hid (Nu w (.slice x0 x1 x2) X) := hx
  have Hy0 : Hid (Nu w (.slice y0 y1 y2) Y) := hy
  have HB0 : Hid (Below w.heap.size w w) := Below.refl _ _
  have HLn : Hid (m.length ≤ 100000000 ∧ m.length ≤ cm ∧ cm ≤ 9223372036854775807) := ⟨l3, c3⟩
  clear T hm l3 c3 hr ht hx hy
  go_enter Tryz.func5, Tryz.ntmps5
  have Hs1 : Hid (Below w.heap.size w (w.alloc (.cells #[.slice x0 x1 x2, .slice y0 y1 y2, .bool false] 41))) := alloc_below _ _
  have HbP0 : Hid (Bl 41 (w.alloc (.cells #[.slice x0 x1 x2, .slice y0 y1 y2, .bool false] 41)) w.heap.size [.slice x0 x1 x2, .slice y0 y1 y2, .bool false]) := alloc_bl w [.slice x0 x1 x2, .slice y0 y1 y2, .bool false] 41
  go_wp2_with fail
  generalize (w.alloc (.cells #[.slice x0 x1 x2, .slice y0 y1 y2, .bool false] 41)) = wv2 at *
  have HT1 : Hid (Sha.Tb wv2) := HT0.out.below Hs1.out
  refine (awake12_v _ HT1.out).mono ?_
  rintro e w3 ⟨rfl, hB⟩
  have Hs4 : Hid (Below wv2.heap.size wv2 w3) := hB
  clear hB
  have HbP1 : Hid (Bl 41 w3 w.heap.size [.slice x0 x1 x2, .slice y0 y1 y2, .bool false]) := HbP0.out.below Hs4.out HbP0.out.lt
  have kP_0 : w3.cell? ⟨w.heap.size, 0, none⟩ = some (.slice x0 x1 x2) := HbP1.out.cell 0 (by simp)
  have kP_1 : w3.cell? ⟨w.heap.size, 1, none⟩ = some (.slice y0 y1 y2) := HbP1.out.cell 1 (by simp)
  have kP_2 : w3.cell? ⟨w.heap.size, 2, none⟩ = some (.bool false) := HbP1.out.cell 2 (by simp)
  go_wp2_with fail
  clear kP_0 kP_1 kP_2
  have HT2 : Hid (Sha.Tb w3) := HT1.out.below Hs4.out
  have Hm1 : Hid (Rd w3 am m) := Hm0.out.below (btr Hs1.out Hs4.out) (Nat.le_refl _)
  have Hr1 : Hid (Nu w3 (.slice r0 r1 r2) R) := Hr0.out.below (btr Hs1.out Hs4.out) (Nat.le_refl _)
  have Ht1 : Hid (Nu w3 (.slice t0 t1 t2) S) := Ht0.out.below (btr Hs1.out Hs4.out) (Nat.le_refl _)
  have Hx1 : Hid (Nu w3 (.slice x0 x1 x2) X) := Hx0.out.below (btr Hs1.out Hs4.out) (Nat.le_refl _)
  have Hy1 : Hid (Nu w3 (.slice y0 y1 y2) Y) := Hy0.out.below (btr Hs1.out Hs4.out) (Nat.le_refl _)
  refine (rec_off hk h am cm m _ _ _ _ R S X Y _ HT2.out Hm1.out HLn.out.1 HLn.out.2 Hr1.out Ht1.out Hx1.out Hy1.out h0 ho).mono ?_
  rintro e w5 ⟨rfl, hB⟩
  have Hs6 : Hid (Below w3.heap.size w3 w5) := hB
  clear hB
  go_wp2_with fail
  refine (order_v hk _).mono ?_
  rintro e w7 ⟨nv, rfl, mN, hB⟩
  have Hs8 : Hid (Below w5.heap.size w5 w7) := hB
  obtain ⟨n0, n1, n2, rfl⟩ := mN.nk.sl
  have Hn0 : Hid (Mk w7 0 (.slice n0 n1 n2) n 384) := mN.base (Nat.zero_le _)
  clear mN hB
  go_wp2_with fail
  have CS := fun w => Sha.size_any h w
  have hz0 : (((Sha.siz h : Nat) : Int) == 0) = false := by have := h0; simp; omega
  generalize Sha.siz h = zs at CS hz0
  refine (CS _).mono ?_
  clear CS
  rintro e w7 ⟨rfl, rfl⟩
  go_wp2_with fail
  refine (size_v hk _).mono ?_
  rintro e w9 ⟨rfl, hB⟩
  have Hs10 : Hid (Below w7.heap.size w7 w9) := hB
  clear hB
  have hs0 : (s == 0) = false := by rcases hk.s0 with hh | hh <;> subst hh <;> rfl
  have HbP2 : Hid (Bl 41 w9 w.heap.size [.slice x0 x1 x2, .slice y0 y1 y2, .bool false]) := HbP1.out.below (btr Hs6.out (btr Hs8.out Hs10.out)) HbP1.out.lt
  have kP_0 : w9.cell? ⟨w.heap.size, 0, none⟩ = some (.slice x0 x1 x2) := HbP2.out.cell 0 (by simp)
  have kP_1 : w9.cell? ⟨w.heap.size, 1, none⟩ = some (.slice y0 y1 y2) := HbP2.out.cell 1 (by simp)
  have kP_2 : w9.cell? ⟨w.heap.size, 2, none⟩ = some (.bool false) := HbP2.out.cell 2 (by simp)
  go_wp2_with fail
  clear kP_0 kP_1 kP_2
  have Hx2 : Hid (Nu w9 (.slice x0 x1 x2) X) := Hx1.out.below (btr Hs6.out (btr Hs8.out Hs10.out)) (Nat.le_refl _)
  have Hy2 : Hid (Nu w9 (.slice y0 y1 y2) Y) := Hy1.out.below (btr Hs6.out (btr Hs8.out Hs10.out)) (Nat.le_refl _)
  have C := on_v hk _ _ X Y false _ Hx2.out Hy2.out
  rw [ho] at C
  refine (C).mono ?_
  rintro e w11 ⟨rfl, hB⟩
  have Hs12 : Hid (Below w9.heap.size w9 w11) := hB
  clear hB C
  have HB1 : Hid (Below w.heap.size w w11) := HB0.out.trans ((btr Hs1.out (btr Hs4.out (btr Hs6.out (btr Hs8.out (btr Hs10.out Hs12.out))))).mono HB0.out.size)
  have HbP3 : Hid (Bl 41 w11 w.heap.size [.slice x0 x1 x2, .slice y0 y1 y2, .bool false]) := HbP2.out.below Hs12.out HbP2.out.lt
  have kP_0 : w11.cell? ⟨w.heap.size, 0, none⟩ = some (.slice x0 x1 x2) := HbP3.out.cell 0 (by simp)
  have kP_1 : w11.cell? ⟨w.heap.size, 1, none⟩ = some (.slice y0 y1 y2) := HbP3.out.cell 1 (by simp)
  have kP_2 : w11.cell? ⟨w.heap.size, 2, none⟩ = some (.bool false) := HbP3.out.cell 2 (by simp)
  go_wp2
  go_ret
  exact ⟨rfl, HB1.out⟩
set_option maxHeartbeats 40000000 in
theorem co_sig {c s : Int} {p b n gx gy : Nat} (hk : Kv c p b n gx gy s) (h : Int) (am : Option Addr) (cm : Nat) (m : List UInt8) (r t x y : Value) (R S X Y : Nat) (w : World) (T : Sha.Tb w) (hm : Rd w am m) (l3 : m.length ≤ 100000000) (c3 : m.length ≤ cm ∧ cm ≤ 9223372036854775807) (hr : Nu w r R) (ht : Nu w t S) (hx : Nu w x X) (hy : Nu w y Y) (h0 : Sha.siz h ≠ 0) (ho : onB p b X Y false = true) (CR : ∀ (w : World) (r t x y : Value), Sha.Tb w → Rd w am m → Nu w r R → Nu w t S → Nu w x X → Nu w y Y → Calls Tryz.prog 19 #[.int .i64 h, .int .i64 c, .slice am m.length cm, r, t, .agg #[x, y, .bool false]] w fun e w' => e = .returned (.tuple #[.slice none 0 0, .slice none 0 0, .int .i64 91]) ∧ Below w.heap.size w w') (hO : (0 < R ∧ R < n) → (0 < S ∧ S < n) → X % n = R → jt p n (.A gx gy) (mn n (zV s h m)) S (iv n R) (.A X Y) = .O) :
    Calls Tryz.prog 5 #[.int .i64 h, .int .i64 c, .slice am m.length cm, r, t, .agg #[x, y, .bool false]] w fun e w' => e = .returned (.bool true) ∧ Below w.heap.size w w' := by
  obtain ⟨r0, r1, r2, rfl⟩ := hr.shape
  obtain ⟨t0, t1, t2, rfl⟩ := ht.shape
  obtain ⟨x0, x1, x2, rfl⟩ := hx.shape
  obtain ⟨y0, y1, y2, rfl⟩ := hy.shape
  have HT0 : Hid (Sha.Tb w) := T
  have Hm0 : Hid (Rd w am m) := hm
  have Hr0 : Hid (Nu w (.slice r0 r1 r2) R) := hr
  have Ht0 : Hid (Nu w (.slice t0 t1 t2) S) := ht
  have Hx0 : Hid (Nu w (.slice x0 x1 x2) X) := hx
  have Hy0 : Hid (Nu w (.slice y0 y1 y2) Y) := hy
  have HB0 : Hid (Below w.heap.size w w) := Below.refl _ _
  have HLn : Hid (m.length ≤ 100000000 ∧ m.length ≤ cm ∧ cm ≤ 9223372036854775807) := ⟨l3, c3⟩
  clear T hm l3 c3 hr ht hx hy
  go_enter Tryz.func5, Tryz.ntmps5
  have Hs1 : Hid (Below w.heap.size w (w.alloc (.cells #[.slice x0 x1 x2, .slice y0 y1 y2, .bool false] 41))) := alloc_below _ _
  have HbP0 : Hid (Bl 41 (w.alloc (.cells #[.slice x0 x1 x2, .slice y0 y1 y2, .bool false] 41)) w.heap.size [.slice x0 x1 x2, .slice y0 y1 y2, .bool false]) := alloc_bl w [.slice x0 x1 x2, .slice y0 y1 y2, .bool false] 41
  go_wp2_with fail
  generalize (w.alloc (.cells #[.slice x0 x1 x2, .slice y0 y1 y2, .bool false] 41)) = wv2 at *
  have HT1 : Hid (Sha.Tb wv2) := HT0.out.below Hs1.out
  refine (awake12_v _ HT1.out).mono ?_
  rintro e w3 ⟨rfl, hB⟩
  have Hs4 : Hid (Below wv2.heap.size wv2 w3) := hB
  clear hB
  have HO : Hid ((0 < R ∧ R < n) → (0 < S ∧ S < n) → X % n = R → jt p n (.A gx gy) (mn n (zV s h m)) S (iv n R) (.A X Y) = .O) := hO
  clear hO
  have HbP1 : Hid (Bl 41 w3 w.heap.size [.slice x0 x1 x2, .slice y0 y1 y2, .bool false]) := HbP0.out.below Hs4.out HbP0.out.lt
  have kP_0 : w3.cell? ⟨w.heap.size, 0, none⟩ = some (.slice x0 x1 x2) := HbP1.out.cell 0 (by simp)
  have kP_1 : w3.cell? ⟨w.heap.size, 1, none⟩ = some (.slice y0 y1 y2) := HbP1.out.cell 1 (by simp)
  have kP_2 : w3.cell? ⟨w.heap.size, 2, none⟩ = some (.bool false) := HbP1.out.cell 2 (by simp)
  go_wp2_with fail
  clear kP_0 kP_1 kP_2
  have HT2 : Hid (Sha.Tb w3) := HT1.out.below Hs4.out
  have Hm1 : Hid (Rd w3 am m) := Hm0.out.below (btr Hs1.out Hs4.out) (Nat.le_refl _)
  have Hr1 : Hid (Nu w3 (.slice r0 r1 r2) R) := Hr0.out.below (btr Hs1.out Hs4.out) (Nat.le_refl _)
  have Ht1 : Hid (Nu w3 (.slice t0 t1 t2) S) := Ht0.out.below (btr Hs1.out Hs4.out) (Nat.le_refl _)
  have Hx1 : Hid (Nu w3 (.slice x0 x1 x2) X) := Hx0.out.below (btr Hs1.out Hs4.out) (Nat.le_refl _)
  have Hy1 : Hid (Nu w3 (.slice y0 y1 y2) Y) := Hy0.out.below (btr Hs1.out Hs4.out) (Nat.le_refl _)
  refine (CR _ _ _ _ _ HT2.out Hm1.out Hr1.out Ht1.out Hx1.out Hy1.out).mono ?_
  rintro e w5 ⟨rfl, hB⟩
  have Hs6 : Hid (Below w3.heap.size w3 w5) := hB
  clear hB CR
  go_wp2_with fail
  refine (order_v hk _).mono ?_
  rintro e w7 ⟨nv, rfl, mN, hB⟩
  have Hs8 : Hid (Below w5.heap.size w5 w7) := hB
  obtain ⟨n0, n1, n2, rfl⟩ := mN.nk.sl
  have Hn0 : Hid (Mk w7 0 (.slice n0 n1 n2) n 384) := mN.base (Nat.zero_le _)
  clear mN hB
  go_wp2_with fail
  have CS := fun w => Sha.size_any h w
  have hz0 : (((Sha.siz h : Nat) : Int) == 0) = false := by have := h0; simp; omega
  generalize Sha.siz h = zs at CS hz0
  refine (CS _).mono ?_
  clear CS
  rintro e w7 ⟨rfl, rfl⟩
  go_wp2_with fail
  refine (size_v hk _).mono ?_
  rintro e w9 ⟨rfl, hB⟩
  have Hs10 : Hid (Below w7.heap.size w7 w9) := hB
  clear hB
  have hs0 : (s == 0) = false := by rcases hk.s0 with hh | hh <;> subst hh <;> rfl
  have HbP2 : Hid (Bl 41 w9 w.heap.size [.slice x0 x1 x2, .slice y0 y1 y2, .bool false]) := HbP1.out.below (btr Hs6.out (btr Hs8.out Hs10.out)) HbP1.out.lt
  have kP_0 : w9.cell? ⟨w.heap.size, 0, none⟩ = some (.slice x0 x1 x2) := HbP2.out.cell 0 (by simp)
  have kP_1 : w9.cell? ⟨w.heap.size, 1, none⟩ = some (.slice y0 y1 y2) := HbP2.out.cell 1 (by simp)
  have kP_2 : w9.cell? ⟨w.heap.size, 2, none⟩ = some (.bool false) := HbP2.out.cell 2 (by simp)
  go_wp2_with fail
  clear kP_0 kP_1 kP_2
  have Hx2 : Hid (Nu w9 (.slice x0 x1 x2) X) := Hx1.out.below (btr Hs6.out (btr Hs8.out Hs10.out)) (Nat.le_refl _)
  have Hy2 : Hid (Nu w9 (.slice y0 y1 y2) Y) := Hy1.out.below (btr Hs6.out (btr Hs8.out Hs10.out)) (Nat.le_refl _)
  have C := on_v hk _ _ X Y false _ Hx2.out Hy2.out
  rw [ho] at C
  refine (C).mono ?_
  rintro e w11 ⟨rfl, hB⟩
  have Hs12 : Hid (Below w9.heap.size w9 w11) := hB
  clear hB C
  have HbP3 : Hid (Bl 41 w11 w.heap.size [.slice x0 x1 x2, .slice y0 y1 y2, .bool false]) := HbP2.out.below Hs12.out HbP2.out.lt
  have kP_0 : w11.cell? ⟨w.heap.size, 0, none⟩ = some (.slice x0 x1 x2) := HbP3.out.cell 0 (by simp)
  have kP_1 : w11.cell? ⟨w.heap.size, 1, none⟩ = some (.slice y0 y1 y2) := HbP3.out.cell 1 (by simp)
  have kP_2 : w11.cell? ⟨w.heap.size, 2, none⟩ = some (.bool false) := HbP3.out.cell 2 (by simp)
  go_wp2_with fail
  clear kP_0 kP_1 kP_2
  have Hx3 : Hid (Nu w11 (.slice x0 x1 x2) X) := Hx2.out.below Hs12.out (Nat.le_refl _)
  have Hn1 : Hid (Mk w11 0 (.slice n0 n1 n2) n 384) := Hn0.out.below (btr Hs10.out Hs12.out)
  refine (vdiv _ _ X n _ _ _ Hx3.out Hn1.out.nk.1 (by decide) (by decide) (by have := hk.pmn.1; omega)).mono ?_
  rintro e w13 ⟨dv, ev, rfl, hq, hr_⟩
  have Hs14 : Hid (Below w11.heap.size w11 w13) := hq.2.2
  obtain ⟨d0, d1, d2, rfl⟩ := hq.vl.shape
  obtain ⟨e0, e1, e2, rfl⟩ := hr_.vl.shape
  have He0 : Hid (Nu w13 (.slice e0 e1 e2) (X % n)) := New.vl hr_
  clear hq hr_
  obtain ⟨bR, HbR⟩ : ∃ z : Int, Hid (z = ((bl R : Nat) : Int)) := ⟨_, rfl⟩
  go_wp2_with fail
  have Hr2 : Hid (Nu w13 (.slice r0 r1 r2) R) := Hr1.out.below (btr Hs6.out (btr Hs8.out (btr Hs10.out (btr Hs12.out Hs14.out)))) (Nat.le_refl _)
  have C := bits_p Hr2.out
  rw [← HbR.out] at C
  refine C.mono ?_
  clear C
  rintro e w13 ⟨rfl, rfl⟩
  by_cases hR0 : 0 < R
  rotate_left
  · have hz : (bR == 0) = true := by rw [HbR.out, bl_is0, decide_eq_true hR0]
    have HB1 : Hid (Below w.heap.size w w13) := HB0.out.trans ((btr Hs1.out (btr Hs4.out (btr Hs6.out (btr Hs8.out (btr Hs10.out (btr Hs12.out Hs14.out)))))).mono HB0.out.size)
    go_wp2
    go_ret
    exact ⟨rfl, HB1.out⟩
  have hzR : (bR == 0) = false := by rw [HbR.out, bl_is0, decide_eq_false (not_not_intro hR0)]
  obtain ⟨bS, HbS⟩ : ∃ z : Int, Hid (z = ((bl S : Nat) : Int)) := ⟨_, rfl⟩
  go_wp2_with fail
  have Ht2 : Hid (Nu w13 (.slice t0 t1 t2) S) := Ht1.out.below (btr Hs6.out (btr Hs8.out (btr Hs10.out (btr Hs12.out Hs14.out)))) (Nat.le_refl _)
  have C := bits_p Ht2.out
  rw [← HbS.out] at C
  refine C.mono ?_
  clear C
  rintro e w13 ⟨rfl, rfl⟩
  by_cases hS0 : 0 < S
  rotate_left
  · have hz : (bS == 0) = true := by rw [HbS.out, bl_is0, decide_eq_true hS0]
    have HB1 : Hid (Below w.heap.size w w13) := HB0.out.trans ((btr Hs1.out (btr Hs4.out (btr Hs6.out (btr Hs8.out (btr Hs10.out (btr Hs12.out Hs14.out)))))).mono HB0.out.size)
    go_wp2
    go_ret
    exact ⟨rfl, HB1.out⟩
  have hzS : (bS == 0) = false := by rw [HbS.out, bl_is0, decide_eq_false (not_not_intro hS0)]
  obtain ⟨cR, HcR⟩ : ∃ z : Int, Hid (z = cmp3 (R : Int) (n : Int)) := ⟨_, rfl⟩
  go_wp2_with fail
  have Hn2 : Hid (Mk w13 0 (.slice n0 n1 n2) n 384) := Hn1.out.below Hs14.out
  have C := vcmp _ _ R n _ _ _ Hr2.out Hn2.out.nk.1 (by decide) (by decide)
  rw [← HcR.out] at C
  refine (C).mono ?_
  rintro e w15 ⟨rfl, q_, hq_⟩
  have Hs16 : Hid (Below w13.heap.size w13 w15) := (by rw [hq_]; exact below_drewN (Below.refl _ _) q_ : Below _ _ _)
  clear hq_ q_
  clear C
  by_cases hRn : R < n
  rotate_left
  · have hz : decide (cR ≥ 0) = true := by rw [HcR.out, cmp_ge, decide_eq_true hRn]
    have hz' : (0 : Int) ≤ cR := of_decide_eq_true hz
    have HB1 : Hid (Below w.heap.size w w15) := HB0.out.trans ((btr Hs1.out (btr Hs4.out (btr Hs6.out (btr Hs8.out (btr Hs10.out (btr Hs12.out (btr Hs14.out Hs16.out))))))).mono HB0.out.size)
    go_wp2
    go_ret
    exact ⟨rfl, HB1.out⟩
  have hyR : decide (cR ≥ 0) = false := by rw [HcR.out, cmp_ge, decide_eq_false (not_not_intro hRn)]
  have hwR : ¬ (0 : Int) ≤ cR := of_decide_eq_false hyR
  obtain ⟨cS, HcS⟩ : ∃ z : Int, Hid (z = cmp3 (S : Int) (n : Int)) := ⟨_, rfl⟩
  go_wp2_with fail
  have Ht3 : Hid (Nu w15 (.slice t0 t1 t2) S) := Ht2.out.below Hs16.out (Nat.le_refl _)
  have Hn3 : Hid (Mk w15 0 (.slice n0 n1 n2) n 384) := Hn2.out.below Hs16.out
  have C := vcmp _ _ S n _ _ _ Ht3.out Hn3.out.nk.1 (by decide) (by decide)
  rw [← HcS.out] at C
  refine (C).mono ?_
  rintro e w17 ⟨rfl, q_, hq_⟩
  have Hs18 : Hid (Below w15.heap.size w15 w17) := (by rw [hq_]; exact below_drewN (Below.refl _ _) q_ : Below _ _ _)
  clear hq_ q_
  clear C
  by_cases hSn : S < n
  rotate_left
  · have hz : decide (cS ≥ 0) = true := by rw [HcS.out, cmp_ge, decide_eq_true hSn]
    have hz' : (0 : Int) ≤ cS := of_decide_eq_true hz
    have HB1 : Hid (Below w.heap.size w w17) := HB0.out.trans ((btr Hs1.out (btr Hs4.out (btr Hs6.out (btr Hs8.out (btr Hs10.out (btr Hs12.out (btr Hs14.out (btr Hs16.out Hs18.out)))))))).mono HB0.out.size)
    go_wp2
    go_ret
    exact ⟨rfl, HB1.out⟩
  have hyS : decide (cS ≥ 0) = false := by rw [HcS.out, cmp_ge, decide_eq_false (not_not_intro hSn)]
  have hwS : ¬ (0 : Int) ≤ cS := of_decide_eq_false hyS
  have HRn : Hid (0 < R ∧ R < n) := ⟨hR0, hRn⟩
  have HSn : Hid (0 < S ∧ S < n) := ⟨hS0, hSn⟩
  obtain ⟨cM, HcM⟩ : ∃ z : Int, Hid (z = cmp3 ((X % n : Nat) : Int) (R : Int)) := ⟨_, rfl⟩
  go_wp2_with fail
  have He1 : Hid (Nu w17 (.slice e0 e1 e2) (X % n)) := He0.out.below (btr Hs16.out Hs18.out) (Nat.le_refl _)
  have Hr3 : Hid (Nu w17 (.slice r0 r1 r2) R) := Hr2.out.below (btr Hs16.out Hs18.out) (Nat.le_refl _)
  have C := vcmp _ _ (X % n) R _ _ _ He1.out Hr3.out (by decide) (by decide)
  rw [← HcM.out] at C
  refine (C).mono ?_
  rintro e w19 ⟨rfl, q_, hq_⟩
  have Hs20 : Hid (Below w17.heap.size w17 w19) := (by rw [hq_]; exact below_drewN (Below.refl _ _) q_ : Below _ _ _)
  clear hq_ q_
  clear C
  by_cases hxr : X % n = R
  rotate_left
  · have hc : (cM != 0) = true := by rw [HcM.out]; exact bne_iff_ne.2 (cmq_ne hxr)
    have HB1 : Hid (Below w.heap.size w w19) := HB0.out.trans ((btr Hs1.out (btr Hs4.out (btr Hs6.out (btr Hs8.out (btr Hs10.out (btr Hs12.out (btr Hs14.out (btr Hs16.out (btr Hs18.out Hs20.out))))))))).mono HB0.out.size)
    go_wp2
    go_ret
    exact ⟨rfl, HB1.out⟩
  have hc : (cM != 0) = false := by rw [HcM.out, hxr, cmq_eq]; rfl
  have HE : Hid (ml p S (.A X Y) = ml p (zV s h m) (.A gx gy)) := hk.gp.recO ((onB_iff hk.pm).1 ho).1 (iv_inz hk.prn HRn.out.1 HRn.out.2).2 (HO.out HRn.out HSn.out hxr)
  have HbP4 : Hid (Bl 41 w19 w.heap.size [.slice x0 x1 x2, .slice y0 y1 y2, .bool false]) := HbP3.out.below (btr Hs14.out (btr Hs16.out (btr Hs18.out Hs20.out))) HbP3.out.lt
  have kP_0 : w19.cell? ⟨w.heap.size, 0, none⟩ = some (.slice x0 x1 x2) := HbP4.out.cell 0 (by simp)
  have kP_1 : w19.cell? ⟨w.heap.size, 1, none⟩ = some (.slice y0 y1 y2) := HbP4.out.cell 1 (by simp)
  have kP_2 : w19.cell? ⟨w.heap.size, 2, none⟩ = some (.bool false) := HbP4.out.cell 2 (by simp)
  go_wp2_with fail
  clear kP_0 kP_1 kP_2
  have Ht4 : Hid (Nu w19 (.slice t0 t1 t2) S) := Ht3.out.below (btr Hs18.out Hs20.out) (Nat.le_refl _)
  have Hx4 : Hid (Nu w19 (.slice x0 x1 x2) X) := Hx3.out.below (btr Hs14.out (btr Hs16.out (btr Hs18.out Hs20.out))) (Nat.le_refl _)
  have Hy3 : Hid (Nu w19 (.slice y0 y1 y2) Y) := Hy2.out.below (btr Hs12.out (btr Hs14.out (btr Hs16.out (btr Hs18.out Hs20.out)))) (Nat.le_refl _)
  have C := mul_ok hk _ _ _ S X Y false _ Ht4.out Hx4.out Hy3.out ho (bl_384 (hk.pmn.lt HSn.out.2))
  rw [show ml p (S % n) (ptO X Y false) = ml p S (.A X Y) from hk.gp.mm ((onB_iff hk.pm).1 ho).1 S] at C
  refine (C).mono ?_
  rintro e w21 ⟨r, rfl, hPa⟩
  have Hs22 : Hid (Below w19.heap.size w19 w21) := hPa.bel
  obtain ⟨ax0, ay0, ax1, ax2, ay1, ay2, aX, aY, af, rfl, hpv⟩ := hPa.pv
  have Hpa0 : Hid (Pv w21 (.slice ax0 ax1 ax2) (.slice ay0 ay1 ay2) af aX aY (ml p S (.A X Y))) := hpv
  clear hpv
  clear hPa C
  have Hs23 : Hid (Below w21.heap.size w21 (w21.alloc (.cells #[.slice ax0 ax1 ax2, .slice ay0 ay1 ay2, .bool af] 41))) := alloc_below _ _
  have Hba0 : Hid (Bl 41 (w21.alloc (.cells #[.slice ax0 ax1 ax2, .slice ay0 ay1 ay2, .bool af] 41)) w21.heap.size [.slice ax0 ax1 ax2, .slice ay0 ay1 ay2, .bool af]) := alloc_bl w21 [.slice ax0 ax1 ax2, .slice ay0 ay1 ay2, .bool af] 41
  go_wp2_with fail
  generalize (w21.alloc (.cells #[.slice ax0 ax1 ax2, .slice ay0 ay1 ay2, .bool af] 41)) = wv24 at *
  have HT3 : Hid (Sha.Tb wv24) := HT2.out.below (btr Hs6.out (btr Hs8.out (btr Hs10.out (btr Hs12.out (btr Hs14.out (btr Hs16.out (btr Hs18.out (btr Hs20.out (btr Hs22.out Hs23.out)))))))))
  have Hm2 : Hid (Rd wv24 am m) := Hm1.out.below (btr Hs6.out (btr Hs8.out (btr Hs10.out (btr Hs12.out (btr Hs14.out (btr Hs16.out (btr Hs18.out (btr Hs20.out (btr Hs22.out Hs23.out))))))))) (Nat.le_refl _)
  refine (lnumber_v hk h am cm m _ HT3.out Hm2.out HLn.out.2.1 HLn.out.2.2 (by have := HLn.out.1; omega)).mono ?_
  rintro e w25 ⟨zv, rfl, mz, hB⟩
  have Hs26 : Hid (Below wv24.heap.size wv24 w25) := hB
  obtain ⟨z0, z1, z2, rfl⟩ := mz.nk.sl
  have Hz0 : Hid (Mk w25 0 (.slice z0 z1 z2) (zV s h m) 384) := mz.base (Nat.zero_le _)
  clear mz hB
  go_wp2_with fail
  refine (base_v hk _).mono ?_
  rintro e w27 ⟨r, rfl, hPa⟩
  have Hs28 : Hid (Below w25.heap.size w25 w27) := hPa.bel
  obtain ⟨gx0, gy0, gx1, gx2, gy1, gy2, gX, gY, gf, rfl, hpv⟩ := hPa.pv
  have Hpg0 : Hid (Pv w27 (.slice gx0 gx1 gx2) (.slice gy0 gy1 gy2) gf gX gY (.A gx gy)) := hpv
  clear hpv
  clear hPa
  go_wp2_with fail
  have Hz1 : Hid (Mk w27 0 (.slice z0 z1 z2) (zV s h m) 384) := Hz0.out.below Hs28.out
  refine (mul_p hk Hz1.out.nk Hpg0.out hk.gp.oG).mono ?_
  rintro e w29 ⟨r, rfl, hPa, hB⟩
  have Hs30 : Hid (Below w27.heap.size w27 w29) := hB
  rw [← HE.out] at hPa
  have Hpa1 : Hid (Pv w29 (.slice ax0 ax1 ax2) (.slice ay0 ay1 ay2) af aX aY (ml p S (.A X Y))) := Hpa0.out.below (btr Hs23.out (btr Hs26.out (btr Hs28.out Hs30.out))) (Nat.le_refl _)
  obtain ⟨tx0, ty0, tx1, tx2, ty1, ty2, tX, tY, tf, rfl, hpv⟩ := hPa.pv
  obtain ⟨e1_, e2_, e3_⟩ := Hpa1.out.one hpv
  subst e1_
  subst e2_
  subst e3_
  have Hpt0 : Hid (Pv w29 (.slice tx0 tx1 tx2) (.slice ty0 ty1 ty2) af aX aY (ml p S (.A X Y))) := hpv
  clear hPa hB hpv
  have Hs31 : Hid (Below w29.heap.size w29 (w29.alloc (.cells #[.slice tx0 tx1 tx2, .slice ty0 ty1 ty2, .bool af] 41))) := alloc_below _ _
  have Hbt0 : Hid (Bl 41 (w29.alloc (.cells #[.slice tx0 tx1 tx2, .slice ty0 ty1 ty2, .bool af] 41)) w29.heap.size [.slice tx0 tx1 tx2, .slice ty0 ty1 ty2, .bool af]) := alloc_bl w29 [.slice tx0 tx1 tx2, .slice ty0 ty1 ty2, .bool af] 41
  have hff : (af == af) = true := by simp
  have Hba1 : Hid (Bl 41 (w29.alloc (.cells #[.slice tx0 tx1 tx2, .slice ty0 ty1 ty2, .bool af] 41)) w21.heap.size [.slice ax0 ax1 ax2, .slice ay0 ay1 ay2, .bool af]) := Hba0.out.below (btr Hs26.out (btr Hs28.out (btr Hs30.out Hs31.out))) Hba0.out.lt
  have ka_0 : (w29.alloc (.cells #[.slice tx0 tx1 tx2, .slice ty0 ty1 ty2, .bool af] 41)).cell? ⟨w21.heap.size, 0, none⟩ = some (.slice ax0 ax1 ax2) := Hba1.out.cell 0 (by simp)
  have ka_1 : (w29.alloc (.cells #[.slice tx0 tx1 tx2, .slice ty0 ty1 ty2, .bool af] 41)).cell? ⟨w21.heap.size, 1, none⟩ = some (.slice ay0 ay1 ay2) := Hba1.out.cell 1 (by simp)
  have ka_2 : (w29.alloc (.cells #[.slice tx0 tx1 tx2, .slice ty0 ty1 ty2, .bool af] 41)).cell? ⟨w21.heap.size, 2, none⟩ = some (.bool af) := Hba1.out.cell 2 (by simp)
  have kt_0 : (w29.alloc (.cells #[.slice tx0 tx1 tx2, .slice ty0 ty1 ty2, .bool af] 41)).cell? ⟨w29.heap.size, 0, none⟩ = some (.slice tx0 tx1 tx2) := Hbt0.out.cell 0 (by simp)
  have kt_1 : (w29.alloc (.cells #[.slice tx0 tx1 tx2, .slice ty0 ty1 ty2, .bool af] 41)).cell? ⟨w29.heap.size, 1, none⟩ = some (.slice ty0 ty1 ty2) := Hbt0.out.cell 1 (by simp)
  have kt_2 : (w29.alloc (.cells #[.slice tx0 tx1 tx2, .slice ty0 ty1 ty2, .bool af] 41)).cell? ⟨w29.heap.size, 2, none⟩ = some (.bool af) := Hbt0.out.cell 2 (by simp)
  go_wp2_with fail
  clear ka_0 ka_1 ka_2 kt_0 kt_1 kt_2
  generalize (w29.alloc (.cells #[.slice tx0 tx1 tx2, .slice ty0 ty1 ty2, .bool af] 41)) = wv32 at *
  have Hpa2 : Hid (Pv wv32 (.slice ax0 ax1 ax2) (.slice ay0 ay1 ay2) af aX aY (ml p S (.A X Y))) := Hpa1.out.below Hs31.out (Nat.le_refl _)
  have Hpt1 : Hid (Pv wv32 (.slice tx0 tx1 tx2) (.slice ty0 ty1 ty2) af aX aY (ml p S (.A X Y))) := Hpt0.out.below Hs31.out (Nat.le_refl _)
  refine (same_mk Hpa2.out.mx Hpt1.out.mx).mono ?_
  rintro e w33 ⟨rfl, q_, hq_⟩
  have Hs34 : Hid (Below wv32.heap.size wv32 w33) := (by rw [hq_]; exact below_drewN (Below.refl _ _) q_ : Below _ _ _)
  clear hq_ q_
  have Hba2 : Hid (Bl 41 w33 w21.heap.size [.slice ax0 ax1 ax2, .slice ay0 ay1 ay2, .bool af]) := Hba1.out.below Hs34.out Hba1.out.lt
  have ka_0 : w33.cell? ⟨w21.heap.size, 0, none⟩ = some (.slice ax0 ax1 ax2) := Hba2.out.cell 0 (by simp)
  have ka_1 : w33.cell? ⟨w21.heap.size, 1, none⟩ = some (.slice ay0 ay1 ay2) := Hba2.out.cell 1 (by simp)
  have ka_2 : w33.cell? ⟨w21.heap.size, 2, none⟩ = some (.bool af) := Hba2.out.cell 2 (by simp)
  have Hbt1 : Hid (Bl 41 w33 w29.heap.size [.slice tx0 tx1 tx2, .slice ty0 ty1 ty2, .bool af]) := Hbt0.out.below Hs34.out Hbt0.out.lt
  have kt_0 : w33.cell? ⟨w29.heap.size, 0, none⟩ = some (.slice tx0 tx1 tx2) := Hbt1.out.cell 0 (by simp)
  have kt_1 : w33.cell? ⟨w29.heap.size, 1, none⟩ = some (.slice ty0 ty1 ty2) := Hbt1.out.cell 1 (by simp)
  have kt_2 : w33.cell? ⟨w29.heap.size, 2, none⟩ = some (.bool af) := Hbt1.out.cell 2 (by simp)
  go_wp2_with fail
  clear ka_0 ka_1 ka_2 kt_0 kt_1 kt_2
  have Hpa3 : Hid (Pv w33 (.slice ax0 ax1 ax2) (.slice ay0 ay1 ay2) af aX aY (ml p S (.A X Y))) := Hpa2.out.below Hs34.out (Nat.le_refl _)
  have Hpt2 : Hid (Pv w33 (.slice tx0 tx1 tx2) (.slice ty0 ty1 ty2) af aX aY (ml p S (.A X Y))) := Hpt1.out.below Hs34.out (Nat.le_refl _)
  refine (same_mk Hpa3.out.my Hpt2.out.my).mono ?_
  rintro e w35 ⟨rfl, q_, hq_⟩
  have Hs36 : Hid (Below w33.heap.size w33 w35) := (by rw [hq_]; exact below_drewN (Below.refl _ _) q_ : Below _ _ _)
  clear hq_ q_
  have HB1 : Hid (Below w.heap.size w w35) := HB0.out.trans ((btr Hs1.out (btr Hs4.out (btr Hs6.out (btr Hs8.out (btr Hs10.out (btr Hs12.out (btr Hs14.out (btr Hs16.out (btr Hs18.out (btr Hs20.out (btr Hs22.out (btr Hs23.out (btr Hs26.out (btr Hs28.out (btr Hs30.out (btr Hs31.out (btr Hs34.out Hs36.out))))))))))))))))).mono HB0.out.size)
  go_wp2
  go_ret
  exact ⟨rfl, HB1.out⟩
set_option maxHeartbeats 40000000 in
theorem co_ok {c s : Int} {p b n gx gy : Nat} (hk : Kv c p b n gx gy s) (h : Int) (am : Option Addr) (cm : Nat) (m : List UInt8) (r t x y : Value) (R S X Y : Nat) (w : World) (T : Sha.Tb w) (hm : Rd w am m) (l3 : m.length ≤ 100000000) (c3 : m.length ≤ cm ∧ cm ≤ 9223372036854775807) (hr : Nu w r R) (ht : Nu w t S) (hx : Nu w x X) (hy : Nu w y Y) (a cc : Nat) (h0 : Sha.siz h ≠ 0) (ho : onB p b X Y false = true) (r1' : 0 < R ∧ R < n) (s1' : 0 < S ∧ S < n) (hmk : X % n = R) (hQ : jt p n (.A gx gy) (mn n (zV s h m)) S (iv n R) (.A X Y) = .A a cc) (oQ : onB p b a cc false = true) :
    Calls Tryz.prog 5 #[.int .i64 h, .int .i64 c, .slice am m.length cm, r, t, .agg #[x, y, .bool false]] w fun e w' => e = .returned (.bool true) ∧ Below w.heap.size w w' := by
  obtain ⟨r0, r1, r2, rfl⟩ := hr.shape
  obtain ⟨t0, t1, t2, rfl⟩ := ht.shape
  obtain ⟨x0, x1, x2, rfl⟩ := hx.shape
  obtain ⟨y0, y1, y2, rfl⟩ := hy.shape
  have HT0 : Hid (Sha.Tb w) := T
  have Hm0 : Hid (Rd w am m) := hm
  have Hr0 : Hid (Nu w (.slice r0 r1 r2) R) := hr
  have Ht0 : Hid (Nu w (.slice t0 t1 t2) S) := ht
  have Hx0 : Hid (Nu w (.slice x0 x1 x2) X) := hx
  have Hy0 : Hid (Nu w (.slice y0 y1 y2) Y) := hy
  have HB0 : Hid (Below w.heap.size w w) := Below.refl _ _
  have HLn : Hid (m.length ≤ 100000000 ∧ m.length ≤ cm ∧ cm ≤ 9223372036854775807) := ⟨l3, c3⟩
  clear T hm l3 c3 hr ht hx hy
  go_enter Tryz.func5, Tryz.ntmps5
  have Hs1 : Hid (Below w.heap.size w (w.alloc (.cells #[.slice x0 x1 x2, .slice y0 y1 y2, .bool false] 41))) := alloc_below _ _
  have HbP0 : Hid (Bl 41 (w.alloc (.cells #[.slice x0 x1 x2, .slice y0 y1 y2, .bool false] 41)) w.heap.size [.slice x0 x1 x2, .slice y0 y1 y2, .bool false]) := alloc_bl w [.slice x0 x1 x2, .slice y0 y1 y2, .bool false] 41
  go_wp2_with fail
  generalize (w.alloc (.cells #[.slice x0 x1 x2, .slice y0 y1 y2, .bool false] 41)) = wv2 at *
  have HT1 : Hid (Sha.Tb wv2) := HT0.out.below Hs1.out
  refine (awake12_v _ HT1.out).mono ?_
  rintro e w3 ⟨rfl, hB⟩
  have Hs4 : Hid (Below wv2.heap.size wv2 w3) := hB
  clear hB
  have HD : Hid (Sha.siz h ≠ 0 ∧ onB p b X Y false = true ∧ (0 < R ∧ R < n) ∧ (0 < S ∧ S < n) ∧ X % n = R ∧ jt p n (.A gx gy) (mn n (zV s h m)) S (iv n R) (.A X Y) = .A a cc) := ⟨h0, ho, r1', s1', hmk, hQ⟩
  have HT2 : Hid (Sha.Tb w3) := HT1.out.below Hs4.out
  have Hm1 : Hid (Rd w3 am m) := Hm0.out.below (btr Hs1.out Hs4.out) (Nat.le_refl _)
  have Hr1 : Hid (Nu w3 (.slice r0 r1 r2) R) := Hr0.out.below (btr Hs1.out Hs4.out) (Nat.le_refl _)
  have Ht1 : Hid (Nu w3 (.slice t0 t1 t2) S) := Ht0.out.below (btr Hs1.out Hs4.out) (Nat.le_refl _)
  have Hx1 : Hid (Nu w3 (.slice x0 x1 x2) X) := Hx0.out.below (btr Hs1.out Hs4.out) (Nat.le_refl _)
  have Hy1 : Hid (Nu w3 (.slice y0 y1 y2) Y) := Hy0.out.below (btr Hs1.out Hs4.out) (Nat.le_refl _)
  have HbP1 : Hid (Bl 41 w3 w.heap.size [.slice x0 x1 x2, .slice y0 y1 y2, .bool false]) := HbP0.out.below Hs4.out HbP0.out.lt
  have kP_0 : w3.cell? ⟨w.heap.size, 0, none⟩ = some (.slice x0 x1 x2) := HbP1.out.cell 0 (by simp)
  have kP_1 : w3.cell? ⟨w.heap.size, 1, none⟩ = some (.slice y0 y1 y2) := HbP1.out.cell 1 (by simp)
  have kP_2 : w3.cell? ⟨w.heap.size, 2, none⟩ = some (.bool false) := HbP1.out.cell 2 (by simp)
  go_wp2_with fail
  clear kP_0 kP_1 kP_2
  refine (rec_ok hk h am cm m _ _ _ _ R S X Y a cc _ HT2.out Hm1.out HLn.out.1 HLn.out.2 Hr1.out Ht1.out Hx1.out Hy1.out h0 ho r1' s1' hmk hQ oQ).mono ?_
  rintro e w5 ⟨xr, yr, rfl, o1, o2, hB⟩
  have Hs6 : Hid (Below w3.heap.size w3 w5) := hB
  obtain ⟨la, Hla⟩ : ∃ l, Hid (l = tobe s.toNat a) := ⟨_, rfl⟩
  obtain ⟨lc, Hlc⟩ : ∃ l, Hid (l = tobe s.toNat cc) := ⟨_, rfl⟩
  rw [← Hla.out] at o1
  rw [← Hlc.out] at o2
  have HLs : Hid (la.length ≤ 100000000 ∧ lc.length ≤ 100000000) := (show la.length ≤ 100000000 ∧ lc.length ≤ 100000000 from by rw [Hla.out, Hlc.out, tobe_length, tobe_length]; rcases hk.s0 with hh | hh <;> subst hh <;> decide)
  obtain ⟨xa, xc, rfl, hx1, hx2⟩ := o1.nb
  obtain ⟨ya, yc, rfl, hy1, hy2⟩ := o2.nb
  have Hu0 : Hid (Rd w5 xa la) := hx2
  have Hv0 : Hid (Rd w5 ya lc) := hy2
  clear o1 o2 hx1 hx2 hy1 hy2 hB
  go_wp2_with fail
  refine (size_v hk _).mono ?_
  rintro e w7 ⟨rfl, hB⟩
  have Hs8 : Hid (Below w5.heap.size w5 w7) := hB
  clear hB
  go_wp2_with fail
  have Hr2 : Hid (Nu w7 (.slice r0 r1 r2) R) := Hr1.out.below (btr Hs6.out Hs8.out) (Nat.le_refl _)
  have Ht2 : Hid (Nu w7 (.slice t0 t1 t2) S) := Ht1.out.below (btr Hs6.out Hs8.out) (Nat.le_refl _)
  refine (joined_v _ _ R S s _ Hr2.out Ht2.out (lst_ok hk (Nat.lt_trans HD.out.2.2.1.2 hk.nlp)) (lst_ok hk (Nat.lt_trans HD.out.2.2.2.1.2 hk.nlp))).mono ?_
  rintro e w9 ⟨ov, rfl, o1, hB⟩
  have Hs10 : Hid (Below w7.heap.size w7 w9) := hB
  obtain ⟨lo, Hlo⟩ : ∃ l, Hid (l = tobe s.toNat R ++ tobe s.toNat S) := ⟨_, rfl⟩
  rw [← Hlo.out] at o1
  obtain ⟨oa, oc, rfl, hs1, hs2⟩ := o1.nb
  have Hoc : Hid (lo.length ≤ oc) := hs1
  have Ho0 : Hid (Rd w9 oa lo) := hs2
  clear hB o1 hs1 hs2
  go_wp2_with fail
  have HT3 : Hid (Sha.Tb w9) := HT2.out.below (btr Hs6.out (btr Hs8.out Hs10.out))
  have Hu1 : Hid (Rd w9 xa la) := Hu0.out.below (btr Hs8.out Hs10.out) (Nat.le_refl _)
  have Hv1 : Hid (Rd w9 ya lc) := Hv0.out.below (btr Hs8.out Hs10.out) (Nat.le_refl _)
  have Hm2 : Hid (Rd w9 am m) := Hm1.out.below (btr Hs6.out (btr Hs8.out Hs10.out)) (Nat.le_refl _)
  have C := verify_v hk h xa ya am oa xc yc cm oc la lc m lo _ HT3.out Hu1.out Hv1.out Hm2.out Ho0.out HLs.out.1 HLs.out.2 HLn.out.1 Hoc.out HLn.out.2
  rw [show verV p b n (.A gx gy) s h la lc m lo = 0 from (by rw [Hla.out, Hlc.out, Hlo.out]; exact ver_rec hk HD.out.1 HD.out.2.1 HD.out.2.2.1 HD.out.2.2.2.1 HD.out.2.2.2.2.1 HD.out.2.2.2.2.2)] at C
  refine (C).mono ?_
  rintro e w11 ⟨rfl, hB⟩
  have Hs12 : Hid (Below w9.heap.size w9 w11) := hB
  clear hB C
  have HB1 : Hid (Below w.heap.size w w11) := HB0.out.trans ((btr Hs1.out (btr Hs4.out (btr Hs6.out (btr Hs8.out (btr Hs10.out Hs12.out))))).mono HB0.out.size)
  go_wp2
  go_ret
  exact ⟨rfl, HB1.out⟩
theorem complete_core (c : Int) (h : Int) (am : Option Addr) (cm : Nat) (m : List UInt8) (r t x y : Value) (R S X Y : Nat) (w : World) (T : Sha.Tb w) (hm : Rd w am m) (l3 : m.length ≤ 100000000) (c3 : m.length ≤ cm ∧ cm ≤ 9223372036854775807) (hr : Nu w r R) (ht : Nu w t S) (hx : Nu w x X) (hy : Nu w y Y) (inf : Bool) : Calls Tryz.prog 5 #[.int .i64 h, .int .i64 c, .slice am m.length cm, r, t, .agg #[x, y, .bool inf]] w fun e w' => e = .returned (.bool true) ∧ Below w.heap.size w w' := by
  by_cases h0 : Sha.siz h = 0
  · exact co_alg c h am cm m r t x y R S X Y w T hm l3 c3 hr ht hx hy inf h0
  have key : ∀ {s : Int} {p b n gx gy : Nat}, Kv c p b n gx gy s → Calls Tryz.prog 5 #[.int .i64 h, .int .i64 c, .slice am m.length cm, r, t, .agg #[x, y, .bool inf]] w fun e w' => e = .returned (.bool true) ∧ Below w.heap.size w w' := by
    intro s p b n gx gy hk
    cases inf with
    | true => exact co_inf hk h am cm m r t x y R S X Y w T hm l3 c3 hr ht hx hy h0
    | false =>
      by_cases ho : onB p b X Y false = false
      · exact co_off hk h am cm m r t x y R S X Y w T hm l3 c3 hr ht hx hy h0 ho
      have ho : onB p b X Y false = true := by simpa using ho
      by_cases r1 : 0 < R ∧ R < n
      · by_cases s1 : 0 < S ∧ S < n
        · by_cases hmk : X % n = R
          · cases hQ : jt p n (.A gx gy) (mn n (zV s h m)) S (iv n R) (.A X Y) with
            | O => exact co_sig hk h am cm m r t x y R S X Y w T hm l3 c3 hr ht hx hy h0 ho (fun w r t x y T hm hr ht hx hy => rec_O hk h am cm m r t x y R S X Y w T hm l3 c3 hr ht hx hy h0 ho r1 s1 hmk hQ) (fun _ _ _ => hQ)
            | A a cc =>
              have oQ : onP p b (.A a cc) := hQ ▸ hk.gp.jon ((onB_iff hk.pm).1 ho).1
              exact co_ok hk h am cm m r t x y R S X Y w T hm l3 c3 hr ht hx hy a cc h0 ho r1 s1 hmk hQ ((onB_iff hk.pm).2 ⟨oQ, fun h => by cases h⟩)
          · exact co_sig hk h am cm m r t x y R S X Y w T hm l3 c3 hr ht hx hy h0 ho (fun w r t x y T hm hr ht hx hy => rec_mk hk h am cm m r t x y R S X Y w T hm l3 c3 hr ht hx hy h0 ho r1 s1 hmk) (fun _ _ h => absurd h hmk)
        · exact co_sig hk h am cm m r t x y R S X Y w T hm l3 c3 hr ht hx hy h0 ho (fun w r t x y T hm hr ht hx hy => rec_s hk h am cm m r t x y R S X Y w T hm l3 c3 hr ht hx hy h0 ho r1 s1) (fun _ h _ => absurd h s1)
      · exact co_sig hk h am cm m r t x y R S X Y w T hm l3 c3 hr ht hx hy h0 ho (fun w r t x y T hm hr ht hx hy => rec_r hk h am cm m r t x y R S X Y w T hm l3 c3 hr ht hx hy h0 ho r1) (fun h _ _ => absurd h r1)
  by_cases h1 : c = 1
  · subst h1; exact key .k1
  · by_cases h2 : c = 2
    · subst h2; exact key .k2
    · exact co_none c h1 h2 h am cm m r t x y R S X Y w T hm l3 c3 hr ht hx hy inf h0
end Go.Proofs.YtghfoppojdkhkaaGreatDoor
