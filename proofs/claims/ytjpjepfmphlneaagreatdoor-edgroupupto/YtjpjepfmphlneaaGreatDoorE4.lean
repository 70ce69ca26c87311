import Derived.Test.YtjpjepfmphlneaaGreatDoorGD
namespace Go.Proofs.YtjpjepfmphlneaaGreatDoor
open Go.RowKit

set_option maxRecDepth 100000

theorem btr {a b c : World} (h : Below a.heap.size a b) (g : Below b.heap.size b c) : Below a.heap.size a c := h.trans (g.mono h.size)
theorem decode_g (ao : Option Addr) (c : Nat) (l : List UInt8) (w : World) (T : Te w) (hr : Rd w ao l) :
    Calls Tryz.prog 14 #[.slice ao l.length c] w fun e w' => ((∃ P v, onE eP eD P ∧ encL P = l ∧ e = .returned (.tuple #[v, .int .i64 0]) ∧ Pe w' w.heap.size v P) ∨ ((∀ P, onE eP eD P → encL P ≠ l) ∧ e = .returned (.tuple #[.agg #[.slice none 0 0, .slice none 0 0, .bool false], .int .i64 93]))) ∧ Below w.heap.size w w' := decode_v ao c l w T hr
theorem lopp_g {w : World} {x y : Value} {P : Nat × Nat} (h : Pn w x y P) (oP : onE eP eD P) : Calls Tryz.prog 19 #[.agg #[x, y, .bool false]] w fun e w' => ∃ u, e = .returned (.agg #[u, y, .bool false]) ∧ Pn w' u y (ne eP P) ∧ Below w.heap.size w w' := by
  refine (lopposite_v x y P.1 P.2 w ⟨h.nx, h.2.2.1⟩ ⟨h.ny, h.2.2.2⟩ oP.1).mono ?_
  rintro e w' ⟨u, rfl, m, hB⟩
  exact ⟨u, rfl, ⟨m.nm, h.2.1.below hB (Nat.le_refl _), m.2.2, h.2.2.2⟩, hB⟩
theorem Pe.pn' {w : World} {b : Nat} {x y : Value} {P : Nat × Nat} (h : Pe w b (.agg #[x, y, .bool false]) P) : Pn w x y P := by
  obtain ⟨u, v, e, hp⟩ := h.pn
  obtain ⟨rfl, rfl⟩ : x = u ∧ y = v := by simpa using e
  exact hp
theorem Pn.zero {w : World} {b : Nat} {y : Value} (h : Mk w b y 1 32) : Pn w (.slice none 0 0) y (0, 1) :=
  ⟨⟨none, 0, by rw [dg_zero]; rfl, by rw [dg_zero]; decide, by rw [dg_zero]; exact Rn.nil _ _, by rw [dg_zero]; exact fun y hy => by cases hy⟩, h.nm, Nat.pow_pos (by decide), by show 1 < 2 ^ 256; decide +kernel⟩
theorem nm_none (w : World) : Nm w (.slice none 0 0) [] := ⟨none, 0, rfl, Nat.le_refl _, Rn.nil _ _, fun y hy => by cases hy⟩
theorem lone_none (w : World) : Calls Tryz.prog 15 #[.agg #[.slice none 0 0, .slice none 0 0, .bool false], .agg #[.slice none 0 0, .slice none 0 0, .bool false]] w fun e w' => e = .returned (.bool true) ∧ Below w.heap.size w w' := by
  have C := lone_v _ _ _ _ [] [] [] [] false false w (nm_none w) (nm_none w) (nm_none w) (nm_none w) (by decide) (by decide)
  exact C
set_option maxHeartbeats 40000000 in
theorem edGroup_core (aa ab ac : Option Addr) (ca cb cc : Nat) (l1 l2 l3 : List UInt8) (w : World) (T : Te w) (TS : Sha.Tb w) (hra : Rd w aa l1) (hca : l1.length ≤ ca ∧ ca ≤ 9223372036854775807) (hna : aa = none → l1.length = 0 ∧ ca = 0) (hla : l1.length ≤ 1048576) (hrb : Rd w ab l2) (hcb : l2.length ≤ cb ∧ cb ≤ 9223372036854775807) (hnb : ab = none → l2.length = 0 ∧ cb = 0) (hlb : l2.length ≤ 1048576) (hrc : Rd w ac l3) (hcc : l3.length ≤ cc ∧ cc ≤ 9223372036854775807) (hnc : ac = none → l3.length = 0 ∧ cc = 0) (hlc : l3.length ≤ 1048576) :
    Calls Tryz.prog 4 #[.slice aa l1.length ca, .slice ab l2.length cb, .slice ac l3.length cc] w fun e w' => e = .returned (.bool true) ∧ Below w.heap.size w w' := by
  obtain ⟨i, hi, hz, hsize, hby⟩ := info_u8
  have HT : Hid (Te w ∧ Sha.Tb w) := ⟨T, TS⟩
  clear T TS
  have HB0 : Hid (Below w.heap.size w w) := Below.refl _ _
  have Hra0 : Hid (Rd w aa l1) := hra
  have Hca : Hid ((l1.length ≤ ca ∧ ca ≤ 9223372036854775807) ∧ (aa = none → l1.length = 0 ∧ ca = 0) ∧ l1.length ≤ 1048576) := ⟨hca, hna, hla⟩
  have Hrb0 : Hid (Rd w ab l2) := hrb
  have Hcb : Hid ((l2.length ≤ cb ∧ cb ≤ 9223372036854775807) ∧ (ab = none → l2.length = 0 ∧ cb = 0) ∧ l2.length ≤ 1048576) := ⟨hcb, hnb, hlb⟩
  have Hrc0 : Hid (Rd w ac l3) := hrc
  have Hcc : Hid ((l3.length ≤ cc ∧ cc ≤ 9223372036854775807) ∧ (ac = none → l3.length = 0 ∧ cc = 0) ∧ l3.length ≤ 1048576) := ⟨hcc, hnc, hlc⟩
  clear hra hca hna hla hrb hcb hnb hlb hrc hcc hnc hlc
  go_enter Tryz.func4, Tryz.ntmps4
  go_wp2_with fail
  refine (awake13_v _ (HT.out.1.below HB0.out (Nat.le_refl _)) (HT.out.2.below HB0.out)).mono ?_
  rintro e w1 ⟨rfl, hB⟩
  have Hs1 : Hid (Below w.heap.size w w1) := hB
  clear hB
  go_wp2_with fail
  have HB1 : Hid (Below w.heap.size w w1) := HB0.out.trans (Hs1.out.mono HB0.out.size)
  have Hra1 : Hid (Rd w1 aa l1) := Hra0.out.below Hs1.out (Nat.le_refl _)
  refine (decode_g aa ca l1 _ (HT.out.1.below HB1.out (Nat.le_refl _)) Hra1.out).mono ?_
  rintro e w2 ⟨hA, hB⟩
  have Hs2 : Hid (Below w1.heap.size w1 w2) := hB
  clear hB
  rcases hA with ⟨P, v, oP, _, rfl, hm⟩ | ⟨_, rfl⟩
  · have HP : Hid (onE eP eD P) := oP
    obtain ⟨px, py, rfl, hpn⟩ := hm.pn
    obtain ⟨⟨px0, px1, px2, rfl⟩, ⟨py0, py1, py2, rfl⟩⟩ := hpn.sl
    have Hpp0 : Hid (Pn w2 (.slice px0 px1 px2) (.slice py0 py1 py2) P) := hpn
    clear hpn
    clear hm oP
    have Hs2z : Hid (Below w2.heap.size w2 (w2.alloc (.cells #[.slice px0 px1 px2, .slice py0 py1 py2, .bool false] 31))) := alloc_below _ _
    have Hbp0 : Hid (Bl 31 (w2.alloc (.cells #[.slice px0 px1 px2, .slice py0 py1 py2, .bool false] 31)) w2.heap.size [.slice px0 px1 px2, .slice py0 py1 py2, .bool false]) := alloc_bl w2 [.slice px0 px1 px2, .slice py0 py1 py2, .bool false] 31
    go_wp2_with fail
    generalize (w2.alloc (.cells #[.slice px0 px1 px2, .slice py0 py1 py2, .bool false] 31)) = wv3 at *
    have HB2 : Hid (Below w.heap.size w wv3) := HB1.out.trans ((btr Hs2.out Hs2z.out).mono HB1.out.size)
    have Hrb1 : Hid (Rd wv3 ab l2) := Hrb0.out.below (btr Hs1.out (btr Hs2.out Hs2z.out)) (Nat.le_refl _)
    refine (decode_g ab cb l2 _ (HT.out.1.below HB2.out (Nat.le_refl _)) Hrb1.out).mono ?_
    rintro e w4 ⟨hA, hB⟩
    have Hs4 : Hid (Below wv3.heap.size wv3 w4) := hB
    clear hB
    rcases hA with ⟨Q, v, oQ, _, rfl, hm⟩ | ⟨_, rfl⟩
    · have HQ : Hid (onE eP eD Q) := oQ
      obtain ⟨qx, qy, rfl, hpn⟩ := hm.pn
      obtain ⟨⟨qx0, qx1, qx2, rfl⟩, ⟨qy0, qy1, qy2, rfl⟩⟩ := hpn.sl
      have Hpq0 : Hid (Pn w4 (.slice qx0 qx1 qx2) (.slice qy0 qy1 qy2) Q) := hpn
      clear hpn
      clear hm oQ
      have Hs4z : Hid (Below w4.heap.size w4 (w4.alloc (.cells #[.slice qx0 qx1 qx2, .slice qy0 qy1 qy2, .bool false] 31))) := alloc_below _ _
      have Hbq0 : Hid (Bl 31 (w4.alloc (.cells #[.slice qx0 qx1 qx2, .slice qy0 qy1 qy2, .bool false] 31)) w4.heap.size [.slice qx0 qx1 qx2, .slice qy0 qy1 qy2, .bool false]) := alloc_bl w4 [.slice qx0 qx1 qx2, .slice qy0 qy1 qy2, .bool false] 31
      go_wp2_with fail
      generalize (w4.alloc (.cells #[.slice qx0 qx1 qx2, .slice qy0 qy1 qy2, .bool false] 31)) = wv5 at *
      have HB3 : Hid (Below w.heap.size w wv5) := HB2.out.trans ((btr Hs4.out Hs4z.out).mono HB2.out.size)
      have Hrc1 : Hid (Rd wv5 ac l3) := Hrc0.out.below (btr Hs1.out (btr Hs2.out (btr Hs2z.out (btr Hs4.out Hs4z.out)))) (Nat.le_refl _)
      refine (decode_g ac cc l3 _ (HT.out.1.below HB3.out (Nat.le_refl _)) Hrc1.out).mono ?_
      rintro e w6 ⟨hA, hB⟩
      have Hs6 : Hid (Below wv5.heap.size wv5 w6) := hB
      clear hB
      rcases hA with ⟨R, v, oR, _, rfl, hm⟩ | ⟨_, rfl⟩
      · have HR : Hid (onE eP eD R) := oR
        obtain ⟨rx, ry, rfl, hpn⟩ := hm.pn
        obtain ⟨⟨rx0, rx1, rx2, rfl⟩, ⟨ry0, ry1, ry2, rfl⟩⟩ := hpn.sl
        have Hpr0 : Hid (Pn w6 (.slice rx0 rx1 rx2) (.slice ry0 ry1 ry2) R) := hpn
        clear hpn
        clear hm oR
        have Hs6z : Hid (Below w6.heap.size w6 (w6.alloc (.cells #[.slice rx0 rx1 rx2, .slice ry0 ry1 ry2, .bool false] 31))) := alloc_below _ _
        have Hbr0 : Hid (Bl 31 (w6.alloc (.cells #[.slice rx0 rx1 rx2, .slice ry0 ry1 ry2, .bool false] 31)) w6.heap.size [.slice rx0 rx1 rx2, .slice ry0 ry1 ry2, .bool false]) := alloc_bl w6 [.slice rx0 rx1 rx2, .slice ry0 ry1 ry2, .bool false] 31
        have Hbp1 : Hid (Bl 31 (w6.alloc (.cells #[.slice rx0 rx1 rx2, .slice ry0 ry1 ry2, .bool false] 31)) w2.heap.size [.slice px0 px1 px2, .slice py0 py1 py2, .bool false]) := Hbp0.out.below (btr Hs4.out (btr Hs4z.out (btr Hs6.out Hs6z.out))) Hbp0.out.lt
        have kp_0 : (w6.alloc (.cells #[.slice rx0 rx1 rx2, .slice ry0 ry1 ry2, .bool false] 31)).cell? ⟨w2.heap.size, 0, none⟩ = some (.slice px0 px1 px2) := Hbp1.out.cell 0 (by simp)
        have kp_1 : (w6.alloc (.cells #[.slice rx0 rx1 rx2, .slice ry0 ry1 ry2, .bool false] 31)).cell? ⟨w2.heap.size, 1, none⟩ = some (.slice py0 py1 py2) := Hbp1.out.cell 1 (by simp)
        have kp_2 : (w6.alloc (.cells #[.slice rx0 rx1 rx2, .slice ry0 ry1 ry2, .bool false] 31)).cell? ⟨w2.heap.size, 2, none⟩ = some (.bool false) := Hbp1.out.cell 2 (by simp)
        go_wp2_with fail
        clear kp_0 kp_1 kp_2
        generalize (w6.alloc (.cells #[.slice rx0 rx1 rx2, .slice ry0 ry1 ry2, .bool false] 31)) = wv7 at *
        have Hpp1 : Hid (Pn wv7 (.slice px0 px1 px2) (.slice py0 py1 py2) P) := Hpp0.out.below (btr Hs2z.out (btr Hs4.out (btr Hs4z.out (btr Hs6.out Hs6z.out)))) (Nat.le_refl _)
        refine (lon_p Hpp1.out HP.out).mono ?_
        rintro e w8 ⟨rfl, hB⟩
        have Hs8 : Hid (Below wv7.heap.size wv7 w8) := hB
        clear hB
        have Hbq1 : Hid (Bl 31 w8 w4.heap.size [.slice qx0 qx1 qx2, .slice qy0 qy1 qy2, .bool false]) := Hbq0.out.below (btr Hs6.out (btr Hs6z.out Hs8.out)) Hbq0.out.lt
        have kq_0 : w8.cell? ⟨w4.heap.size, 0, none⟩ = some (.slice qx0 qx1 qx2) := Hbq1.out.cell 0 (by simp)
        have kq_1 : w8.cell? ⟨w4.heap.size, 1, none⟩ = some (.slice qy0 qy1 qy2) := Hbq1.out.cell 1 (by simp)
        have kq_2 : w8.cell? ⟨w4.heap.size, 2, none⟩ = some (.bool false) := Hbq1.out.cell 2 (by simp)
        go_wp2_with fail
        clear kq_0 kq_1 kq_2
        have Hpq1 : Hid (Pn w8 (.slice qx0 qx1 qx2) (.slice qy0 qy1 qy2) Q) := Hpq0.out.below (btr Hs4z.out (btr Hs6.out (btr Hs6z.out Hs8.out))) (Nat.le_refl _)
        refine (lon_p Hpq1.out HQ.out).mono ?_
        rintro e w9 ⟨rfl, hB⟩
        have Hs9 : Hid (Below w8.heap.size w8 w9) := hB
        clear hB
        have Hbr1 : Hid (Bl 31 w9 w6.heap.size [.slice rx0 rx1 rx2, .slice ry0 ry1 ry2, .bool false]) := Hbr0.out.below (btr Hs8.out Hs9.out) Hbr0.out.lt
        have kr_0 : w9.cell? ⟨w6.heap.size, 0, none⟩ = some (.slice rx0 rx1 rx2) := Hbr1.out.cell 0 (by simp)
        have kr_1 : w9.cell? ⟨w6.heap.size, 1, none⟩ = some (.slice ry0 ry1 ry2) := Hbr1.out.cell 1 (by simp)
        have kr_2 : w9.cell? ⟨w6.heap.size, 2, none⟩ = some (.bool false) := Hbr1.out.cell 2 (by simp)
        go_wp2_with fail
        clear kr_0 kr_1 kr_2
        have Hpr1 : Hid (Pn w9 (.slice rx0 rx1 rx2) (.slice ry0 ry1 ry2) R) := Hpr0.out.below (btr Hs6z.out (btr Hs8.out Hs9.out)) (Nat.le_refl _)
        refine (lon_p Hpr1.out HR.out).mono ?_
        rintro e w10 ⟨rfl, hB⟩
        have Hs10 : Hid (Below w9.heap.size w9 w10) := hB
        clear hB
        have Hbp2 : Hid (Bl 31 w10 w2.heap.size [.slice px0 px1 px2, .slice py0 py1 py2, .bool false]) := Hbp1.out.below (btr Hs8.out (btr Hs9.out Hs10.out)) Hbp1.out.lt
        have kp_0 : w10.cell? ⟨w2.heap.size, 0, none⟩ = some (.slice px0 px1 px2) := Hbp2.out.cell 0 (by simp)
        have kp_1 : w10.cell? ⟨w2.heap.size, 1, none⟩ = some (.slice py0 py1 py2) := Hbp2.out.cell 1 (by simp)
        have kp_2 : w10.cell? ⟨w2.heap.size, 2, none⟩ = some (.bool false) := Hbp2.out.cell 2 (by simp)
        have Hbq2 : Hid (Bl 31 w10 w4.heap.size [.slice qx0 qx1 qx2, .slice qy0 qy1 qy2, .bool false]) := Hbq1.out.below (btr Hs9.out Hs10.out) Hbq1.out.lt
        have kq_0 : w10.cell? ⟨w4.heap.size, 0, none⟩ = some (.slice qx0 qx1 qx2) := Hbq2.out.cell 0 (by simp)
        have kq_1 : w10.cell? ⟨w4.heap.size, 1, none⟩ = some (.slice qy0 qy1 qy2) := Hbq2.out.cell 1 (by simp)
        have kq_2 : w10.cell? ⟨w4.heap.size, 2, none⟩ = some (.bool false) := Hbq2.out.cell 2 (by simp)
        go_wp2_with fail
        clear kp_0 kp_1 kp_2 kq_0 kq_1 kq_2
        have HB4 : Hid (Below w.heap.size w w10) := HB3.out.trans ((btr Hs6.out (btr Hs6z.out (btr Hs8.out (btr Hs9.out Hs10.out)))).mono HB3.out.size)
        have Hpp2 : Hid (Pn w10 (.slice px0 px1 px2) (.slice py0 py1 py2) P) := Hpp1.out.below (btr Hs8.out (btr Hs9.out Hs10.out)) (Nat.le_refl _)
        have Hpq2 : Hid (Pn w10 (.slice qx0 qx1 qx2) (.slice qy0 qy1 qy2) Q) := Hpq1.out.below (btr Hs9.out Hs10.out) (Nat.le_refl _)
        refine (add_p (HT.out.1.below HB4.out (Nat.le_refl _)) Hpp2.out Hpq2.out HP.out HQ.out).mono ?_
        rintro e w11 ⟨v, rfl, hm, hB⟩
        have Hs11 : Hid (Below w10.heap.size w10 w11) := hB
        obtain ⟨ix, iy, rfl, hpn⟩ := hm.pn
        obtain ⟨⟨ix0, ix1, ix2, rfl⟩, ⟨iy0, iy1, iy2, rfl⟩⟩ := hpn.sl
        have Hpi0 : Hid (Pn w11 (.slice ix0 ix1 ix2) (.slice iy0 iy1 iy2) (se eP eD P Q)) := hpn
        clear hpn
        clear hB hm
        have Hs11z : Hid (Below w11.heap.size w11 (w11.alloc (.cells #[.slice ix0 ix1 ix2, .slice iy0 iy1 iy2, .bool false] 31))) := alloc_below _ _
        have Hbi0 : Hid (Bl 31 (w11.alloc (.cells #[.slice ix0 ix1 ix2, .slice iy0 iy1 iy2, .bool false] 31)) w11.heap.size [.slice ix0 ix1 ix2, .slice iy0 iy1 iy2, .bool false]) := alloc_bl w11 [.slice ix0 ix1 ix2, .slice iy0 iy1 iy2, .bool false] 31
        have Hbp3 : Hid (Bl 31 (w11.alloc (.cells #[.slice ix0 ix1 ix2, .slice iy0 iy1 iy2, .bool false] 31)) w2.heap.size [.slice px0 px1 px2, .slice py0 py1 py2, .bool false]) := Hbp2.out.below (btr Hs11.out Hs11z.out) Hbp2.out.lt
        have kp_0 : (w11.alloc (.cells #[.slice ix0 ix1 ix2, .slice iy0 iy1 iy2, .bool false] 31)).cell? ⟨w2.heap.size, 0, none⟩ = some (.slice px0 px1 px2) := Hbp3.out.cell 0 (by simp)
        have kp_1 : (w11.alloc (.cells #[.slice ix0 ix1 ix2, .slice iy0 iy1 iy2, .bool false] 31)).cell? ⟨w2.heap.size, 1, none⟩ = some (.slice py0 py1 py2) := Hbp3.out.cell 1 (by simp)
        have kp_2 : (w11.alloc (.cells #[.slice ix0 ix1 ix2, .slice iy0 iy1 iy2, .bool false] 31)).cell? ⟨w2.heap.size, 2, none⟩ = some (.bool false) := Hbp3.out.cell 2 (by simp)
        have Hbq3 : Hid (Bl 31 (w11.alloc (.cells #[.slice ix0 ix1 ix2, .slice iy0 iy1 iy2, .bool false] 31)) w4.heap.size [.slice qx0 qx1 qx2, .slice qy0 qy1 qy2, .bool false]) := Hbq2.out.below (btr Hs11.out Hs11z.out) Hbq2.out.lt
        have kq_0 : (w11.alloc (.cells #[.slice ix0 ix1 ix2, .slice iy0 iy1 iy2, .bool false] 31)).cell? ⟨w4.heap.size, 0, none⟩ = some (.slice qx0 qx1 qx2) := Hbq3.out.cell 0 (by simp)
        have kq_1 : (w11.alloc (.cells #[.slice ix0 ix1 ix2, .slice iy0 iy1 iy2, .bool false] 31)).cell? ⟨w4.heap.size, 1, none⟩ = some (.slice qy0 qy1 qy2) := Hbq3.out.cell 1 (by simp)
        have kq_2 : (w11.alloc (.cells #[.slice ix0 ix1 ix2, .slice iy0 iy1 iy2, .bool false] 31)).cell? ⟨w4.heap.size, 2, none⟩ = some (.bool false) := Hbq3.out.cell 2 (by simp)
        go_wp2_with fail
        clear kp_0 kp_1 kp_2 kq_0 kq_1 kq_2
        generalize (w11.alloc (.cells #[.slice ix0 ix1 ix2, .slice iy0 iy1 iy2, .bool false] 31)) = wv12 at *
        have HB5 : Hid (Below w.heap.size w wv12) := HB4.out.trans ((btr Hs11.out Hs11z.out).mono HB4.out.size)
        have Hpq3 : Hid (Pn wv12 (.slice qx0 qx1 qx2) (.slice qy0 qy1 qy2) Q) := Hpq2.out.below (btr Hs11.out Hs11z.out) (Nat.le_refl _)
        have Hpp3 : Hid (Pn wv12 (.slice px0 px1 px2) (.slice py0 py1 py2) P) := Hpp2.out.below (btr Hs11.out Hs11z.out) (Nat.le_refl _)
        refine (add_p (HT.out.1.below HB5.out (Nat.le_refl _)) Hpq3.out Hpp3.out HQ.out HP.out).mono ?_
        rintro e w13 ⟨v, rfl, hm, hB⟩
        have Hs13 : Hid (Below wv12.heap.size wv12 w13) := hB
        obtain ⟨jx, jy, rfl, hpn⟩ := hm.pn
        obtain ⟨⟨jx0, jx1, jx2, rfl⟩, ⟨jy0, jy1, jy2, rfl⟩⟩ := hpn.sl
        have Hpj0 : Hid (Pn w13 (.slice jx0 jx1 jx2) (.slice jy0 jy1 jy2) (se eP eD Q P)) := hpn
        clear hpn
        clear hB hm
        have Hs13z : Hid (Below w13.heap.size w13 (w13.alloc (.cells #[.slice jx0 jx1 jx2, .slice jy0 jy1 jy2, .bool false] 31))) := alloc_below _ _
        have Hbj0 : Hid (Bl 31 (w13.alloc (.cells #[.slice jx0 jx1 jx2, .slice jy0 jy1 jy2, .bool false] 31)) w13.heap.size [.slice jx0 jx1 jx2, .slice jy0 jy1 jy2, .bool false]) := alloc_bl w13 [.slice jx0 jx1 jx2, .slice jy0 jy1 jy2, .bool false] 31
        have Hbq4 : Hid (Bl 31 (w13.alloc (.cells #[.slice jx0 jx1 jx2, .slice jy0 jy1 jy2, .bool false] 31)) w4.heap.size [.slice qx0 qx1 qx2, .slice qy0 qy1 qy2, .bool false]) := Hbq3.out.below (btr Hs13.out Hs13z.out) Hbq3.out.lt
        have kq_0 : (w13.alloc (.cells #[.slice jx0 jx1 jx2, .slice jy0 jy1 jy2, .bool false] 31)).cell? ⟨w4.heap.size, 0, none⟩ = some (.slice qx0 qx1 qx2) := Hbq4.out.cell 0 (by simp)
        have kq_1 : (w13.alloc (.cells #[.slice jx0 jx1 jx2, .slice jy0 jy1 jy2, .bool false] 31)).cell? ⟨w4.heap.size, 1, none⟩ = some (.slice qy0 qy1 qy2) := Hbq4.out.cell 1 (by simp)
        have kq_2 : (w13.alloc (.cells #[.slice jx0 jx1 jx2, .slice jy0 jy1 jy2, .bool false] 31)).cell? ⟨w4.heap.size, 2, none⟩ = some (.bool false) := Hbq4.out.cell 2 (by simp)
        have Hbr2 : Hid (Bl 31 (w13.alloc (.cells #[.slice jx0 jx1 jx2, .slice jy0 jy1 jy2, .bool false] 31)) w6.heap.size [.slice rx0 rx1 rx2, .slice ry0 ry1 ry2, .bool false]) := Hbr1.out.below (btr Hs10.out (btr Hs11.out (btr Hs11z.out (btr Hs13.out Hs13z.out)))) Hbr1.out.lt
        have kr_0 : (w13.alloc (.cells #[.slice jx0 jx1 jx2, .slice jy0 jy1 jy2, .bool false] 31)).cell? ⟨w6.heap.size, 0, none⟩ = some (.slice rx0 rx1 rx2) := Hbr2.out.cell 0 (by simp)
        have kr_1 : (w13.alloc (.cells #[.slice jx0 jx1 jx2, .slice jy0 jy1 jy2, .bool false] 31)).cell? ⟨w6.heap.size, 1, none⟩ = some (.slice ry0 ry1 ry2) := Hbr2.out.cell 1 (by simp)
        have kr_2 : (w13.alloc (.cells #[.slice jx0 jx1 jx2, .slice jy0 jy1 jy2, .bool false] 31)).cell? ⟨w6.heap.size, 2, none⟩ = some (.bool false) := Hbr2.out.cell 2 (by simp)
        go_wp2_with fail
        clear kq_0 kq_1 kq_2 kr_0 kr_1 kr_2
        generalize (w13.alloc (.cells #[.slice jx0 jx1 jx2, .slice jy0 jy1 jy2, .bool false] 31)) = wv14 at *
        have HB6 : Hid (Below w.heap.size w wv14) := HB5.out.trans ((btr Hs13.out Hs13z.out).mono HB5.out.size)
        have Hpq4 : Hid (Pn wv14 (.slice qx0 qx1 qx2) (.slice qy0 qy1 qy2) Q) := Hpq3.out.below (btr Hs13.out Hs13z.out) (Nat.le_refl _)
        have Hpr2 : Hid (Pn wv14 (.slice rx0 rx1 rx2) (.slice ry0 ry1 ry2) R) := Hpr1.out.below (btr Hs10.out (btr Hs11.out (btr Hs11z.out (btr Hs13.out Hs13z.out)))) (Nat.le_refl _)
        refine (add_p (HT.out.1.below HB6.out (Nat.le_refl _)) Hpq4.out Hpr2.out HQ.out HR.out).mono ?_
        rintro e w15 ⟨v, rfl, hm, hB⟩
        have Hs15 : Hid (Below wv14.heap.size wv14 w15) := hB
        obtain ⟨kx, ky, rfl, hpn⟩ := hm.pn
        obtain ⟨⟨kx0, kx1, kx2, rfl⟩, ⟨ky0, ky1, ky2, rfl⟩⟩ := hpn.sl
        have Hpk0 : Hid (Pn w15 (.slice kx0 kx1 kx2) (.slice ky0 ky1 ky2) (se eP eD Q R)) := hpn
        clear hpn
        clear hB hm
        have Hs15z : Hid (Below w15.heap.size w15 (w15.alloc (.cells #[.slice kx0 kx1 kx2, .slice ky0 ky1 ky2, .bool false] 31))) := alloc_below _ _
        have Hbk0 : Hid (Bl 31 (w15.alloc (.cells #[.slice kx0 kx1 kx2, .slice ky0 ky1 ky2, .bool false] 31)) w15.heap.size [.slice kx0 kx1 kx2, .slice ky0 ky1 ky2, .bool false]) := alloc_bl w15 [.slice kx0 kx1 kx2, .slice ky0 ky1 ky2, .bool false] 31
        have Hbi1 : Hid (Bl 31 (w15.alloc (.cells #[.slice kx0 kx1 kx2, .slice ky0 ky1 ky2, .bool false] 31)) w11.heap.size [.slice ix0 ix1 ix2, .slice iy0 iy1 iy2, .bool false]) := Hbi0.out.below (btr Hs13.out (btr Hs13z.out (btr Hs15.out Hs15z.out))) Hbi0.out.lt
        have ki_0 : (w15.alloc (.cells #[.slice kx0 kx1 kx2, .slice ky0 ky1 ky2, .bool false] 31)).cell? ⟨w11.heap.size, 0, none⟩ = some (.slice ix0 ix1 ix2) := Hbi1.out.cell 0 (by simp)
        have ki_1 : (w15.alloc (.cells #[.slice kx0 kx1 kx2, .slice ky0 ky1 ky2, .bool false] 31)).cell? ⟨w11.heap.size, 1, none⟩ = some (.slice iy0 iy1 iy2) := Hbi1.out.cell 1 (by simp)
        have ki_2 : (w15.alloc (.cells #[.slice kx0 kx1 kx2, .slice ky0 ky1 ky2, .bool false] 31)).cell? ⟨w11.heap.size, 2, none⟩ = some (.bool false) := Hbi1.out.cell 2 (by simp)
        have Hbr3 : Hid (Bl 31 (w15.alloc (.cells #[.slice kx0 kx1 kx2, .slice ky0 ky1 ky2, .bool false] 31)) w6.heap.size [.slice rx0 rx1 rx2, .slice ry0 ry1 ry2, .bool false]) := Hbr2.out.below (btr Hs15.out Hs15z.out) Hbr2.out.lt
        have kr_0 : (w15.alloc (.cells #[.slice kx0 kx1 kx2, .slice ky0 ky1 ky2, .bool false] 31)).cell? ⟨w6.heap.size, 0, none⟩ = some (.slice rx0 rx1 rx2) := Hbr3.out.cell 0 (by simp)
        have kr_1 : (w15.alloc (.cells #[.slice kx0 kx1 kx2, .slice ky0 ky1 ky2, .bool false] 31)).cell? ⟨w6.heap.size, 1, none⟩ = some (.slice ry0 ry1 ry2) := Hbr3.out.cell 1 (by simp)
        have kr_2 : (w15.alloc (.cells #[.slice kx0 kx1 kx2, .slice ky0 ky1 ky2, .bool false] 31)).cell? ⟨w6.heap.size, 2, none⟩ = some (.bool false) := Hbr3.out.cell 2 (by simp)
        go_wp2_with fail
        clear ki_0 ki_1 ki_2 kr_0 kr_1 kr_2
        generalize (w15.alloc (.cells #[.slice kx0 kx1 kx2, .slice ky0 ky1 ky2, .bool false] 31)) = wv16 at *
        have HB7 : Hid (Below w.heap.size w wv16) := HB6.out.trans ((btr Hs15.out Hs15z.out).mono HB6.out.size)
        have Hpi1 : Hid (Pn wv16 (.slice ix0 ix1 ix2) (.slice iy0 iy1 iy2) (se eP eD P Q)) := Hpi0.out.below (btr Hs11z.out (btr Hs13.out (btr Hs13z.out (btr Hs15.out Hs15z.out)))) (Nat.le_refl _)
        have Hpr3 : Hid (Pn wv16 (.slice rx0 rx1 rx2) (.slice ry0 ry1 ry2) R) := Hpr2.out.below (btr Hs15.out Hs15z.out) (Nat.le_refl _)
        refine (add_p (HT.out.1.below HB7.out (Nat.le_refl _)) Hpi1.out Hpr3.out (ew.son HP.out HQ.out) HR.out).mono ?_
        rintro e w17 ⟨v, rfl, hm, hB⟩
        have Hs17 : Hid (Below wv16.heap.size wv16 w17) := hB
        obtain ⟨lx, ly, rfl, hpn⟩ := hm.pn
        obtain ⟨⟨lx0, lx1, lx2, rfl⟩, ⟨ly0, ly1, ly2, rfl⟩⟩ := hpn.sl
        have Hpl0 : Hid (Pn w17 (.slice lx0 lx1 lx2) (.slice ly0 ly1 ly2) (se eP eD (se eP eD P Q) R)) := hpn
        clear hpn
        clear hB hm
        have Hs17z : Hid (Below w17.heap.size w17 (w17.alloc (.cells #[.slice lx0 lx1 lx2, .slice ly0 ly1 ly2, .bool false] 31))) := alloc_below _ _
        have Hbl0 : Hid (Bl 31 (w17.alloc (.cells #[.slice lx0 lx1 lx2, .slice ly0 ly1 ly2, .bool false] 31)) w17.heap.size [.slice lx0 lx1 lx2, .slice ly0 ly1 ly2, .bool false]) := alloc_bl w17 [.slice lx0 lx1 lx2, .slice ly0 ly1 ly2, .bool false] 31
        have Hbk1 : Hid (Bl 31 (w17.alloc (.cells #[.slice lx0 lx1 lx2, .slice ly0 ly1 ly2, .bool false] 31)) w15.heap.size [.slice kx0 kx1 kx2, .slice ky0 ky1 ky2, .bool false]) := Hbk0.out.below (btr Hs17.out Hs17z.out) Hbk0.out.lt
        have kk_0 : (w17.alloc (.cells #[.slice lx0 lx1 lx2, .slice ly0 ly1 ly2, .bool false] 31)).cell? ⟨w15.heap.size, 0, none⟩ = some (.slice kx0 kx1 kx2) := Hbk1.out.cell 0 (by simp)
        have kk_1 : (w17.alloc (.cells #[.slice lx0 lx1 lx2, .slice ly0 ly1 ly2, .bool false] 31)).cell? ⟨w15.heap.size, 1, none⟩ = some (.slice ky0 ky1 ky2) := Hbk1.out.cell 1 (by simp)
        have kk_2 : (w17.alloc (.cells #[.slice lx0 lx1 lx2, .slice ly0 ly1 ly2, .bool false] 31)).cell? ⟨w15.heap.size, 2, none⟩ = some (.bool false) := Hbk1.out.cell 2 (by simp)
        have Hbp4 : Hid (Bl 31 (w17.alloc (.cells #[.slice lx0 lx1 lx2, .slice ly0 ly1 ly2, .bool false] 31)) w2.heap.size [.slice px0 px1 px2, .slice py0 py1 py2, .bool false]) := Hbp3.out.below (btr Hs13.out (btr Hs13z.out (btr Hs15.out (btr Hs15z.out (btr Hs17.out Hs17z.out))))) Hbp3.out.lt
        have kp_0 : (w17.alloc (.cells #[.slice lx0 lx1 lx2, .slice ly0 ly1 ly2, .bool false] 31)).cell? ⟨w2.heap.size, 0, none⟩ = some (.slice px0 px1 px2) := Hbp4.out.cell 0 (by simp)
        have kp_1 : (w17.alloc (.cells #[.slice lx0 lx1 lx2, .slice ly0 ly1 ly2, .bool false] 31)).cell? ⟨w2.heap.size, 1, none⟩ = some (.slice py0 py1 py2) := Hbp4.out.cell 1 (by simp)
        have kp_2 : (w17.alloc (.cells #[.slice lx0 lx1 lx2, .slice ly0 ly1 ly2, .bool false] 31)).cell? ⟨w2.heap.size, 2, none⟩ = some (.bool false) := Hbp4.out.cell 2 (by simp)
        go_wp2_with fail
        clear kk_0 kk_1 kk_2 kp_0 kp_1 kp_2
        generalize (w17.alloc (.cells #[.slice lx0 lx1 lx2, .slice ly0 ly1 ly2, .bool false] 31)) = wv18 at *
        have HB8 : Hid (Below w.heap.size w wv18) := HB7.out.trans ((btr Hs17.out Hs17z.out).mono HB7.out.size)
        have Hpp4 : Hid (Pn wv18 (.slice px0 px1 px2) (.slice py0 py1 py2) P) := Hpp3.out.below (btr Hs13.out (btr Hs13z.out (btr Hs15.out (btr Hs15z.out (btr Hs17.out Hs17z.out))))) (Nat.le_refl _)
        have Hpk1 : Hid (Pn wv18 (.slice kx0 kx1 kx2) (.slice ky0 ky1 ky2) (se eP eD Q R)) := Hpk0.out.below (btr Hs15z.out (btr Hs17.out Hs17z.out)) (Nat.le_refl _)
        refine (add_p (HT.out.1.below HB8.out (Nat.le_refl _)) Hpp4.out Hpk1.out HP.out (ew.son HQ.out HR.out)).mono ?_
        rintro e w19 ⟨v, rfl, hm, hB⟩
        have Hs19 : Hid (Below wv18.heap.size wv18 w19) := hB
        obtain ⟨mx, my, rfl, hpn⟩ := hm.pn
        obtain ⟨⟨mx0, mx1, mx2, rfl⟩, ⟨my0, my1, my2, rfl⟩⟩ := hpn.sl
        have Hpm0 : Hid (Pn w19 (.slice mx0 mx1 mx2) (.slice my0 my1 my2) (se eP eD P (se eP eD Q R))) := hpn
        clear hpn
        clear hB hm
        have Hs19z : Hid (Below w19.heap.size w19 (w19.alloc (.cells #[.slice mx0 mx1 mx2, .slice my0 my1 my2, .bool false] 31))) := alloc_below _ _
        have Hbm0 : Hid (Bl 31 (w19.alloc (.cells #[.slice mx0 mx1 mx2, .slice my0 my1 my2, .bool false] 31)) w19.heap.size [.slice mx0 mx1 mx2, .slice my0 my1 my2, .bool false]) := alloc_bl w19 [.slice mx0 mx1 mx2, .slice my0 my1 my2, .bool false] 31
        go_wp2_with fail
        generalize (w19.alloc (.cells #[.slice mx0 mx1 mx2, .slice my0 my1 my2, .bool false] 31)) = wv20 at *
        have Hpp5 : Hid (Pn wv20 (.slice px0 px1 px2) (.slice py0 py1 py2) P) := Hpp4.out.below (btr Hs19.out Hs19z.out) (Nat.le_refl _)
        have HB9 : Hid (Below w.heap.size w wv20) := HB8.out.trans ((btr Hs19.out Hs19z.out).mono HB8.out.size)
        have TD : Hid (Te wv20.drew) := (HT.out.1.below HB9.out (Nat.le_refl _)).drew
        go_cut [23, 24] from 122 to 127 (fun s1 s2 wx => ∃ (w' : World) (g : Nat) (nx0 ny0 : Option Addr) (nx1 nx2 ny1 ny2 : Nat), w' = wx ∧ s1 = .pointer (some ⟨g, 0, none⟩) ∧ s2 = .int .i64 0 ∧ Hid (Below wv20.heap.size wv20 w' ∧ Bl 31 w' g [.slice nx0 nx1 nx2, .slice ny0 ny1 ny2, .bool false] ∧ Pn w' (.slice nx0 nx1 nx2) (.slice ny0 ny1 ny2) P))
        case first =>
          have hBd : Below wv20.heap.size wv20 wv20.drew := below_drewN (Below.refl _ _) 1
          have Hs20 : Hid (Below wv20.heap.size wv20 wv20.drew) := hBd
          clear hBd
          have Hpp6 : Hid (Pn wv20.drew (.slice px0 px1 px2) (.slice py0 py1 py2) P) := Hpp5.out.below Hs20.out (Nat.le_refl _)
          have Hbp5 : Hid (Bl 31 wv20.drew w2.heap.size [.slice px0 px1 px2, .slice py0 py1 py2, .bool false]) := Hbp4.out.below (btr Hs19.out (btr Hs19z.out Hs20.out)) Hbp4.out.lt
          have HBd : Hid (Below wv20.drew.heap.size wv20.drew wv20.drew) := Below.refl _ _
          refine wp_region_K 2 (fun (w' : World) => w'.cell? ⟨w2.heap.size, 0, none⟩ = some (.slice px0 px1 px2) ∧ w'.cell? ⟨w2.heap.size, 1, none⟩ = some (.slice py0 py1 py2) ∧ w'.cell? ⟨w2.heap.size, 2, none⟩ = some (.bool false)) (by kernel_rfl) ?_
          have hHeld : ((fun (w' : World) => w'.cell? ⟨w2.heap.size, 0, none⟩ = some (.slice px0 px1 px2) ∧ w'.cell? ⟨w2.heap.size, 1, none⟩ = some (.slice py0 py1 py2) ∧ w'.cell? ⟨w2.heap.size, 2, none⟩ = some (.bool false))) (World.drew _) := ⟨Hbp5.out.cell 0 (by simp), Hbp5.out.cell 1 (by simp), Hbp5.out.cell 2 (by simp)⟩
          refine wpAnyK_take 0 [2] (v := ?v1) rfl (by kernel_rfl) (fun _ _ _ h => h) (Or.inl ⟨by rfl, ?hy1⟩) hHeld ?_
          case hy1 => (intro w hSw; (try dsimp only at hSw); go_simp; try with_reducible rfl)
          try simp only [Act.put, List.setIfInBounds_toArray, List.set_cons_zero, List.set_cons_succ]
          refine wpAnyK_two 1 6 rfl rfl (by kernel_rfl) (fun K hK => ?_) (fun K hK => ?_)
          · go_simp
            refine (lzero_v _).mono ?_
            rintro e wfa ⟨zy, rfl, mz, hBp⟩
            obtain ⟨zy0, zy1, zy2, rfl⟩ := mz.nk.sl
            have HSa : Hid (Pn wfa (.slice none 0 0) (.slice zy0 zy1 zy2) (0, 1)) := Pn.zero mz
            clear mz
            have HBa1 : Hid (Below wv20.drew.heap.size wv20.drew wfa) := HBd.out.trans (hBp.mono HBd.out.size)
            clear hBp
            try dsimp only
            refine hK.out _ _ ?hk16 ?_
            case hk16 => exact fun _ => ⟨(Hbp5.out.below HBa1.out Hbp5.out.lt).cell 0 (by simp), (Hbp5.out.below HBa1.out Hbp5.out.lt).cell 1 (by simp), (Hbp5.out.below HBa1.out Hbp5.out.lt).cell 2 (by simp)⟩
            have hHeld : ((fun (w' : World) => w'.cell? ⟨w2.heap.size, 0, none⟩ = some (.slice px0 px1 px2) ∧ w'.cell? ⟨w2.heap.size, 1, none⟩ = some (.slice py0 py1 py2) ∧ w'.cell? ⟨w2.heap.size, 2, none⟩ = some (.bool false))) _ := ⟨(Hbp5.out.below HBa1.out Hbp5.out.lt).cell 0 (by simp), (Hbp5.out.below HBa1.out Hbp5.out.lt).cell 1 (by simp), (Hbp5.out.below HBa1.out Hbp5.out.lt).cell 2 (by simp)⟩
            clear hK K
            try simp only [Act.put, List.setIfInBounds_toArray, List.set_cons_zero, List.set_cons_succ]
            refine wpAnyK_two 2 6 rfl rfl (by kernel_rfl) (fun K hK => ?_) (fun K hK => ?_)
            · go_simp
              refine (add_p (TD.out.below HBa1.out (Nat.le_refl _)) (Hpp6.out.below HBa1.out (Nat.le_refl _)) HSa.out HP.out ew.on0).mono ?_
              rintro e wga ⟨v, rfl, hm, hBp⟩
              rw [ew.zr HP.out] at hm
              obtain ⟨nx, ny, rfl, hpn⟩ := hm.pn
              obtain ⟨⟨nx0, nx1, nx2, rfl⟩, ⟨ny0, ny1, ny2, rfl⟩⟩ := hpn.sl
              have HMa : Hid (Pe wga wfa.heap.size (.agg #[.slice nx0 nx1 nx2, .slice ny0 ny1 ny2, .bool false]) P) := hm
              clear hm hpn
              have HBa2 : Hid (Below wv20.drew.heap.size wv20.drew wga) := HBa1.out.trans (hBp.mono HBa1.out.size)
              clear hBp
              try dsimp only
              refine hK.out _ _ ?hk2 ?_
              case hk2 => exact fun _ => ⟨(Hbp5.out.below HBa2.out Hbp5.out.lt).cell 0 (by simp), (Hbp5.out.below HBa2.out Hbp5.out.lt).cell 1 (by simp), (Hbp5.out.below HBa2.out Hbp5.out.lt).cell 2 (by simp)⟩
              have hHeld : ((fun (w' : World) => w'.cell? ⟨w2.heap.size, 0, none⟩ = some (.slice px0 px1 px2) ∧ w'.cell? ⟨w2.heap.size, 1, none⟩ = some (.slice py0 py1 py2) ∧ w'.cell? ⟨w2.heap.size, 2, none⟩ = some (.bool false))) _ := ⟨(Hbp5.out.below HBa2.out Hbp5.out.lt).cell 0 (by simp), (Hbp5.out.below HBa2.out Hbp5.out.lt).cell 1 (by simp), (Hbp5.out.below HBa2.out Hbp5.out.lt).cell 2 (by simp)⟩
              clear hK K
              try simp only [Act.put, List.setIfInBounds_toArray, List.set_cons_zero, List.set_cons_succ]
              refine wpAnyK_take0 3 (v := ?v3) rfl (by kernel_rfl) (fun _ _ _ h => h) (Or.inl ⟨by rfl, ?hy3⟩) (fun _ => hHeld) ?_
              case hy3 => (intro w hSw; go_simp; try with_reducible rfl)
              try simp only [Act.put, List.setIfInBounds_toArray, List.set_cons_zero, List.set_cons_succ]
              refine wpAnyK_take0 4 (v := ?v4) rfl (by kernel_rfl) (fun _ _ _ h => h) (Or.inl ⟨by rfl, ?hy4⟩) (fun _ => hHeld) ?_
              case hy4 => (intro w hSw; go_simp; try with_reducible rfl)
              try simp only [Act.put, List.setIfInBounds_toArray, List.set_cons_zero, List.set_cons_succ]
              refine wpAnyK_take0 5 (v := ?v5) rfl (by kernel_rfl) (fun _ _ _ h => h) (Or.inl ⟨by rfl, ?hy5⟩) (fun _ => hHeld) ?_
              case hy5 => (intro w hSw; go_simp; try with_reducible rfl)
              try simp only [Act.put, List.setIfInBounds_toArray, List.set_cons_zero, List.set_cons_succ]
              refine wpAnyK_step 6 rfl (by kernel_rfl) (fun K hK => ?_)
              go_simp
              have hza : Below wga.heap.size wga (wga.alloc (.cells #[.slice none 0 0, .slice none 0 0, .bool false] 31)) := alloc_below _ _
              have HAa : Hid (Below wv20.drew.heap.size wv20.drew (wga.alloc (.cells #[.slice none 0 0, .slice none 0 0, .bool false] 31))) := HBa2.out.trans (hza.mono HBa2.out.size)
              have HZa : Hid (Bl 31 (wga.alloc (.cells #[.slice none 0 0, .slice none 0 0, .bool false] 31)) wga.heap.size [.slice none 0 0, .slice none 0 0, .bool false]) := alloc_bl wga [.slice none 0 0, .slice none 0 0, .bool false] 31
              try dsimp only
              refine hK.out _ _ ?hk6 ?_
              case hk6 => exact fun _ => ⟨(Hbp5.out.below HAa.out Hbp5.out.lt).cell 0 (by simp), (Hbp5.out.below HAa.out Hbp5.out.lt).cell 1 (by simp), (Hbp5.out.below HAa.out Hbp5.out.lt).cell 2 (by simp)⟩
              have hHeld : ((fun (w' : World) => w'.cell? ⟨w2.heap.size, 0, none⟩ = some (.slice px0 px1 px2) ∧ w'.cell? ⟨w2.heap.size, 1, none⟩ = some (.slice py0 py1 py2) ∧ w'.cell? ⟨w2.heap.size, 2, none⟩ = some (.bool false))) _ := ⟨(Hbp5.out.below HAa.out Hbp5.out.lt).cell 0 (by simp), (Hbp5.out.below HAa.out Hbp5.out.lt).cell 1 (by simp), (Hbp5.out.below HAa.out Hbp5.out.lt).cell 2 (by simp)⟩
              clear hK K
              try simp only [Act.put, List.setIfInBounds_toArray, List.set_cons_zero, List.set_cons_succ]
              refine wpAnyK_step 7 rfl (by kernel_rfl) (fun K hK => ?_)
              rw [if_pos (by kernel_rfl)]
              refine wp_store_row 31 _ _ rfl (wga.heap.size) #[.slice nx0 nx1 nx2, .slice ny0 ny1 ny2, .bool false] rfl rfl 31 #[.slice none 0 0, .slice none 0 0, .bool false] (HZa.out) (by kernel_rfl) rfl (by simp [Value.oneCell']) ?_
              refine hK.out _ _ ?hk7 ?_
              case hk7 => exact (fun h => nomatch (h.symm.trans (show _ = true by kernel_rfl)))
              clear hK K
              try simp only [Act.put]
              refine wpAnyK_take0 8 (v := ?v8) rfl (by kernel_rfl) (fun _ _ _ h => h) (Or.inl ⟨by rfl, ?hy8⟩) (fun h => nomatch (h.symm.trans (show _ = true by kernel_rfl))) ?_
              case hy8 => (intro w hSw; go_simp; try with_reducible rfl)
              try simp only [Act.put, List.setIfInBounds_toArray, List.set_cons_zero, List.set_cons_succ]
              refine wpAnyK_done (by kernel_rfl) ?_ _
              go_wp2_with fail
              go_meet
              have hR := Fm.row wga 31 [.slice none 0 0, .slice none 0 0, .bool false] [.slice nx0 nx1 nx2, .slice ny0 ny1 ny2, .bool false] rfl
              have hbF := HBa2.out.trans (hR.bel.mono HBa2.out.size)
              exact ⟨_, wga.heap.size, nx0, ny0, nx1, nx2, ny1, ny2, rfl, rfl, rfl, (show Below wv20.heap.size wv20 wv20.drew from below_drewN (Below.refl _ _) 1).trans (hbF.mono (show Below wv20.heap.size wv20 wv20.drew from below_drewN (Below.refl _ _) 1).size), (hR.bx 0 (by simp)), (HMa.out.below hR.bel).pn'⟩
            · go_simp
              have hzb : Below wfa.heap.size wfa (wfa.alloc (.cells #[.slice none 0 0, .slice none 0 0, .bool false] 31)) := alloc_below _ _
              have HAb : Hid (Below wv20.drew.heap.size wv20.drew (wfa.alloc (.cells #[.slice none 0 0, .slice none 0 0, .bool false] 31))) := HBa1.out.trans (hzb.mono HBa1.out.size)
              have HZb : Hid (Bl 31 (wfa.alloc (.cells #[.slice none 0 0, .slice none 0 0, .bool false] 31)) wfa.heap.size [.slice none 0 0, .slice none 0 0, .bool false]) := alloc_bl wfa [.slice none 0 0, .slice none 0 0, .bool false] 31
              try dsimp only
              refine hK.out _ _ ?hk9 ?_
              case hk9 => exact fun _ => ⟨(Hbp5.out.below HAb.out Hbp5.out.lt).cell 0 (by simp), (Hbp5.out.below HAb.out Hbp5.out.lt).cell 1 (by simp), (Hbp5.out.below HAb.out Hbp5.out.lt).cell 2 (by simp)⟩
              have hHeld : ((fun (w' : World) => w'.cell? ⟨w2.heap.size, 0, none⟩ = some (.slice px0 px1 px2) ∧ w'.cell? ⟨w2.heap.size, 1, none⟩ = some (.slice py0 py1 py2) ∧ w'.cell? ⟨w2.heap.size, 2, none⟩ = some (.bool false))) _ := ⟨(Hbp5.out.below HAb.out Hbp5.out.lt).cell 0 (by simp), (Hbp5.out.below HAb.out Hbp5.out.lt).cell 1 (by simp), (Hbp5.out.below HAb.out Hbp5.out.lt).cell 2 (by simp)⟩
              clear hK K
              try simp only [Act.put, List.setIfInBounds_toArray, List.set_cons_zero, List.set_cons_succ]
              refine wpAnyK_step 2 rfl (by kernel_rfl) (fun K hK => ?_)
              go_simp
              refine (add_p (TD.out.below HAb.out (Nat.le_refl _)) (Hpp6.out.below HAb.out (Nat.le_refl _)) (HSa.out.below hzb (Nat.le_refl _)) HP.out ew.on0).mono ?_
              rintro e wgb ⟨v, rfl, hm, hBp⟩
              rw [ew.zr HP.out] at hm
              obtain ⟨nx, ny, rfl, hpn⟩ := hm.pn
              obtain ⟨⟨nx0, nx1, nx2, rfl⟩, ⟨ny0, ny1, ny2, rfl⟩⟩ := hpn.sl
              have HMb : Hid (Pe wgb (wfa.alloc (.cells #[.slice none 0 0, .slice none 0 0, .bool false] 31)).heap.size (.agg #[.slice nx0 nx1 nx2, .slice ny0 ny1 ny2, .bool false]) P) := hm
              clear hm hpn
              have HBb2 : Hid (Below wv20.drew.heap.size wv20.drew wgb) := HAb.out.trans (hBp.mono HAb.out.size)
              have HZb2 : Hid (Bl 31 wgb wfa.heap.size [.slice none 0 0, .slice none 0 0, .bool false]) := HZb.out.below hBp HZb.out.lt
              clear hBp
              try dsimp only
              refine hK.out _ _ ?hk10 ?_
              case hk10 => exact fun _ => ⟨(Hbp5.out.below HBb2.out Hbp5.out.lt).cell 0 (by simp), (Hbp5.out.below HBb2.out Hbp5.out.lt).cell 1 (by simp), (Hbp5.out.below HBb2.out Hbp5.out.lt).cell 2 (by simp)⟩
              have hHeld : ((fun (w' : World) => w'.cell? ⟨w2.heap.size, 0, none⟩ = some (.slice px0 px1 px2) ∧ w'.cell? ⟨w2.heap.size, 1, none⟩ = some (.slice py0 py1 py2) ∧ w'.cell? ⟨w2.heap.size, 2, none⟩ = some (.bool false))) _ := ⟨(Hbp5.out.below HBb2.out Hbp5.out.lt).cell 0 (by simp), (Hbp5.out.below HBb2.out Hbp5.out.lt).cell 1 (by simp), (Hbp5.out.below HBb2.out Hbp5.out.lt).cell 2 (by simp)⟩
              clear hK K
              try simp only [Act.put, List.setIfInBounds_toArray, List.set_cons_zero, List.set_cons_succ]
              refine wpAnyK_take0 3 (v := ?v11) rfl (by kernel_rfl) (fun _ _ _ h => h) (Or.inl ⟨by rfl, ?hy11⟩) (fun _ => hHeld) ?_
              case hy11 => (intro w hSw; go_simp; try with_reducible rfl)
              try simp only [Act.put, List.setIfInBounds_toArray, List.set_cons_zero, List.set_cons_succ]
              refine wpAnyK_take0 4 (v := ?v12) rfl (by kernel_rfl) (fun _ _ _ h => h) (Or.inl ⟨by rfl, ?hy12⟩) (fun _ => hHeld) ?_
              case hy12 => (intro w hSw; go_simp; try with_reducible rfl)
              try simp only [Act.put, List.setIfInBounds_toArray, List.set_cons_zero, List.set_cons_succ]
              refine wpAnyK_take0 5 (v := ?v13) rfl (by kernel_rfl) (fun _ _ _ h => h) (Or.inl ⟨by rfl, ?hy13⟩) (fun _ => hHeld) ?_
              case hy13 => (intro w hSw; go_simp; try with_reducible rfl)
              try simp only [Act.put, List.setIfInBounds_toArray, List.set_cons_zero, List.set_cons_succ]
              refine wpAnyK_step 7 rfl (by kernel_rfl) (fun K hK => ?_)
              rw [if_pos (by kernel_rfl)]
              refine wp_store_row 31 _ _ rfl (wfa.heap.size) #[.slice nx0 nx1 nx2, .slice ny0 ny1 ny2, .bool false] rfl rfl 31 #[.slice none 0 0, .slice none 0 0, .bool false] (HZb2.out) (by kernel_rfl) rfl (by simp [Value.oneCell']) ?_
              refine hK.out _ _ ?hk14 ?_
              case hk14 => exact (fun h => nomatch (h.symm.trans (show _ = true by kernel_rfl)))
              clear hK K
              try simp only [Act.put]
              refine wpAnyK_take0 8 (v := ?v15) rfl (by kernel_rfl) (fun _ _ _ h => h) (Or.inl ⟨by rfl, ?hy15⟩) (fun h => nomatch (h.symm.trans (show _ = true by kernel_rfl))) ?_
              case hy15 => (intro w hSw; go_simp; try with_reducible rfl)
              try simp only [Act.put, List.setIfInBounds_toArray, List.set_cons_zero, List.set_cons_succ]
              refine wpAnyK_done (by kernel_rfl) ?_ _
              go_wp2_with fail
              go_meet
              have hb := But.setRow wgb (wfa.heap.size) #[.slice nx0 nx1 nx2, .slice ny0 ny1 ny2, .bool false]
              have hbF := HBb2.out.trans (hb.below HBb2.out.size (show wv20.drew.heap.size ≤ wfa.heap.size from HBa1.out.size))
              exact ⟨_, wfa.heap.size, nx0, ny0, nx1, nx2, ny1, ny2, rfl, rfl, rfl, (show Below wv20.heap.size wv20 wv20.drew from below_drewN (Below.refl _ _) 1).trans (hbF.mono (show Below wv20.heap.size wv20 wv20.drew from below_drewN (Below.refl _ _) 1).size), (setRow_heap _ _ _ _ _ _ HZb2.out), (HMb.out.but hb HZb.out.lt).pn'⟩
          · go_simp
            have hzc : Below wv20.drew.heap.size wv20.drew (wv20.drew.alloc (.cells #[.slice none 0 0, .slice none 0 0, .bool false] 31)) := alloc_below _ _
            have HAc : Hid (Below wv20.drew.heap.size wv20.drew (wv20.drew.alloc (.cells #[.slice none 0 0, .slice none 0 0, .bool false] 31))) := HBd.out.trans (hzc.mono HBd.out.size)
            have HZc : Hid (Bl 31 (wv20.drew.alloc (.cells #[.slice none 0 0, .slice none 0 0, .bool false] 31)) wv20.drew.heap.size [.slice none 0 0, .slice none 0 0, .bool false]) := alloc_bl wv20.drew [.slice none 0 0, .slice none 0 0, .bool false] 31
            try dsimp only
            refine hK.out _ _ ?hk17 ?_
            case hk17 => exact fun _ => ⟨(Hbp5.out.below HAc.out Hbp5.out.lt).cell 0 (by simp), (Hbp5.out.below HAc.out Hbp5.out.lt).cell 1 (by simp), (Hbp5.out.below HAc.out Hbp5.out.lt).cell 2 (by simp)⟩
            have hHeld : ((fun (w' : World) => w'.cell? ⟨w2.heap.size, 0, none⟩ = some (.slice px0 px1 px2) ∧ w'.cell? ⟨w2.heap.size, 1, none⟩ = some (.slice py0 py1 py2) ∧ w'.cell? ⟨w2.heap.size, 2, none⟩ = some (.bool false))) _ := ⟨(Hbp5.out.below HAc.out Hbp5.out.lt).cell 0 (by simp), (Hbp5.out.below HAc.out Hbp5.out.lt).cell 1 (by simp), (Hbp5.out.below HAc.out Hbp5.out.lt).cell 2 (by simp)⟩
            clear hK K
            try simp only [Act.put, List.setIfInBounds_toArray, List.set_cons_zero, List.set_cons_succ]
            refine wpAnyK_step 1 rfl (by kernel_rfl) (fun K hK => ?_)
            go_simp
            refine (lzero_v _).mono ?_
            rintro e wfc ⟨zy, rfl, mz, hBp⟩
            obtain ⟨zy0, zy1, zy2, rfl⟩ := mz.nk.sl
            have HSc : Hid (Pn wfc (.slice none 0 0) (.slice zy0 zy1 zy2) (0, 1)) := Pn.zero mz
            clear mz
            have HBc1 : Hid (Below wv20.drew.heap.size wv20.drew wfc) := HAc.out.trans (hBp.mono HAc.out.size)
            have HZc1 : Hid (Bl 31 wfc wv20.drew.heap.size [.slice none 0 0, .slice none 0 0, .bool false]) := HZc.out.below hBp HZc.out.lt
            clear hBp
            try dsimp only
            refine hK.out _ _ ?hk18 ?_
            case hk18 => exact fun _ => ⟨(Hbp5.out.below HBc1.out Hbp5.out.lt).cell 0 (by simp), (Hbp5.out.below HBc1.out Hbp5.out.lt).cell 1 (by simp), (Hbp5.out.below HBc1.out Hbp5.out.lt).cell 2 (by simp)⟩
            have hHeld : ((fun (w' : World) => w'.cell? ⟨w2.heap.size, 0, none⟩ = some (.slice px0 px1 px2) ∧ w'.cell? ⟨w2.heap.size, 1, none⟩ = some (.slice py0 py1 py2) ∧ w'.cell? ⟨w2.heap.size, 2, none⟩ = some (.bool false))) _ := ⟨(Hbp5.out.below HBc1.out Hbp5.out.lt).cell 0 (by simp), (Hbp5.out.below HBc1.out Hbp5.out.lt).cell 1 (by simp), (Hbp5.out.below HBc1.out Hbp5.out.lt).cell 2 (by simp)⟩
            clear hK K
            try simp only [Act.put, List.setIfInBounds_toArray, List.set_cons_zero, List.set_cons_succ]
            refine wpAnyK_step 2 rfl (by kernel_rfl) (fun K hK => ?_)
            go_simp
            refine (add_p (TD.out.below HBc1.out (Nat.le_refl _)) (Hpp6.out.below HBc1.out (Nat.le_refl _)) HSc.out HP.out ew.on0).mono ?_
            rintro e wgc ⟨v, rfl, hm, hBp⟩
            rw [ew.zr HP.out] at hm
            obtain ⟨nx, ny, rfl, hpn⟩ := hm.pn
            obtain ⟨⟨nx0, nx1, nx2, rfl⟩, ⟨ny0, ny1, ny2, rfl⟩⟩ := hpn.sl
            have HMc : Hid (Pe wgc wfc.heap.size (.agg #[.slice nx0 nx1 nx2, .slice ny0 ny1 ny2, .bool false]) P) := hm
            clear hm hpn
            have HBc2 : Hid (Below wv20.drew.heap.size wv20.drew wgc) := HBc1.out.trans (hBp.mono HBc1.out.size)
            have HZc2 : Hid (Bl 31 wgc wv20.drew.heap.size [.slice none 0 0, .slice none 0 0, .bool false]) := HZc1.out.below hBp HZc1.out.lt
            clear hBp
            try dsimp only
            refine hK.out _ _ ?hk19 ?_
            case hk19 => exact fun _ => ⟨(Hbp5.out.below HBc2.out Hbp5.out.lt).cell 0 (by simp), (Hbp5.out.below HBc2.out Hbp5.out.lt).cell 1 (by simp), (Hbp5.out.below HBc2.out Hbp5.out.lt).cell 2 (by simp)⟩
            have hHeld : ((fun (w' : World) => w'.cell? ⟨w2.heap.size, 0, none⟩ = some (.slice px0 px1 px2) ∧ w'.cell? ⟨w2.heap.size, 1, none⟩ = some (.slice py0 py1 py2) ∧ w'.cell? ⟨w2.heap.size, 2, none⟩ = some (.bool false))) _ := ⟨(Hbp5.out.below HBc2.out Hbp5.out.lt).cell 0 (by simp), (Hbp5.out.below HBc2.out Hbp5.out.lt).cell 1 (by simp), (Hbp5.out.below HBc2.out Hbp5.out.lt).cell 2 (by simp)⟩
            clear hK K
            try simp only [Act.put, List.setIfInBounds_toArray, List.set_cons_zero, List.set_cons_succ]
            refine wpAnyK_take0 3 (v := ?v20) rfl (by kernel_rfl) (fun _ _ _ h => h) (Or.inl ⟨by rfl, ?hy20⟩) (fun _ => hHeld) ?_
            case hy20 => (intro w hSw; go_simp; try with_reducible rfl)
            try simp only [Act.put, List.setIfInBounds_toArray, List.set_cons_zero, List.set_cons_succ]
            refine wpAnyK_take0 4 (v := ?v21) rfl (by kernel_rfl) (fun _ _ _ h => h) (Or.inl ⟨by rfl, ?hy21⟩) (fun _ => hHeld) ?_
            case hy21 => (intro w hSw; go_simp; try with_reducible rfl)
            try simp only [Act.put, List.setIfInBounds_toArray, List.set_cons_zero, List.set_cons_succ]
            refine wpAnyK_take0 5 (v := ?v22) rfl (by kernel_rfl) (fun _ _ _ h => h) (Or.inl ⟨by rfl, ?hy22⟩) (fun _ => hHeld) ?_
            case hy22 => (intro w hSw; go_simp; try with_reducible rfl)
            try simp only [Act.put, List.setIfInBounds_toArray, List.set_cons_zero, List.set_cons_succ]
            refine wpAnyK_step 7 rfl (by kernel_rfl) (fun K hK => ?_)
            rw [if_pos (by kernel_rfl)]
            refine wp_store_row 31 _ _ rfl (wv20.drew.heap.size) #[.slice nx0 nx1 nx2, .slice ny0 ny1 ny2, .bool false] rfl rfl 31 #[.slice none 0 0, .slice none 0 0, .bool false] (HZc2.out) (by kernel_rfl) rfl (by simp [Value.oneCell']) ?_
            refine hK.out _ _ ?hk23 ?_
            case hk23 => exact (fun h => nomatch (h.symm.trans (show _ = true by kernel_rfl)))
            clear hK K
            try simp only [Act.put]
            refine wpAnyK_take0 8 (v := ?v24) rfl (by kernel_rfl) (fun _ _ _ h => h) (Or.inl ⟨by rfl, ?hy24⟩) (fun h => nomatch (h.symm.trans (show _ = true by kernel_rfl))) ?_
            case hy24 => (intro w hSw; go_simp; try with_reducible rfl)
            try simp only [Act.put, List.setIfInBounds_toArray, List.set_cons_zero, List.set_cons_succ]
            refine wpAnyK_done (by kernel_rfl) ?_ _
            go_wp2_with fail
            go_meet
            have hb := But.setRow wgc (wv20.drew.heap.size) #[.slice nx0 nx1 nx2, .slice ny0 ny1 ny2, .bool false]
            have hbF := HBc2.out.trans (hb.below HBc2.out.size (show wv20.drew.heap.size ≤ wv20.drew.heap.size from Nat.le_refl _))
            exact ⟨_, wv20.drew.heap.size, nx0, ny0, nx1, nx2, ny1, ny2, rfl, rfl, rfl, (show Below wv20.heap.size wv20 wv20.drew from below_drewN (Below.refl _ _) 1).trans (hbF.mono (show Below wv20.heap.size wv20 wv20.drew from below_drewN (Below.refl _ _) 1).size), (setRow_heap _ _ _ _ _ _ HZc2.out), (HMc.out.but hb HZc1.out.lt).pn'⟩
        case rest =>
          obtain ⟨wb21, g21, nx0, ny0, nx1, nx2, ny1, ny2, rfl, rfl, rfl, HC⟩ := hcut
          have Hs21 : Hid (Below wv20.heap.size wv20 wb21) := HC.out.1
          have Hbn0 : Hid (Bl 31 wb21 g21 [.slice nx0 nx1 nx2, .slice ny0 ny1 ny2, .bool false]) := HC.out.2.1
          have Hpn0 : Hid (Pn wb21 (.slice nx0 nx1 nx2) (.slice ny0 ny1 ny2) P) := HC.out.2.2
          clear HC
          go_wp2_with fail
          have HB10 : Hid (Below w.heap.size w wb21) := HB9.out.trans (Hs21.out.mono HB9.out.size)
          have TD : Hid (Te wb21.drew) := (HT.out.1.below HB10.out (Nat.le_refl _)).drew
          go_cut [25, 26] from 128 to 134 (fun s1 s2 wx => ∃ (w' : World) (g : Nat) (ox0 oy0 : Option Addr) (ox1 ox2 oy1 oy2 : Nat), w' = wx ∧ s1 = .pointer (some ⟨g, 0, none⟩) ∧ s2 = .int .i64 0 ∧ Hid (Below wb21.heap.size wb21 w' ∧ Bl 31 w' g [.slice ox0 ox1 ox2, .slice oy0 oy1 oy2, .bool false] ∧ Pn w' (.slice ox0 ox1 ox2) (.slice oy0 oy1 oy2) (0, 1)))
          case first =>
            have hBd : Below wb21.heap.size wb21 wb21.drew := below_drewN (Below.refl _ _) 1
            have Hs21z : Hid (Below wb21.heap.size wb21 wb21.drew) := hBd
            clear hBd
            have Hpp6 : Hid (Pn wb21.drew (.slice px0 px1 px2) (.slice py0 py1 py2) P) := Hpp5.out.below (btr Hs21.out Hs21z.out) (Nat.le_refl _)
            have Hbp5 : Hid (Bl 31 wb21.drew w2.heap.size [.slice px0 px1 px2, .slice py0 py1 py2, .bool false]) := Hbp4.out.below (btr Hs19.out (btr Hs19z.out (btr Hs21.out Hs21z.out))) Hbp4.out.lt
            have HBd : Hid (Below wb21.drew.heap.size wb21.drew wb21.drew) := Below.refl _ _
            refine wp_region_K 3 (fun (w' : World) => w'.cell? ⟨w2.heap.size, 0, none⟩ = some (.slice px0 px1 px2) ∧ w'.cell? ⟨w2.heap.size, 1, none⟩ = some (.slice py0 py1 py2) ∧ w'.cell? ⟨w2.heap.size, 2, none⟩ = some (.bool false)) (by kernel_rfl) ?_
            have hHeld : ((fun (w' : World) => w'.cell? ⟨w2.heap.size, 0, none⟩ = some (.slice px0 px1 px2) ∧ w'.cell? ⟨w2.heap.size, 1, none⟩ = some (.slice py0 py1 py2) ∧ w'.cell? ⟨w2.heap.size, 2, none⟩ = some (.bool false))) (World.drew _) := ⟨Hbp5.out.cell 0 (by simp), Hbp5.out.cell 1 (by simp), Hbp5.out.cell 2 (by simp)⟩
            refine wpAnyK_take 0 [3] (v := ?v25) rfl (by kernel_rfl) (fun _ _ _ h => h) (Or.inl ⟨by rfl, ?hy25⟩) hHeld ?_
            case hy25 => (intro w hSw; (try dsimp only at hSw); go_simp; try with_reducible rfl)
            try simp only [Act.put, List.setIfInBounds_toArray, List.set_cons_zero, List.set_cons_succ]
            refine wpAnyK_take 1 [2, 3] (v := ?v26) rfl (by kernel_rfl) (fun _ _ _ h => h) (Or.inl ⟨by rfl, ?hy26⟩) hHeld ?_
            case hy26 => (intro w hSw; (try dsimp only at hSw); go_simp; try with_reducible rfl)
            try simp only [Act.put, List.setIfInBounds_toArray, List.set_cons_zero, List.set_cons_succ]
            refine wpAnyK_two 2 7 rfl rfl (by kernel_rfl) (fun K hK => ?_) (fun K hK => ?_)
            · go_simp
              refine (lopp_g (Hpp6.out.below HBd.out (Nat.le_refl _)) HP.out).mono ?_
              rintro e wfa ⟨zu, rfl, mz, hBp⟩
              obtain ⟨⟨zu0, zu1, zu2, rfl⟩, _⟩ := mz.sl
              have HSa : Hid (Pn wfa (.slice zu0 zu1 zu2) (.slice py0 py1 py2) (ne eP P)) := mz
              clear mz
              have HBa1 : Hid (Below wb21.drew.heap.size wb21.drew wfa) := HBd.out.trans (hBp.mono HBd.out.size)
              clear hBp
              try dsimp only
              refine hK.out _ _ ?hk41 ?_
              case hk41 => exact fun _ => ⟨(Hbp5.out.below HBa1.out Hbp5.out.lt).cell 0 (by simp), (Hbp5.out.below HBa1.out Hbp5.out.lt).cell 1 (by simp), (Hbp5.out.below HBa1.out Hbp5.out.lt).cell 2 (by simp)⟩
              have hHeld : ((fun (w' : World) => w'.cell? ⟨w2.heap.size, 0, none⟩ = some (.slice px0 px1 px2) ∧ w'.cell? ⟨w2.heap.size, 1, none⟩ = some (.slice py0 py1 py2) ∧ w'.cell? ⟨w2.heap.size, 2, none⟩ = some (.bool false))) _ := ⟨(Hbp5.out.below HBa1.out Hbp5.out.lt).cell 0 (by simp), (Hbp5.out.below HBa1.out Hbp5.out.lt).cell 1 (by simp), (Hbp5.out.below HBa1.out Hbp5.out.lt).cell 2 (by simp)⟩
              clear hK K
              try simp only [Act.put, List.setIfInBounds_toArray, List.set_cons_zero, List.set_cons_succ]
              refine wpAnyK_two 3 7 rfl rfl (by kernel_rfl) (fun K hK => ?_) (fun K hK => ?_)
              · go_simp
                refine (add_p (TD.out.below HBa1.out (Nat.le_refl _)) (Hpp6.out.below HBa1.out (Nat.le_refl _)) HSa.out HP.out (ew.non HP.out)).mono ?_
                rintro e wga ⟨v, rfl, hm, hBp⟩
                rw [ew.neg HP.out] at hm
                obtain ⟨ox, oy, rfl, hpn⟩ := hm.pn
                obtain ⟨⟨ox0, ox1, ox2, rfl⟩, ⟨oy0, oy1, oy2, rfl⟩⟩ := hpn.sl
                have HMa : Hid (Pe wga wfa.heap.size (.agg #[.slice ox0 ox1 ox2, .slice oy0 oy1 oy2, .bool false]) (0, 1)) := hm
                clear hm hpn
                have HBa2 : Hid (Below wb21.drew.heap.size wb21.drew wga) := HBa1.out.trans (hBp.mono HBa1.out.size)
                clear hBp
                try dsimp only
                refine hK.out _ _ ?hk27 ?_
                case hk27 => exact fun _ => ⟨(Hbp5.out.below HBa2.out Hbp5.out.lt).cell 0 (by simp), (Hbp5.out.below HBa2.out Hbp5.out.lt).cell 1 (by simp), (Hbp5.out.below HBa2.out Hbp5.out.lt).cell 2 (by simp)⟩
                have hHeld : ((fun (w' : World) => w'.cell? ⟨w2.heap.size, 0, none⟩ = some (.slice px0 px1 px2) ∧ w'.cell? ⟨w2.heap.size, 1, none⟩ = some (.slice py0 py1 py2) ∧ w'.cell? ⟨w2.heap.size, 2, none⟩ = some (.bool false))) _ := ⟨(Hbp5.out.below HBa2.out Hbp5.out.lt).cell 0 (by simp), (Hbp5.out.below HBa2.out Hbp5.out.lt).cell 1 (by simp), (Hbp5.out.below HBa2.out Hbp5.out.lt).cell 2 (by simp)⟩
                clear hK K
                try simp only [Act.put, List.setIfInBounds_toArray, List.set_cons_zero, List.set_cons_succ]
                refine wpAnyK_take0 4 (v := ?v28) rfl (by kernel_rfl) (fun _ _ _ h => h) (Or.inl ⟨by rfl, ?hy28⟩) (fun _ => hHeld) ?_
                case hy28 => (intro w hSw; go_simp; try with_reducible rfl)
                try simp only [Act.put, List.setIfInBounds_toArray, List.set_cons_zero, List.set_cons_succ]
                refine wpAnyK_take0 5 (v := ?v29) rfl (by kernel_rfl) (fun _ _ _ h => h) (Or.inl ⟨by rfl, ?hy29⟩) (fun _ => hHeld) ?_
                case hy29 => (intro w hSw; go_simp; try with_reducible rfl)
                try simp only [Act.put, List.setIfInBounds_toArray, List.set_cons_zero, List.set_cons_succ]
                refine wpAnyK_take0 6 (v := ?v30) rfl (by kernel_rfl) (fun _ _ _ h => h) (Or.inl ⟨by rfl, ?hy30⟩) (fun _ => hHeld) ?_
                case hy30 => (intro w hSw; go_simp; try with_reducible rfl)
                try simp only [Act.put, List.setIfInBounds_toArray, List.set_cons_zero, List.set_cons_succ]
                refine wpAnyK_step 7 rfl (by kernel_rfl) (fun K hK => ?_)
                go_simp
                have hza : Below wga.heap.size wga (wga.alloc (.cells #[.slice none 0 0, .slice none 0 0, .bool false] 31)) := alloc_below _ _
                have HAa : Hid (Below wb21.drew.heap.size wb21.drew (wga.alloc (.cells #[.slice none 0 0, .slice none 0 0, .bool false] 31))) := HBa2.out.trans (hza.mono HBa2.out.size)
                have HZa : Hid (Bl 31 (wga.alloc (.cells #[.slice none 0 0, .slice none 0 0, .bool false] 31)) wga.heap.size [.slice none 0 0, .slice none 0 0, .bool false]) := alloc_bl wga [.slice none 0 0, .slice none 0 0, .bool false] 31
                try dsimp only
                refine hK.out _ _ ?hk31 ?_
                case hk31 => exact fun _ => ⟨(Hbp5.out.below HAa.out Hbp5.out.lt).cell 0 (by simp), (Hbp5.out.below HAa.out Hbp5.out.lt).cell 1 (by simp), (Hbp5.out.below HAa.out Hbp5.out.lt).cell 2 (by simp)⟩
                have hHeld : ((fun (w' : World) => w'.cell? ⟨w2.heap.size, 0, none⟩ = some (.slice px0 px1 px2) ∧ w'.cell? ⟨w2.heap.size, 1, none⟩ = some (.slice py0 py1 py2) ∧ w'.cell? ⟨w2.heap.size, 2, none⟩ = some (.bool false))) _ := ⟨(Hbp5.out.below HAa.out Hbp5.out.lt).cell 0 (by simp), (Hbp5.out.below HAa.out Hbp5.out.lt).cell 1 (by simp), (Hbp5.out.below HAa.out Hbp5.out.lt).cell 2 (by simp)⟩
                clear hK K
                try simp only [Act.put, List.setIfInBounds_toArray, List.set_cons_zero, List.set_cons_succ]
                refine wpAnyK_step 8 rfl (by kernel_rfl) (fun K hK => ?_)
                rw [if_pos (by kernel_rfl)]
                refine wp_store_row 31 _ _ rfl (wga.heap.size) #[.slice ox0 ox1 ox2, .slice oy0 oy1 oy2, .bool false] rfl rfl 31 #[.slice none 0 0, .slice none 0 0, .bool false] (HZa.out) (by kernel_rfl) rfl (by simp [Value.oneCell']) ?_
                refine hK.out _ _ ?hk32 ?_
                case hk32 => exact (fun h => nomatch (h.symm.trans (show _ = true by kernel_rfl)))
                clear hK K
                try simp only [Act.put]
                refine wpAnyK_take0 9 (v := ?v33) rfl (by kernel_rfl) (fun _ _ _ h => h) (Or.inl ⟨by rfl, ?hy33⟩) (fun h => nomatch (h.symm.trans (show _ = true by kernel_rfl))) ?_
                case hy33 => (intro w hSw; go_simp; try with_reducible rfl)
                try simp only [Act.put, List.setIfInBounds_toArray, List.set_cons_zero, List.set_cons_succ]
                refine wpAnyK_done (by kernel_rfl) ?_ _
                go_wp2_with fail
                go_meet
                have hR := Fm.row wga 31 [.slice none 0 0, .slice none 0 0, .bool false] [.slice ox0 ox1 ox2, .slice oy0 oy1 oy2, .bool false] rfl
                have hbF := HBa2.out.trans (hR.bel.mono HBa2.out.size)
                exact ⟨_, wga.heap.size, ox0, oy0, ox1, ox2, oy1, oy2, rfl, rfl, rfl, (show Below wb21.heap.size wb21 wb21.drew from below_drewN (Below.refl _ _) 1).trans (hbF.mono (show Below wb21.heap.size wb21 wb21.drew from below_drewN (Below.refl _ _) 1).size), (hR.bx 0 (by simp)), (HMa.out.below hR.bel).pn'⟩
              · go_simp
                have hzb : Below wfa.heap.size wfa (wfa.alloc (.cells #[.slice none 0 0, .slice none 0 0, .bool false] 31)) := alloc_below _ _
                have HAb : Hid (Below wb21.drew.heap.size wb21.drew (wfa.alloc (.cells #[.slice none 0 0, .slice none 0 0, .bool false] 31))) := HBa1.out.trans (hzb.mono HBa1.out.size)
                have HZb : Hid (Bl 31 (wfa.alloc (.cells #[.slice none 0 0, .slice none 0 0, .bool false] 31)) wfa.heap.size [.slice none 0 0, .slice none 0 0, .bool false]) := alloc_bl wfa [.slice none 0 0, .slice none 0 0, .bool false] 31
                try dsimp only
                refine hK.out _ _ ?hk34 ?_
                case hk34 => exact fun _ => ⟨(Hbp5.out.below HAb.out Hbp5.out.lt).cell 0 (by simp), (Hbp5.out.below HAb.out Hbp5.out.lt).cell 1 (by simp), (Hbp5.out.below HAb.out Hbp5.out.lt).cell 2 (by simp)⟩
                have hHeld : ((fun (w' : World) => w'.cell? ⟨w2.heap.size, 0, none⟩ = some (.slice px0 px1 px2) ∧ w'.cell? ⟨w2.heap.size, 1, none⟩ = some (.slice py0 py1 py2) ∧ w'.cell? ⟨w2.heap.size, 2, none⟩ = some (.bool false))) _ := ⟨(Hbp5.out.below HAb.out Hbp5.out.lt).cell 0 (by simp), (Hbp5.out.below HAb.out Hbp5.out.lt).cell 1 (by simp), (Hbp5.out.below HAb.out Hbp5.out.lt).cell 2 (by simp)⟩
                clear hK K
                try simp only [Act.put, List.setIfInBounds_toArray, List.set_cons_zero, List.set_cons_succ]
                refine wpAnyK_step 3 rfl (by kernel_rfl) (fun K hK => ?_)
                go_simp
                refine (add_p (TD.out.below HAb.out (Nat.le_refl _)) (Hpp6.out.below HAb.out (Nat.le_refl _)) (HSa.out.below hzb (Nat.le_refl _)) HP.out (ew.non HP.out)).mono ?_
                rintro e wgb ⟨v, rfl, hm, hBp⟩
                rw [ew.neg HP.out] at hm
                obtain ⟨ox, oy, rfl, hpn⟩ := hm.pn
                obtain ⟨⟨ox0, ox1, ox2, rfl⟩, ⟨oy0, oy1, oy2, rfl⟩⟩ := hpn.sl
                have HMb : Hid (Pe wgb (wfa.alloc (.cells #[.slice none 0 0, .slice none 0 0, .bool false] 31)).heap.size (.agg #[.slice ox0 ox1 ox2, .slice oy0 oy1 oy2, .bool false]) (0, 1)) := hm
                clear hm hpn
                have HBb2 : Hid (Below wb21.drew.heap.size wb21.drew wgb) := HAb.out.trans (hBp.mono HAb.out.size)
                have HZb2 : Hid (Bl 31 wgb wfa.heap.size [.slice none 0 0, .slice none 0 0, .bool false]) := HZb.out.below hBp HZb.out.lt
                clear hBp
                try dsimp only
                refine hK.out _ _ ?hk35 ?_
                case hk35 => exact fun _ => ⟨(Hbp5.out.below HBb2.out Hbp5.out.lt).cell 0 (by simp), (Hbp5.out.below HBb2.out Hbp5.out.lt).cell 1 (by simp), (Hbp5.out.below HBb2.out Hbp5.out.lt).cell 2 (by simp)⟩
                have hHeld : ((fun (w' : World) => w'.cell? ⟨w2.heap.size, 0, none⟩ = some (.slice px0 px1 px2) ∧ w'.cell? ⟨w2.heap.size, 1, none⟩ = some (.slice py0 py1 py2) ∧ w'.cell? ⟨w2.heap.size, 2, none⟩ = some (.bool false))) _ := ⟨(Hbp5.out.below HBb2.out Hbp5.out.lt).cell 0 (by simp), (Hbp5.out.below HBb2.out Hbp5.out.lt).cell 1 (by simp), (Hbp5.out.below HBb2.out Hbp5.out.lt).cell 2 (by simp)⟩
                clear hK K
                try simp only [Act.put, List.setIfInBounds_toArray, List.set_cons_zero, List.set_cons_succ]
                refine wpAnyK_take0 4 (v := ?v36) rfl (by kernel_rfl) (fun _ _ _ h => h) (Or.inl ⟨by rfl, ?hy36⟩) (fun _ => hHeld) ?_
                case hy36 => (intro w hSw; go_simp; try with_reducible rfl)
                try simp only [Act.put, List.setIfInBounds_toArray, List.set_cons_zero, List.set_cons_succ]
                refine wpAnyK_take0 5 (v := ?v37) rfl (by kernel_rfl) (fun _ _ _ h => h) (Or.inl ⟨by rfl, ?hy37⟩) (fun _ => hHeld) ?_
                case hy37 => (intro w hSw; go_simp; try with_reducible rfl)
                try simp only [Act.put, List.setIfInBounds_toArray, List.set_cons_zero, List.set_cons_succ]
                refine wpAnyK_take0 6 (v := ?v38) rfl (by kernel_rfl) (fun _ _ _ h => h) (Or.inl ⟨by rfl, ?hy38⟩) (fun _ => hHeld) ?_
                case hy38 => (intro w hSw; go_simp; try with_reducible rfl)
                try simp only [Act.put, List.setIfInBounds_toArray, List.set_cons_zero, List.set_cons_succ]
                refine wpAnyK_step 8 rfl (by kernel_rfl) (fun K hK => ?_)
                rw [if_pos (by kernel_rfl)]
                refine wp_store_row 31 _ _ rfl (wfa.heap.size) #[.slice ox0 ox1 ox2, .slice oy0 oy1 oy2, .bool false] rfl rfl 31 #[.slice none 0 0, .slice none 0 0, .bool false] (HZb2.out) (by kernel_rfl) rfl (by simp [Value.oneCell']) ?_
                refine hK.out _ _ ?hk39 ?_
                case hk39 => exact (fun h => nomatch (h.symm.trans (show _ = true by kernel_rfl)))
                clear hK K
                try simp only [Act.put]
                refine wpAnyK_take0 9 (v := ?v40) rfl (by kernel_rfl) (fun _ _ _ h => h) (Or.inl ⟨by rfl, ?hy40⟩) (fun h => nomatch (h.symm.trans (show _ = true by kernel_rfl))) ?_
                case hy40 => (intro w hSw; go_simp; try with_reducible rfl)
                try simp only [Act.put, List.setIfInBounds_toArray, List.set_cons_zero, List.set_cons_succ]
                refine wpAnyK_done (by kernel_rfl) ?_ _
                go_wp2_with fail
                go_meet
                have hb := But.setRow wgb (wfa.heap.size) #[.slice ox0 ox1 ox2, .slice oy0 oy1 oy2, .bool false]
                have hbF := HBb2.out.trans (hb.below HBb2.out.size (show wb21.drew.heap.size ≤ wfa.heap.size from HBa1.out.size))
                exact ⟨_, wfa.heap.size, ox0, oy0, ox1, ox2, oy1, oy2, rfl, rfl, rfl, (show Below wb21.heap.size wb21 wb21.drew from below_drewN (Below.refl _ _) 1).trans (hbF.mono (show Below wb21.heap.size wb21 wb21.drew from below_drewN (Below.refl _ _) 1).size), (setRow_heap _ _ _ _ _ _ HZb2.out), (HMb.out.but hb HZb.out.lt).pn'⟩
            · go_simp
              have hzc : Below wb21.drew.heap.size wb21.drew (wb21.drew.alloc (.cells #[.slice none 0 0, .slice none 0 0, .bool false] 31)) := alloc_below _ _
              have HAc : Hid (Below wb21.drew.heap.size wb21.drew (wb21.drew.alloc (.cells #[.slice none 0 0, .slice none 0 0, .bool false] 31))) := HBd.out.trans (hzc.mono HBd.out.size)
              have HZc : Hid (Bl 31 (wb21.drew.alloc (.cells #[.slice none 0 0, .slice none 0 0, .bool false] 31)) wb21.drew.heap.size [.slice none 0 0, .slice none 0 0, .bool false]) := alloc_bl wb21.drew [.slice none 0 0, .slice none 0 0, .bool false] 31
              try dsimp only
              refine hK.out _ _ ?hk42 ?_
              case hk42 => exact fun _ => ⟨(Hbp5.out.below HAc.out Hbp5.out.lt).cell 0 (by simp), (Hbp5.out.below HAc.out Hbp5.out.lt).cell 1 (by simp), (Hbp5.out.below HAc.out Hbp5.out.lt).cell 2 (by simp)⟩
              have hHeld : ((fun (w' : World) => w'.cell? ⟨w2.heap.size, 0, none⟩ = some (.slice px0 px1 px2) ∧ w'.cell? ⟨w2.heap.size, 1, none⟩ = some (.slice py0 py1 py2) ∧ w'.cell? ⟨w2.heap.size, 2, none⟩ = some (.bool false))) _ := ⟨(Hbp5.out.below HAc.out Hbp5.out.lt).cell 0 (by simp), (Hbp5.out.below HAc.out Hbp5.out.lt).cell 1 (by simp), (Hbp5.out.below HAc.out Hbp5.out.lt).cell 2 (by simp)⟩
              clear hK K
              try simp only [Act.put, List.setIfInBounds_toArray, List.set_cons_zero, List.set_cons_succ]
              refine wpAnyK_step 2 rfl (by kernel_rfl) (fun K hK => ?_)
              go_simp
              refine (lopp_g (Hpp6.out.below HAc.out (Nat.le_refl _)) HP.out).mono ?_
              rintro e wfc ⟨zu, rfl, mz, hBp⟩
              obtain ⟨⟨zu0, zu1, zu2, rfl⟩, _⟩ := mz.sl
              have HSc : Hid (Pn wfc (.slice zu0 zu1 zu2) (.slice py0 py1 py2) (ne eP P)) := mz
              clear mz
              have HBc1 : Hid (Below wb21.drew.heap.size wb21.drew wfc) := HAc.out.trans (hBp.mono HAc.out.size)
              have HZc1 : Hid (Bl 31 wfc wb21.drew.heap.size [.slice none 0 0, .slice none 0 0, .bool false]) := HZc.out.below hBp HZc.out.lt
              clear hBp
              try dsimp only
              refine hK.out _ _ ?hk43 ?_
              case hk43 => exact fun _ => ⟨(Hbp5.out.below HBc1.out Hbp5.out.lt).cell 0 (by simp), (Hbp5.out.below HBc1.out Hbp5.out.lt).cell 1 (by simp), (Hbp5.out.below HBc1.out Hbp5.out.lt).cell 2 (by simp)⟩
              have hHeld : ((fun (w' : World) => w'.cell? ⟨w2.heap.size, 0, none⟩ = some (.slice px0 px1 px2) ∧ w'.cell? ⟨w2.heap.size, 1, none⟩ = some (.slice py0 py1 py2) ∧ w'.cell? ⟨w2.heap.size, 2, none⟩ = some (.bool false))) _ := ⟨(Hbp5.out.below HBc1.out Hbp5.out.lt).cell 0 (by simp), (Hbp5.out.below HBc1.out Hbp5.out.lt).cell 1 (by simp), (Hbp5.out.below HBc1.out Hbp5.out.lt).cell 2 (by simp)⟩
              clear hK K
              try simp only [Act.put, List.setIfInBounds_toArray, List.set_cons_zero, List.set_cons_succ]
              refine wpAnyK_step 3 rfl (by kernel_rfl) (fun K hK => ?_)
              go_simp
              refine (add_p (TD.out.below HBc1.out (Nat.le_refl _)) (Hpp6.out.below HBc1.out (Nat.le_refl _)) HSc.out HP.out (ew.non HP.out)).mono ?_
              rintro e wgc ⟨v, rfl, hm, hBp⟩
              rw [ew.neg HP.out] at hm
              obtain ⟨ox, oy, rfl, hpn⟩ := hm.pn
              obtain ⟨⟨ox0, ox1, ox2, rfl⟩, ⟨oy0, oy1, oy2, rfl⟩⟩ := hpn.sl
              have HMc : Hid (Pe wgc wfc.heap.size (.agg #[.slice ox0 ox1 ox2, .slice oy0 oy1 oy2, .bool false]) (0, 1)) := hm
              clear hm hpn
              have HBc2 : Hid (Below wb21.drew.heap.size wb21.drew wgc) := HBc1.out.trans (hBp.mono HBc1.out.size)
              have HZc2 : Hid (Bl 31 wgc wb21.drew.heap.size [.slice none 0 0, .slice none 0 0, .bool false]) := HZc1.out.below hBp HZc1.out.lt
              clear hBp
              try dsimp only
              refine hK.out _ _ ?hk44 ?_
              case hk44 => exact fun _ => ⟨(Hbp5.out.below HBc2.out Hbp5.out.lt).cell 0 (by simp), (Hbp5.out.below HBc2.out Hbp5.out.lt).cell 1 (by simp), (Hbp5.out.below HBc2.out Hbp5.out.lt).cell 2 (by simp)⟩
              have hHeld : ((fun (w' : World) => w'.cell? ⟨w2.heap.size, 0, none⟩ = some (.slice px0 px1 px2) ∧ w'.cell? ⟨w2.heap.size, 1, none⟩ = some (.slice py0 py1 py2) ∧ w'.cell? ⟨w2.heap.size, 2, none⟩ = some (.bool false))) _ := ⟨(Hbp5.out.below HBc2.out Hbp5.out.lt).cell 0 (by simp), (Hbp5.out.below HBc2.out Hbp5.out.lt).cell 1 (by simp), (Hbp5.out.below HBc2.out Hbp5.out.lt).cell 2 (by simp)⟩
              clear hK K
              try simp only [Act.put, List.setIfInBounds_toArray, List.set_cons_zero, List.set_cons_succ]
              refine wpAnyK_take0 4 (v := ?v45) rfl (by kernel_rfl) (fun _ _ _ h => h) (Or.inl ⟨by rfl, ?hy45⟩) (fun _ => hHeld) ?_
              case hy45 => (intro w hSw; go_simp; try with_reducible rfl)
              try simp only [Act.put, List.setIfInBounds_toArray, List.set_cons_zero, List.set_cons_succ]
              refine wpAnyK_take0 5 (v := ?v46) rfl (by kernel_rfl) (fun _ _ _ h => h) (Or.inl ⟨by rfl, ?hy46⟩) (fun _ => hHeld) ?_
              case hy46 => (intro w hSw; go_simp; try with_reducible rfl)
              try simp only [Act.put, List.setIfInBounds_toArray, List.set_cons_zero, List.set_cons_succ]
              refine wpAnyK_take0 6 (v := ?v47) rfl (by kernel_rfl) (fun _ _ _ h => h) (Or.inl ⟨by rfl, ?hy47⟩) (fun _ => hHeld) ?_
              case hy47 => (intro w hSw; go_simp; try with_reducible rfl)
              try simp only [Act.put, List.setIfInBounds_toArray, List.set_cons_zero, List.set_cons_succ]
              refine wpAnyK_step 8 rfl (by kernel_rfl) (fun K hK => ?_)
              rw [if_pos (by kernel_rfl)]
              refine wp_store_row 31 _ _ rfl (wb21.drew.heap.size) #[.slice ox0 ox1 ox2, .slice oy0 oy1 oy2, .bool false] rfl rfl 31 #[.slice none 0 0, .slice none 0 0, .bool false] (HZc2.out) (by kernel_rfl) rfl (by simp [Value.oneCell']) ?_
              refine hK.out _ _ ?hk48 ?_
              case hk48 => exact (fun h => nomatch (h.symm.trans (show _ = true by kernel_rfl)))
              clear hK K
              try simp only [Act.put]
              refine wpAnyK_take0 9 (v := ?v49) rfl (by kernel_rfl) (fun _ _ _ h => h) (Or.inl ⟨by rfl, ?hy49⟩) (fun h => nomatch (h.symm.trans (show _ = true by kernel_rfl))) ?_
              case hy49 => (intro w hSw; go_simp; try with_reducible rfl)
              try simp only [Act.put, List.setIfInBounds_toArray, List.set_cons_zero, List.set_cons_succ]
              refine wpAnyK_done (by kernel_rfl) ?_ _
              go_wp2_with fail
              go_meet
              have hb := But.setRow wgc (wb21.drew.heap.size) #[.slice ox0 ox1 ox2, .slice oy0 oy1 oy2, .bool false]
              have hbF := HBc2.out.trans (hb.below HBc2.out.size (show wb21.drew.heap.size ≤ wb21.drew.heap.size from Nat.le_refl _))
              exact ⟨_, wb21.drew.heap.size, ox0, oy0, ox1, ox2, oy1, oy2, rfl, rfl, rfl, (show Below wb21.heap.size wb21 wb21.drew from below_drewN (Below.refl _ _) 1).trans (hbF.mono (show Below wb21.heap.size wb21 wb21.drew from below_drewN (Below.refl _ _) 1).size), (setRow_heap _ _ _ _ _ _ HZc2.out), (HMc.out.but hb HZc1.out.lt).pn'⟩
          case rest =>
            obtain ⟨wb22, g22, ox0, oy0, ox1, ox2, oy1, oy2, rfl, rfl, rfl, HC⟩ := hcut
            have Hs22 : Hid (Below wb21.heap.size wb21 wb22) := HC.out.1
            have Hbo0 : Hid (Bl 31 wb22 g22 [.slice ox0 ox1 ox2, .slice oy0 oy1 oy2, .bool false]) := HC.out.2.1
            have Hpo0 : Hid (Pn wb22 (.slice ox0 ox1 ox2) (.slice oy0 oy1 oy2) (0, 1)) := HC.out.2.2
            clear HC
            go_wp2_with fail
            have hBd : Below wb22.heap.size wb22 wb22.drew := below_drewN (Below.refl _ _) 1
            have Hs22z : Hid (Below wb22.heap.size wb22 wb22.drew) := hBd
            clear hBd
            have Hbi2 : Hid (Bl 31 wb22.drew w11.heap.size [.slice ix0 ix1 ix2, .slice iy0 iy1 iy2, .bool false]) := Hbi1.out.below (btr Hs17.out (btr Hs17z.out (btr Hs19.out (btr Hs19z.out (btr Hs21.out (btr Hs22.out Hs22z.out)))))) Hbi1.out.lt
            have Hbj1 : Hid (Bl 31 wb22.drew w13.heap.size [.slice jx0 jx1 jx2, .slice jy0 jy1 jy2, .bool false]) := Hbj0.out.below (btr Hs15.out (btr Hs15z.out (btr Hs17.out (btr Hs17z.out (btr Hs19.out (btr Hs19z.out (btr Hs21.out (btr Hs22.out Hs22z.out)))))))) Hbj0.out.lt
            have Hbl1 : Hid (Bl 31 wb22.drew w17.heap.size [.slice lx0 lx1 lx2, .slice ly0 ly1 ly2, .bool false]) := Hbl0.out.below (btr Hs19.out (btr Hs19z.out (btr Hs21.out (btr Hs22.out Hs22z.out)))) Hbl0.out.lt
            have Hbm1 : Hid (Bl 31 wb22.drew w19.heap.size [.slice mx0 mx1 mx2, .slice my0 my1 my2, .bool false]) := Hbm0.out.below (btr Hs21.out (btr Hs22.out Hs22z.out)) Hbm0.out.lt
            have Hbn1 : Hid (Bl 31 wb22.drew g21 [.slice nx0 nx1 nx2, .slice ny0 ny1 ny2, .bool false]) := Hbn0.out.below (btr Hs22.out Hs22z.out) Hbn0.out.lt
            have Hbo1 : Hid (Bl 31 wb22.drew g22 [.slice ox0 ox1 ox2, .slice oy0 oy1 oy2, .bool false]) := Hbo0.out.below Hs22z.out Hbo0.out.lt
            have Hbp5 : Hid (Bl 31 wb22.drew w2.heap.size [.slice px0 px1 px2, .slice py0 py1 py2, .bool false]) := Hbp4.out.below (btr Hs19.out (btr Hs19z.out (btr Hs21.out (btr Hs22.out Hs22z.out)))) Hbp4.out.lt
            refine wp_region_K 24 (fun (w' : World) => w'.cell? ⟨w11.heap.size, 0, none⟩ = some (.slice ix0 ix1 ix2) ∧ w'.cell? ⟨w11.heap.size, 1, none⟩ = some (.slice iy0 iy1 iy2) ∧ w'.cell? ⟨w11.heap.size, 2, none⟩ = some (.bool false) ∧ w'.cell? ⟨w13.heap.size, 0, none⟩ = some (.slice jx0 jx1 jx2) ∧ w'.cell? ⟨w13.heap.size, 1, none⟩ = some (.slice jy0 jy1 jy2) ∧ w'.cell? ⟨w13.heap.size, 2, none⟩ = some (.bool false) ∧ w'.cell? ⟨w17.heap.size, 0, none⟩ = some (.slice lx0 lx1 lx2) ∧ w'.cell? ⟨w17.heap.size, 1, none⟩ = some (.slice ly0 ly1 ly2) ∧ w'.cell? ⟨w17.heap.size, 2, none⟩ = some (.bool false) ∧ w'.cell? ⟨w19.heap.size, 0, none⟩ = some (.slice mx0 mx1 mx2) ∧ w'.cell? ⟨w19.heap.size, 1, none⟩ = some (.slice my0 my1 my2) ∧ w'.cell? ⟨w19.heap.size, 2, none⟩ = some (.bool false) ∧ w'.cell? ⟨g21, 0, none⟩ = some (.slice nx0 nx1 nx2) ∧ w'.cell? ⟨g21, 1, none⟩ = some (.slice ny0 ny1 ny2) ∧ w'.cell? ⟨g21, 2, none⟩ = some (.bool false) ∧ w'.cell? ⟨g22, 0, none⟩ = some (.slice ox0 ox1 ox2) ∧ w'.cell? ⟨g22, 1, none⟩ = some (.slice oy0 oy1 oy2) ∧ w'.cell? ⟨g22, 2, none⟩ = some (.bool false) ∧ w'.cell? ⟨w2.heap.size, 0, none⟩ = some (.slice px0 px1 px2) ∧ w'.cell? ⟨w2.heap.size, 1, none⟩ = some (.slice py0 py1 py2) ∧ w'.cell? ⟨w2.heap.size, 2, none⟩ = some (.bool false)) (by kernel_rfl) ?_
            have hHeld : ((fun (w' : World) => w'.cell? ⟨w11.heap.size, 0, none⟩ = some (.slice ix0 ix1 ix2) ∧ w'.cell? ⟨w11.heap.size, 1, none⟩ = some (.slice iy0 iy1 iy2) ∧ w'.cell? ⟨w11.heap.size, 2, none⟩ = some (.bool false) ∧ w'.cell? ⟨w13.heap.size, 0, none⟩ = some (.slice jx0 jx1 jx2) ∧ w'.cell? ⟨w13.heap.size, 1, none⟩ = some (.slice jy0 jy1 jy2) ∧ w'.cell? ⟨w13.heap.size, 2, none⟩ = some (.bool false) ∧ w'.cell? ⟨w17.heap.size, 0, none⟩ = some (.slice lx0 lx1 lx2) ∧ w'.cell? ⟨w17.heap.size, 1, none⟩ = some (.slice ly0 ly1 ly2) ∧ w'.cell? ⟨w17.heap.size, 2, none⟩ = some (.bool false) ∧ w'.cell? ⟨w19.heap.size, 0, none⟩ = some (.slice mx0 mx1 mx2) ∧ w'.cell? ⟨w19.heap.size, 1, none⟩ = some (.slice my0 my1 my2) ∧ w'.cell? ⟨w19.heap.size, 2, none⟩ = some (.bool false) ∧ w'.cell? ⟨g21, 0, none⟩ = some (.slice nx0 nx1 nx2) ∧ w'.cell? ⟨g21, 1, none⟩ = some (.slice ny0 ny1 ny2) ∧ w'.cell? ⟨g21, 2, none⟩ = some (.bool false) ∧ w'.cell? ⟨g22, 0, none⟩ = some (.slice ox0 ox1 ox2) ∧ w'.cell? ⟨g22, 1, none⟩ = some (.slice oy0 oy1 oy2) ∧ w'.cell? ⟨g22, 2, none⟩ = some (.bool false) ∧ w'.cell? ⟨w2.heap.size, 0, none⟩ = some (.slice px0 px1 px2) ∧ w'.cell? ⟨w2.heap.size, 1, none⟩ = some (.slice py0 py1 py2) ∧ w'.cell? ⟨w2.heap.size, 2, none⟩ = some (.bool false))) (World.drew _) := ⟨Hbi2.out.cell 0 (by simp), Hbi2.out.cell 1 (by simp), Hbi2.out.cell 2 (by simp), Hbj1.out.cell 0 (by simp), Hbj1.out.cell 1 (by simp), Hbj1.out.cell 2 (by simp), Hbl1.out.cell 0 (by simp), Hbl1.out.cell 1 (by simp), Hbl1.out.cell 2 (by simp), Hbm1.out.cell 0 (by simp), Hbm1.out.cell 1 (by simp), Hbm1.out.cell 2 (by simp), Hbn1.out.cell 0 (by simp), Hbn1.out.cell 1 (by simp), Hbn1.out.cell 2 (by simp), Hbo1.out.cell 0 (by simp), Hbo1.out.cell 1 (by simp), Hbo1.out.cell 2 (by simp), Hbp5.out.cell 0 (by simp), Hbp5.out.cell 1 (by simp), Hbp5.out.cell 2 (by simp)⟩
            refine wpAnyK_take 0 [1, 2, 5, 6, 10, 11, 15, 16, 20, 21, 24] (v := ?v50) rfl (by kernel_rfl) (fun _ _ _ h => h) (Or.inl ⟨by rfl, ?hy50⟩) hHeld ?_
            case hy50 => (intro w hSw; (try dsimp only at hSw); go_simp; try with_reducible rfl)
            try simp only [Act.put, List.setIfInBounds_toArray, List.set_cons_zero, List.set_cons_succ]
            refine wpAnyK_step 1 rfl (by kernel_rfl) (fun K hK => ?_)
            go_simp
            have Hpi2 : Hid (Pn wb22.drew (.slice ix0 ix1 ix2) (.slice iy0 iy1 iy2) (se eP eD P Q)) := Hpi1.out.below (btr Hs17.out (btr Hs17z.out (btr Hs19.out (btr Hs19z.out (btr Hs21.out (btr Hs22.out Hs22z.out)))))) (Nat.le_refl _)
            refine (lon_p Hpi2.out (ew.son HP.out HQ.out)).mono ?_
            rintro e w23 ⟨rfl, hB⟩
            have Hs23 : Hid (Below wb22.drew.heap.size wb22.drew w23) := hB
            clear hB
            have Hbi3 : Hid (Bl 31 w23 w11.heap.size [.slice ix0 ix1 ix2, .slice iy0 iy1 iy2, .bool false]) := Hbi2.out.below Hs23.out Hbi2.out.lt
            have Hbj2 : Hid (Bl 31 w23 w13.heap.size [.slice jx0 jx1 jx2, .slice jy0 jy1 jy2, .bool false]) := Hbj1.out.below Hs23.out Hbj1.out.lt
            have Hbl2 : Hid (Bl 31 w23 w17.heap.size [.slice lx0 lx1 lx2, .slice ly0 ly1 ly2, .bool false]) := Hbl1.out.below Hs23.out Hbl1.out.lt
            have Hbm2 : Hid (Bl 31 w23 w19.heap.size [.slice mx0 mx1 mx2, .slice my0 my1 my2, .bool false]) := Hbm1.out.below Hs23.out Hbm1.out.lt
            have Hbn2 : Hid (Bl 31 w23 g21 [.slice nx0 nx1 nx2, .slice ny0 ny1 ny2, .bool false]) := Hbn1.out.below Hs23.out Hbn1.out.lt
            have Hbo2 : Hid (Bl 31 w23 g22 [.slice ox0 ox1 ox2, .slice oy0 oy1 oy2, .bool false]) := Hbo1.out.below Hs23.out Hbo1.out.lt
            have Hbp6 : Hid (Bl 31 w23 w2.heap.size [.slice px0 px1 px2, .slice py0 py1 py2, .bool false]) := Hbp5.out.below Hs23.out Hbp5.out.lt
            try dsimp only
            refine hK.out _ _ ?hk51 ?_
            case hk51 => exact fun _ => ⟨Hbi3.out.cell 0 (by simp), Hbi3.out.cell 1 (by simp), Hbi3.out.cell 2 (by simp), Hbj2.out.cell 0 (by simp), Hbj2.out.cell 1 (by simp), Hbj2.out.cell 2 (by simp), Hbl2.out.cell 0 (by simp), Hbl2.out.cell 1 (by simp), Hbl2.out.cell 2 (by simp), Hbm2.out.cell 0 (by simp), Hbm2.out.cell 1 (by simp), Hbm2.out.cell 2 (by simp), Hbn2.out.cell 0 (by simp), Hbn2.out.cell 1 (by simp), Hbn2.out.cell 2 (by simp), Hbo2.out.cell 0 (by simp), Hbo2.out.cell 1 (by simp), Hbo2.out.cell 2 (by simp), Hbp6.out.cell 0 (by simp), Hbp6.out.cell 1 (by simp), Hbp6.out.cell 2 (by simp)⟩
            have hHeld : ((fun (w' : World) => w'.cell? ⟨w11.heap.size, 0, none⟩ = some (.slice ix0 ix1 ix2) ∧ w'.cell? ⟨w11.heap.size, 1, none⟩ = some (.slice iy0 iy1 iy2) ∧ w'.cell? ⟨w11.heap.size, 2, none⟩ = some (.bool false) ∧ w'.cell? ⟨w13.heap.size, 0, none⟩ = some (.slice jx0 jx1 jx2) ∧ w'.cell? ⟨w13.heap.size, 1, none⟩ = some (.slice jy0 jy1 jy2) ∧ w'.cell? ⟨w13.heap.size, 2, none⟩ = some (.bool false) ∧ w'.cell? ⟨w17.heap.size, 0, none⟩ = some (.slice lx0 lx1 lx2) ∧ w'.cell? ⟨w17.heap.size, 1, none⟩ = some (.slice ly0 ly1 ly2) ∧ w'.cell? ⟨w17.heap.size, 2, none⟩ = some (.bool false) ∧ w'.cell? ⟨w19.heap.size, 0, none⟩ = some (.slice mx0 mx1 mx2) ∧ w'.cell? ⟨w19.heap.size, 1, none⟩ = some (.slice my0 my1 my2) ∧ w'.cell? ⟨w19.heap.size, 2, none⟩ = some (.bool false) ∧ w'.cell? ⟨g21, 0, none⟩ = some (.slice nx0 nx1 nx2) ∧ w'.cell? ⟨g21, 1, none⟩ = some (.slice ny0 ny1 ny2) ∧ w'.cell? ⟨g21, 2, none⟩ = some (.bool false) ∧ w'.cell? ⟨g22, 0, none⟩ = some (.slice ox0 ox1 ox2) ∧ w'.cell? ⟨g22, 1, none⟩ = some (.slice oy0 oy1 oy2) ∧ w'.cell? ⟨g22, 2, none⟩ = some (.bool false) ∧ w'.cell? ⟨w2.heap.size, 0, none⟩ = some (.slice px0 px1 px2) ∧ w'.cell? ⟨w2.heap.size, 1, none⟩ = some (.slice py0 py1 py2) ∧ w'.cell? ⟨w2.heap.size, 2, none⟩ = some (.bool false))) _ := ⟨Hbi3.out.cell 0 (by simp), Hbi3.out.cell 1 (by simp), Hbi3.out.cell 2 (by simp), Hbj2.out.cell 0 (by simp), Hbj2.out.cell 1 (by simp), Hbj2.out.cell 2 (by simp), Hbl2.out.cell 0 (by simp), Hbl2.out.cell 1 (by simp), Hbl2.out.cell 2 (by simp), Hbm2.out.cell 0 (by simp), Hbm2.out.cell 1 (by simp), Hbm2.out.cell 2 (by simp), Hbn2.out.cell 0 (by simp), Hbn2.out.cell 1 (by simp), Hbn2.out.cell 2 (by simp), Hbo2.out.cell 0 (by simp), Hbo2.out.cell 1 (by simp), Hbo2.out.cell 2 (by simp), Hbp6.out.cell 0 (by simp), Hbp6.out.cell 1 (by simp), Hbp6.out.cell 2 (by simp)⟩
            clear hK K
            try simp only [Act.put, List.setIfInBounds_toArray, List.set_cons_zero, List.set_cons_succ]
            refine wpAnyK_take0 2 (v := ?v52) rfl (by kernel_rfl) (fun _ _ _ h => h) (Or.inl ⟨by rfl, ?hy52⟩) (fun _ => hHeld) ?_
            case hy52 => (intro w hSw; go_simp; try with_reducible rfl)
            try simp only [Act.put, List.setIfInBounds_toArray, List.set_cons_zero, List.set_cons_succ]
            refine wpAnyK_take 3 [4, 5, 6, 10, 11, 15, 16, 20, 21, 24] (v := ?v53) rfl (by kernel_rfl) (fun _ _ _ h => h) (Or.inl ⟨by rfl, ?hy53⟩) hHeld ?_
            case hy53 => (intro w hSw; (try dsimp only at hSw); go_simp; try with_reducible rfl)
            try simp only [Act.put, List.setIfInBounds_toArray, List.set_cons_zero, List.set_cons_succ]
            refine wpAnyK_step 4 rfl (by kernel_rfl) (fun K hK => ?_)
            go_simp
            have Hpl1 : Hid (Pn w23 (.slice lx0 lx1 lx2) (.slice ly0 ly1 ly2) (se eP eD (se eP eD P Q) R)) := Hpl0.out.below (btr Hs17z.out (btr Hs19.out (btr Hs19z.out (btr Hs21.out (btr Hs22.out (btr Hs22z.out Hs23.out)))))) (Nat.le_refl _)
            refine (lon_p Hpl1.out (ew.son (ew.son HP.out HQ.out) HR.out)).mono ?_
            rintro e w24 ⟨rfl, hB⟩
            have Hs24 : Hid (Below w23.heap.size w23 w24) := hB
            clear hB
            have Hbi4 : Hid (Bl 31 w24 w11.heap.size [.slice ix0 ix1 ix2, .slice iy0 iy1 iy2, .bool false]) := Hbi3.out.below Hs24.out Hbi3.out.lt
            have Hbj3 : Hid (Bl 31 w24 w13.heap.size [.slice jx0 jx1 jx2, .slice jy0 jy1 jy2, .bool false]) := Hbj2.out.below Hs24.out Hbj2.out.lt
            have Hbl3 : Hid (Bl 31 w24 w17.heap.size [.slice lx0 lx1 lx2, .slice ly0 ly1 ly2, .bool false]) := Hbl2.out.below Hs24.out Hbl2.out.lt
            have Hbm3 : Hid (Bl 31 w24 w19.heap.size [.slice mx0 mx1 mx2, .slice my0 my1 my2, .bool false]) := Hbm2.out.below Hs24.out Hbm2.out.lt
            have Hbn3 : Hid (Bl 31 w24 g21 [.slice nx0 nx1 nx2, .slice ny0 ny1 ny2, .bool false]) := Hbn2.out.below Hs24.out Hbn2.out.lt
            have Hbo3 : Hid (Bl 31 w24 g22 [.slice ox0 ox1 ox2, .slice oy0 oy1 oy2, .bool false]) := Hbo2.out.below Hs24.out Hbo2.out.lt
            have Hbp7 : Hid (Bl 31 w24 w2.heap.size [.slice px0 px1 px2, .slice py0 py1 py2, .bool false]) := Hbp6.out.below Hs24.out Hbp6.out.lt
            try dsimp only
            refine hK.out _ _ ?hk54 ?_
            case hk54 => exact fun _ => ⟨Hbi4.out.cell 0 (by simp), Hbi4.out.cell 1 (by simp), Hbi4.out.cell 2 (by simp), Hbj3.out.cell 0 (by simp), Hbj3.out.cell 1 (by simp), Hbj3.out.cell 2 (by simp), Hbl3.out.cell 0 (by simp), Hbl3.out.cell 1 (by simp), Hbl3.out.cell 2 (by simp), Hbm3.out.cell 0 (by simp), Hbm3.out.cell 1 (by simp), Hbm3.out.cell 2 (by simp), Hbn3.out.cell 0 (by simp), Hbn3.out.cell 1 (by simp), Hbn3.out.cell 2 (by simp), Hbo3.out.cell 0 (by simp), Hbo3.out.cell 1 (by simp), Hbo3.out.cell 2 (by simp), Hbp7.out.cell 0 (by simp), Hbp7.out.cell 1 (by simp), Hbp7.out.cell 2 (by simp)⟩
            have hHeld : ((fun (w' : World) => w'.cell? ⟨w11.heap.size, 0, none⟩ = some (.slice ix0 ix1 ix2) ∧ w'.cell? ⟨w11.heap.size, 1, none⟩ = some (.slice iy0 iy1 iy2) ∧ w'.cell? ⟨w11.heap.size, 2, none⟩ = some (.bool false) ∧ w'.cell? ⟨w13.heap.size, 0, none⟩ = some (.slice jx0 jx1 jx2) ∧ w'.cell? ⟨w13.heap.size, 1, none⟩ = some (.slice jy0 jy1 jy2) ∧ w'.cell? ⟨w13.heap.size, 2, none⟩ = some (.bool false) ∧ w'.cell? ⟨w17.heap.size, 0, none⟩ = some (.slice lx0 lx1 lx2) ∧ w'.cell? ⟨w17.heap.size, 1, none⟩ = some (.slice ly0 ly1 ly2) ∧ w'.cell? ⟨w17.heap.size, 2, none⟩ = some (.bool false) ∧ w'.cell? ⟨w19.heap.size, 0, none⟩ = some (.slice mx0 mx1 mx2) ∧ w'.cell? ⟨w19.heap.size, 1, none⟩ = some (.slice my0 my1 my2) ∧ w'.cell? ⟨w19.heap.size, 2, none⟩ = some (.bool false) ∧ w'.cell? ⟨g21, 0, none⟩ = some (.slice nx0 nx1 nx2) ∧ w'.cell? ⟨g21, 1, none⟩ = some (.slice ny0 ny1 ny2) ∧ w'.cell? ⟨g21, 2, none⟩ = some (.bool false) ∧ w'.cell? ⟨g22, 0, none⟩ = some (.slice ox0 ox1 ox2) ∧ w'.cell? ⟨g22, 1, none⟩ = some (.slice oy0 oy1 oy2) ∧ w'.cell? ⟨g22, 2, none⟩ = some (.bool false) ∧ w'.cell? ⟨w2.heap.size, 0, none⟩ = some (.slice px0 px1 px2) ∧ w'.cell? ⟨w2.heap.size, 1, none⟩ = some (.slice py0 py1 py2) ∧ w'.cell? ⟨w2.heap.size, 2, none⟩ = some (.bool false))) _ := ⟨Hbi4.out.cell 0 (by simp), Hbi4.out.cell 1 (by simp), Hbi4.out.cell 2 (by simp), Hbj3.out.cell 0 (by simp), Hbj3.out.cell 1 (by simp), Hbj3.out.cell 2 (by simp), Hbl3.out.cell 0 (by simp), Hbl3.out.cell 1 (by simp), Hbl3.out.cell 2 (by simp), Hbm3.out.cell 0 (by simp), Hbm3.out.cell 1 (by simp), Hbm3.out.cell 2 (by simp), Hbn3.out.cell 0 (by simp), Hbn3.out.cell 1 (by simp), Hbn3.out.cell 2 (by simp), Hbo3.out.cell 0 (by simp), Hbo3.out.cell 1 (by simp), Hbo3.out.cell 2 (by simp), Hbp7.out.cell 0 (by simp), Hbp7.out.cell 1 (by simp), Hbp7.out.cell 2 (by simp)⟩
            clear hK K
            try simp only [Act.put, List.setIfInBounds_toArray, List.set_cons_zero, List.set_cons_succ]
            refine wpAnyK_take0 5 (v := ?v55) rfl (by kernel_rfl) (fun _ _ _ h => h) (Or.inl ⟨by rfl, ?hy55⟩) (fun _ => hHeld) ?_
            case hy55 => (intro w hSw; go_simp; try with_reducible rfl)
            try simp only [Act.put, List.setIfInBounds_toArray, List.set_cons_zero, List.set_cons_succ]
            refine wpAnyK_take0 6 (v := ?v56) rfl (by kernel_rfl) (fun _ _ _ h => h) (Or.inl ⟨by rfl, ?hy56⟩) (fun _ => hHeld) ?_
            case hy56 => (intro w hSw; go_simp; try with_reducible rfl)
            try simp only [Act.put, List.setIfInBounds_toArray, List.set_cons_zero, List.set_cons_succ]
            refine wpAnyK_take 7 [9, 10, 11, 15, 16, 20, 21, 24] (v := ?v57) rfl (by kernel_rfl) (fun _ _ _ h => h) (Or.inl ⟨by rfl, ?hy57⟩) hHeld ?_
            case hy57 => (intro w hSw; (try dsimp only at hSw); go_simp; try with_reducible rfl)
            try simp only [Act.put, List.setIfInBounds_toArray, List.set_cons_zero, List.set_cons_succ]
            refine wpAnyK_take 8 [9, 10, 11, 15, 16, 20, 21, 24] (v := ?v58) rfl (by kernel_rfl) (fun _ _ _ h => h) (Or.inl ⟨by rfl, ?hy58⟩) hHeld ?_
            case hy58 => (intro w hSw; (try dsimp only at hSw); go_simp; try with_reducible rfl)
            try simp only [Act.put, List.setIfInBounds_toArray, List.set_cons_zero, List.set_cons_succ]
            refine wpAnyK_step 9 rfl (by kernel_rfl) (fun K hK => ?_)
            go_simp
            have Hpi3 : Hid (Pn w24 (.slice ix0 ix1 ix2) (.slice iy0 iy1 iy2) (se eP eD P Q)) := Hpi2.out.below (btr Hs23.out Hs24.out) (Nat.le_refl _)
            have Hpj1 : Hid (Pn w24 (.slice jx0 jx1 jx2) (.slice jy0 jy1 jy2) (se eP eD Q P)) := Hpj0.out.below (btr Hs13z.out (btr Hs15.out (btr Hs15z.out (btr Hs17.out (btr Hs17z.out (btr Hs19.out (btr Hs19z.out (btr Hs21.out (btr Hs22.out (btr Hs22z.out (btr Hs23.out Hs24.out))))))))))) (Nat.le_refl _)
            refine (lone_p Hpi3.out Hpj1.out).mono ?_
            rintro e w25 ⟨rfl, hB⟩
            have Hs25 : Hid (Below w24.heap.size w24 w25) := hB
            clear hB
            rw [decide_eq_true (ew.comm HP.out HQ.out)]
            have Hbi5 : Hid (Bl 31 w25 w11.heap.size [.slice ix0 ix1 ix2, .slice iy0 iy1 iy2, .bool false]) := Hbi4.out.below Hs25.out Hbi4.out.lt
            have Hbj4 : Hid (Bl 31 w25 w13.heap.size [.slice jx0 jx1 jx2, .slice jy0 jy1 jy2, .bool false]) := Hbj3.out.below Hs25.out Hbj3.out.lt
            have Hbl4 : Hid (Bl 31 w25 w17.heap.size [.slice lx0 lx1 lx2, .slice ly0 ly1 ly2, .bool false]) := Hbl3.out.below Hs25.out Hbl3.out.lt
            have Hbm4 : Hid (Bl 31 w25 w19.heap.size [.slice mx0 mx1 mx2, .slice my0 my1 my2, .bool false]) := Hbm3.out.below Hs25.out Hbm3.out.lt
            have Hbn4 : Hid (Bl 31 w25 g21 [.slice nx0 nx1 nx2, .slice ny0 ny1 ny2, .bool false]) := Hbn3.out.below Hs25.out Hbn3.out.lt
            have Hbo4 : Hid (Bl 31 w25 g22 [.slice ox0 ox1 ox2, .slice oy0 oy1 oy2, .bool false]) := Hbo3.out.below Hs25.out Hbo3.out.lt
            have Hbp8 : Hid (Bl 31 w25 w2.heap.size [.slice px0 px1 px2, .slice py0 py1 py2, .bool false]) := Hbp7.out.below Hs25.out Hbp7.out.lt
            try dsimp only
            refine hK.out _ _ ?hk59 ?_
            case hk59 => exact fun _ => ⟨Hbi5.out.cell 0 (by simp), Hbi5.out.cell 1 (by simp), Hbi5.out.cell 2 (by simp), Hbj4.out.cell 0 (by simp), Hbj4.out.cell 1 (by simp), Hbj4.out.cell 2 (by simp), Hbl4.out.cell 0 (by simp), Hbl4.out.cell 1 (by simp), Hbl4.out.cell 2 (by simp), Hbm4.out.cell 0 (by simp), Hbm4.out.cell 1 (by simp), Hbm4.out.cell 2 (by simp), Hbn4.out.cell 0 (by simp), Hbn4.out.cell 1 (by simp), Hbn4.out.cell 2 (by simp), Hbo4.out.cell 0 (by simp), Hbo4.out.cell 1 (by simp), Hbo4.out.cell 2 (by simp), Hbp8.out.cell 0 (by simp), Hbp8.out.cell 1 (by simp), Hbp8.out.cell 2 (by simp)⟩
            have hHeld : ((fun (w' : World) => w'.cell? ⟨w11.heap.size, 0, none⟩ = some (.slice ix0 ix1 ix2) ∧ w'.cell? ⟨w11.heap.size, 1, none⟩ = some (.slice iy0 iy1 iy2) ∧ w'.cell? ⟨w11.heap.size, 2, none⟩ = some (.bool false) ∧ w'.cell? ⟨w13.heap.size, 0, none⟩ = some (.slice jx0 jx1 jx2) ∧ w'.cell? ⟨w13.heap.size, 1, none⟩ = some (.slice jy0 jy1 jy2) ∧ w'.cell? ⟨w13.heap.size, 2, none⟩ = some (.bool false) ∧ w'.cell? ⟨w17.heap.size, 0, none⟩ = some (.slice lx0 lx1 lx2) ∧ w'.cell? ⟨w17.heap.size, 1, none⟩ = some (.slice ly0 ly1 ly2) ∧ w'.cell? ⟨w17.heap.size, 2, none⟩ = some (.bool false) ∧ w'.cell? ⟨w19.heap.size, 0, none⟩ = some (.slice mx0 mx1 mx2) ∧ w'.cell? ⟨w19.heap.size, 1, none⟩ = some (.slice my0 my1 my2) ∧ w'.cell? ⟨w19.heap.size, 2, none⟩ = some (.bool false) ∧ w'.cell? ⟨g21, 0, none⟩ = some (.slice nx0 nx1 nx2) ∧ w'.cell? ⟨g21, 1, none⟩ = some (.slice ny0 ny1 ny2) ∧ w'.cell? ⟨g21, 2, none⟩ = some (.bool false) ∧ w'.cell? ⟨g22, 0, none⟩ = some (.slice ox0 ox1 ox2) ∧ w'.cell? ⟨g22, 1, none⟩ = some (.slice oy0 oy1 oy2) ∧ w'.cell? ⟨g22, 2, none⟩ = some (.bool false) ∧ w'.cell? ⟨w2.heap.size, 0, none⟩ = some (.slice px0 px1 px2) ∧ w'.cell? ⟨w2.heap.size, 1, none⟩ = some (.slice py0 py1 py2) ∧ w'.cell? ⟨w2.heap.size, 2, none⟩ = some (.bool false))) _ := ⟨Hbi5.out.cell 0 (by simp), Hbi5.out.cell 1 (by simp), Hbi5.out.cell 2 (by simp), Hbj4.out.cell 0 (by simp), Hbj4.out.cell 1 (by simp), Hbj4.out.cell 2 (by simp), Hbl4.out.cell 0 (by simp), Hbl4.out.cell 1 (by simp), Hbl4.out.cell 2 (by simp), Hbm4.out.cell 0 (by simp), Hbm4.out.cell 1 (by simp), Hbm4.out.cell 2 (by simp), Hbn4.out.cell 0 (by simp), Hbn4.out.cell 1 (by simp), Hbn4.out.cell 2 (by simp), Hbo4.out.cell 0 (by simp), Hbo4.out.cell 1 (by simp), Hbo4.out.cell 2 (by simp), Hbp8.out.cell 0 (by simp), Hbp8.out.cell 1 (by simp), Hbp8.out.cell 2 (by simp)⟩
            clear hK K
            try simp only [Act.put, List.setIfInBounds_toArray, List.set_cons_zero, List.set_cons_succ]
            refine wpAnyK_take0 10 (v := ?v60) rfl (by kernel_rfl) (fun _ _ _ h => h) (Or.inl ⟨by rfl, ?hy60⟩) (fun _ => hHeld) ?_
            case hy60 => (intro w hSw; go_simp; try with_reducible rfl)
            try simp only [Act.put, List.setIfInBounds_toArray, List.set_cons_zero, List.set_cons_succ]
            refine wpAnyK_take0 11 (v := ?v61) rfl (by kernel_rfl) (fun _ _ _ h => h) (Or.inl ⟨by rfl, ?hy61⟩) (fun _ => hHeld) ?_
            case hy61 => (intro w hSw; go_simp; try with_reducible rfl)
            try simp only [Act.put, List.setIfInBounds_toArray, List.set_cons_zero, List.set_cons_succ]
            refine wpAnyK_take 12 [14, 15, 16, 20, 21, 24] (v := ?v62) rfl (by kernel_rfl) (fun _ _ _ h => h) (Or.inl ⟨by rfl, ?hy62⟩) hHeld ?_
            case hy62 => (intro w hSw; (try dsimp only at hSw); go_simp; try with_reducible rfl)
            try simp only [Act.put, List.setIfInBounds_toArray, List.set_cons_zero, List.set_cons_succ]
            refine wpAnyK_take 13 [14, 15, 16, 20, 21, 24] (v := ?v63) rfl (by kernel_rfl) (fun _ _ _ h => h) (Or.inl ⟨by rfl, ?hy63⟩) hHeld ?_
            case hy63 => (intro w hSw; (try dsimp only at hSw); go_simp; try with_reducible rfl)
            try simp only [Act.put, List.setIfInBounds_toArray, List.set_cons_zero, List.set_cons_succ]
            refine wpAnyK_step 14 rfl (by kernel_rfl) (fun K hK => ?_)
            go_simp
            have Hpl2 : Hid (Pn w25 (.slice lx0 lx1 lx2) (.slice ly0 ly1 ly2) (se eP eD (se eP eD P Q) R)) := Hpl1.out.below (btr Hs24.out Hs25.out) (Nat.le_refl _)
            have Hpm1 : Hid (Pn w25 (.slice mx0 mx1 mx2) (.slice my0 my1 my2) (se eP eD P (se eP eD Q R))) := Hpm0.out.below (btr Hs19z.out (btr Hs21.out (btr Hs22.out (btr Hs22z.out (btr Hs23.out (btr Hs24.out Hs25.out)))))) (Nat.le_refl _)
            refine (lone_p Hpl2.out Hpm1.out).mono ?_
            rintro e w26 ⟨rfl, hB⟩
            have Hs26 : Hid (Below w25.heap.size w25 w26) := hB
            clear hB
            rw [decide_eq_true (ew.ass HP.out HQ.out HR.out)]
            have Hbi6 : Hid (Bl 31 w26 w11.heap.size [.slice ix0 ix1 ix2, .slice iy0 iy1 iy2, .bool false]) := Hbi5.out.below Hs26.out Hbi5.out.lt
            have Hbj5 : Hid (Bl 31 w26 w13.heap.size [.slice jx0 jx1 jx2, .slice jy0 jy1 jy2, .bool false]) := Hbj4.out.below Hs26.out Hbj4.out.lt
            have Hbl5 : Hid (Bl 31 w26 w17.heap.size [.slice lx0 lx1 lx2, .slice ly0 ly1 ly2, .bool false]) := Hbl4.out.below Hs26.out Hbl4.out.lt
            have Hbm5 : Hid (Bl 31 w26 w19.heap.size [.slice mx0 mx1 mx2, .slice my0 my1 my2, .bool false]) := Hbm4.out.below Hs26.out Hbm4.out.lt
            have Hbn5 : Hid (Bl 31 w26 g21 [.slice nx0 nx1 nx2, .slice ny0 ny1 ny2, .bool false]) := Hbn4.out.below Hs26.out Hbn4.out.lt
            have Hbo5 : Hid (Bl 31 w26 g22 [.slice ox0 ox1 ox2, .slice oy0 oy1 oy2, .bool false]) := Hbo4.out.below Hs26.out Hbo4.out.lt
            have Hbp9 : Hid (Bl 31 w26 w2.heap.size [.slice px0 px1 px2, .slice py0 py1 py2, .bool false]) := Hbp8.out.below Hs26.out Hbp8.out.lt
            try dsimp only
            refine hK.out _ _ ?hk64 ?_
            case hk64 => exact fun _ => ⟨Hbi6.out.cell 0 (by simp), Hbi6.out.cell 1 (by simp), Hbi6.out.cell 2 (by simp), Hbj5.out.cell 0 (by simp), Hbj5.out.cell 1 (by simp), Hbj5.out.cell 2 (by simp), Hbl5.out.cell 0 (by simp), Hbl5.out.cell 1 (by simp), Hbl5.out.cell 2 (by simp), Hbm5.out.cell 0 (by simp), Hbm5.out.cell 1 (by simp), Hbm5.out.cell 2 (by simp), Hbn5.out.cell 0 (by simp), Hbn5.out.cell 1 (by simp), Hbn5.out.cell 2 (by simp), Hbo5.out.cell 0 (by simp), Hbo5.out.cell 1 (by simp), Hbo5.out.cell 2 (by simp), Hbp9.out.cell 0 (by simp), Hbp9.out.cell 1 (by simp), Hbp9.out.cell 2 (by simp)⟩
            have hHeld : ((fun (w' : World) => w'.cell? ⟨w11.heap.size, 0, none⟩ = some (.slice ix0 ix1 ix2) ∧ w'.cell? ⟨w11.heap.size, 1, none⟩ = some (.slice iy0 iy1 iy2) ∧ w'.cell? ⟨w11.heap.size, 2, none⟩ = some (.bool false) ∧ w'.cell? ⟨w13.heap.size, 0, none⟩ = some (.slice jx0 jx1 jx2) ∧ w'.cell? ⟨w13.heap.size, 1, none⟩ = some (.slice jy0 jy1 jy2) ∧ w'.cell? ⟨w13.heap.size, 2, none⟩ = some (.bool false) ∧ w'.cell? ⟨w17.heap.size, 0, none⟩ = some (.slice lx0 lx1 lx2) ∧ w'.cell? ⟨w17.heap.size, 1, none⟩ = some (.slice ly0 ly1 ly2) ∧ w'.cell? ⟨w17.heap.size, 2, none⟩ = some (.bool false) ∧ w'.cell? ⟨w19.heap.size, 0, none⟩ = some (.slice mx0 mx1 mx2) ∧ w'.cell? ⟨w19.heap.size, 1, none⟩ = some (.slice my0 my1 my2) ∧ w'.cell? ⟨w19.heap.size, 2, none⟩ = some (.bool false) ∧ w'.cell? ⟨g21, 0, none⟩ = some (.slice nx0 nx1 nx2) ∧ w'.cell? ⟨g21, 1, none⟩ = some (.slice ny0 ny1 ny2) ∧ w'.cell? ⟨g21, 2, none⟩ = some (.bool false) ∧ w'.cell? ⟨g22, 0, none⟩ = some (.slice ox0 ox1 ox2) ∧ w'.cell? ⟨g22, 1, none⟩ = some (.slice oy0 oy1 oy2) ∧ w'.cell? ⟨g22, 2, none⟩ = some (.bool false) ∧ w'.cell? ⟨w2.heap.size, 0, none⟩ = some (.slice px0 px1 px2) ∧ w'.cell? ⟨w2.heap.size, 1, none⟩ = some (.slice py0 py1 py2) ∧ w'.cell? ⟨w2.heap.size, 2, none⟩ = some (.bool false))) _ := ⟨Hbi6.out.cell 0 (by simp), Hbi6.out.cell 1 (by simp), Hbi6.out.cell 2 (by simp), Hbj5.out.cell 0 (by simp), Hbj5.out.cell 1 (by simp), Hbj5.out.cell 2 (by simp), Hbl5.out.cell 0 (by simp), Hbl5.out.cell 1 (by simp), Hbl5.out.cell 2 (by simp), Hbm5.out.cell 0 (by simp), Hbm5.out.cell 1 (by simp), Hbm5.out.cell 2 (by simp), Hbn5.out.cell 0 (by simp), Hbn5.out.cell 1 (by simp), Hbn5.out.cell 2 (by simp), Hbo5.out.cell 0 (by simp), Hbo5.out.cell 1 (by simp), Hbo5.out.cell 2 (by simp), Hbp9.out.cell 0 (by simp), Hbp9.out.cell 1 (by simp), Hbp9.out.cell 2 (by simp)⟩
            clear hK K
            try simp only [Act.put, List.setIfInBounds_toArray, List.set_cons_zero, List.set_cons_succ]
            refine wpAnyK_take0 15 (v := ?v65) rfl (by kernel_rfl) (fun _ _ _ h => h) (Or.inl ⟨by rfl, ?hy65⟩) (fun _ => hHeld) ?_
            case hy65 => (intro w hSw; go_simp; try with_reducible rfl)
            try simp only [Act.put, List.setIfInBounds_toArray, List.set_cons_zero, List.set_cons_succ]
            refine wpAnyK_take0 16 (v := ?v66) rfl (by kernel_rfl) (fun _ _ _ h => h) (Or.inl ⟨by rfl, ?hy66⟩) (fun _ => hHeld) ?_
            case hy66 => (intro w hSw; go_simp; try with_reducible rfl)
            try simp only [Act.put, List.setIfInBounds_toArray, List.set_cons_zero, List.set_cons_succ]
            refine wpAnyK_take 17 [19, 20, 21, 24] (v := ?v67) rfl (by kernel_rfl) (fun _ _ _ h => h) (Or.inl ⟨by rfl, ?hy67⟩) hHeld ?_
            case hy67 => (intro w hSw; (try dsimp only at hSw); go_simp; try with_reducible rfl)
            try simp only [Act.put, List.setIfInBounds_toArray, List.set_cons_zero, List.set_cons_succ]
            refine wpAnyK_take 18 [19, 20, 21, 24] (v := ?v68) rfl (by kernel_rfl) (fun _ _ _ h => h) (Or.inl ⟨by rfl, ?hy68⟩) hHeld ?_
            case hy68 => (intro w hSw; (try dsimp only at hSw); go_simp; try with_reducible rfl)
            try simp only [Act.put, List.setIfInBounds_toArray, List.set_cons_zero, List.set_cons_succ]
            refine wpAnyK_step 19 rfl (by kernel_rfl) (fun K hK => ?_)
            go_simp
            have Hpn1 : Hid (Pn w26 (.slice nx0 nx1 nx2) (.slice ny0 ny1 ny2) P) := Hpn0.out.below (btr Hs22.out (btr Hs22z.out (btr Hs23.out (btr Hs24.out (btr Hs25.out Hs26.out))))) (Nat.le_refl _)
            have Hpp6 : Hid (Pn w26 (.slice px0 px1 px2) (.slice py0 py1 py2) P) := Hpp5.out.below (btr Hs21.out (btr Hs22.out (btr Hs22z.out (btr Hs23.out (btr Hs24.out (btr Hs25.out Hs26.out)))))) (Nat.le_refl _)
            refine (lone_p Hpn1.out Hpp6.out).mono ?_
            rintro e w27 ⟨rfl, hB⟩
            have Hs27 : Hid (Below w26.heap.size w26 w27) := hB
            clear hB
            rw [decide_eq_true (rfl)]
            have Hbi7 : Hid (Bl 31 w27 w11.heap.size [.slice ix0 ix1 ix2, .slice iy0 iy1 iy2, .bool false]) := Hbi6.out.below Hs27.out Hbi6.out.lt
            have Hbj6 : Hid (Bl 31 w27 w13.heap.size [.slice jx0 jx1 jx2, .slice jy0 jy1 jy2, .bool false]) := Hbj5.out.below Hs27.out Hbj5.out.lt
            have Hbl6 : Hid (Bl 31 w27 w17.heap.size [.slice lx0 lx1 lx2, .slice ly0 ly1 ly2, .bool false]) := Hbl5.out.below Hs27.out Hbl5.out.lt
            have Hbm6 : Hid (Bl 31 w27 w19.heap.size [.slice mx0 mx1 mx2, .slice my0 my1 my2, .bool false]) := Hbm5.out.below Hs27.out Hbm5.out.lt
            have Hbn6 : Hid (Bl 31 w27 g21 [.slice nx0 nx1 nx2, .slice ny0 ny1 ny2, .bool false]) := Hbn5.out.below Hs27.out Hbn5.out.lt
            have Hbo6 : Hid (Bl 31 w27 g22 [.slice ox0 ox1 ox2, .slice oy0 oy1 oy2, .bool false]) := Hbo5.out.below Hs27.out Hbo5.out.lt
            have Hbp10 : Hid (Bl 31 w27 w2.heap.size [.slice px0 px1 px2, .slice py0 py1 py2, .bool false]) := Hbp9.out.below Hs27.out Hbp9.out.lt
            try dsimp only
            refine hK.out _ _ ?hk69 ?_
            case hk69 => exact fun _ => ⟨Hbi7.out.cell 0 (by simp), Hbi7.out.cell 1 (by simp), Hbi7.out.cell 2 (by simp), Hbj6.out.cell 0 (by simp), Hbj6.out.cell 1 (by simp), Hbj6.out.cell 2 (by simp), Hbl6.out.cell 0 (by simp), Hbl6.out.cell 1 (by simp), Hbl6.out.cell 2 (by simp), Hbm6.out.cell 0 (by simp), Hbm6.out.cell 1 (by simp), Hbm6.out.cell 2 (by simp), Hbn6.out.cell 0 (by simp), Hbn6.out.cell 1 (by simp), Hbn6.out.cell 2 (by simp), Hbo6.out.cell 0 (by simp), Hbo6.out.cell 1 (by simp), Hbo6.out.cell 2 (by simp), Hbp10.out.cell 0 (by simp), Hbp10.out.cell 1 (by simp), Hbp10.out.cell 2 (by simp)⟩
            have hHeld : ((fun (w' : World) => w'.cell? ⟨w11.heap.size, 0, none⟩ = some (.slice ix0 ix1 ix2) ∧ w'.cell? ⟨w11.heap.size, 1, none⟩ = some (.slice iy0 iy1 iy2) ∧ w'.cell? ⟨w11.heap.size, 2, none⟩ = some (.bool false) ∧ w'.cell? ⟨w13.heap.size, 0, none⟩ = some (.slice jx0 jx1 jx2) ∧ w'.cell? ⟨w13.heap.size, 1, none⟩ = some (.slice jy0 jy1 jy2) ∧ w'.cell? ⟨w13.heap.size, 2, none⟩ = some (.bool false) ∧ w'.cell? ⟨w17.heap.size, 0, none⟩ = some (.slice lx0 lx1 lx2) ∧ w'.cell? ⟨w17.heap.size, 1, none⟩ = some (.slice ly0 ly1 ly2) ∧ w'.cell? ⟨w17.heap.size, 2, none⟩ = some (.bool false) ∧ w'.cell? ⟨w19.heap.size, 0, none⟩ = some (.slice mx0 mx1 mx2) ∧ w'.cell? ⟨w19.heap.size, 1, none⟩ = some (.slice my0 my1 my2) ∧ w'.cell? ⟨w19.heap.size, 2, none⟩ = some (.bool false) ∧ w'.cell? ⟨g21, 0, none⟩ = some (.slice nx0 nx1 nx2) ∧ w'.cell? ⟨g21, 1, none⟩ = some (.slice ny0 ny1 ny2) ∧ w'.cell? ⟨g21, 2, none⟩ = some (.bool false) ∧ w'.cell? ⟨g22, 0, none⟩ = some (.slice ox0 ox1 ox2) ∧ w'.cell? ⟨g22, 1, none⟩ = some (.slice oy0 oy1 oy2) ∧ w'.cell? ⟨g22, 2, none⟩ = some (.bool false) ∧ w'.cell? ⟨w2.heap.size, 0, none⟩ = some (.slice px0 px1 px2) ∧ w'.cell? ⟨w2.heap.size, 1, none⟩ = some (.slice py0 py1 py2) ∧ w'.cell? ⟨w2.heap.size, 2, none⟩ = some (.bool false))) _ := ⟨Hbi7.out.cell 0 (by simp), Hbi7.out.cell 1 (by simp), Hbi7.out.cell 2 (by simp), Hbj6.out.cell 0 (by simp), Hbj6.out.cell 1 (by simp), Hbj6.out.cell 2 (by simp), Hbl6.out.cell 0 (by simp), Hbl6.out.cell 1 (by simp), Hbl6.out.cell 2 (by simp), Hbm6.out.cell 0 (by simp), Hbm6.out.cell 1 (by simp), Hbm6.out.cell 2 (by simp), Hbn6.out.cell 0 (by simp), Hbn6.out.cell 1 (by simp), Hbn6.out.cell 2 (by simp), Hbo6.out.cell 0 (by simp), Hbo6.out.cell 1 (by simp), Hbo6.out.cell 2 (by simp), Hbp10.out.cell 0 (by simp), Hbp10.out.cell 1 (by simp), Hbp10.out.cell 2 (by simp)⟩
            clear hK K
            try simp only [Act.put, List.setIfInBounds_toArray, List.set_cons_zero, List.set_cons_succ]
            refine wpAnyK_take0 20 (v := ?v70) rfl (by kernel_rfl) (fun _ _ _ h => h) (Or.inl ⟨by rfl, ?hy70⟩) (fun _ => hHeld) ?_
            case hy70 => (intro w hSw; go_simp; try with_reducible rfl)
            try simp only [Act.put, List.setIfInBounds_toArray, List.set_cons_zero, List.set_cons_succ]
            refine wpAnyK_take0 21 (v := ?v71) rfl (by kernel_rfl) (fun _ _ _ h => h) (Or.inl ⟨by rfl, ?hy71⟩) (fun _ => hHeld) ?_
            case hy71 => (intro w hSw; go_simp; try with_reducible rfl)
            try simp only [Act.put, List.setIfInBounds_toArray, List.set_cons_zero, List.set_cons_succ]
            refine wpAnyK_take 22 [24] (v := ?v72) rfl (by kernel_rfl) (fun _ _ _ h => h) (Or.inl ⟨by rfl, ?hy72⟩) hHeld ?_
            case hy72 => (intro w hSw; (try dsimp only at hSw); go_simp; try with_reducible rfl)
            try simp only [Act.put, List.setIfInBounds_toArray, List.set_cons_zero, List.set_cons_succ]
            refine wpAnyK_step 23 rfl (by kernel_rfl) (fun K hK => ?_)
            go_simp
            refine (lzero_v _).mono ?_
            rintro e w28 ⟨zw, rfl, mz, hB⟩
            have Hs28 : Hid (Below w27.heap.size w27 w28) := hB
            obtain ⟨zw0, zw1, zw2, rfl⟩ := mz.nk.sl
            have Hpz0 : Hid (Pn w28 (.slice none 0 0) (.slice zw0 zw1 zw2) (0, 1)) := Pn.zero mz
            clear mz hB
            have Hbi8 : Hid (Bl 31 w28 w11.heap.size [.slice ix0 ix1 ix2, .slice iy0 iy1 iy2, .bool false]) := Hbi7.out.below Hs28.out Hbi7.out.lt
            have Hbj7 : Hid (Bl 31 w28 w13.heap.size [.slice jx0 jx1 jx2, .slice jy0 jy1 jy2, .bool false]) := Hbj6.out.below Hs28.out Hbj6.out.lt
            have Hbl7 : Hid (Bl 31 w28 w17.heap.size [.slice lx0 lx1 lx2, .slice ly0 ly1 ly2, .bool false]) := Hbl6.out.below Hs28.out Hbl6.out.lt
            have Hbm7 : Hid (Bl 31 w28 w19.heap.size [.slice mx0 mx1 mx2, .slice my0 my1 my2, .bool false]) := Hbm6.out.below Hs28.out Hbm6.out.lt
            have Hbn7 : Hid (Bl 31 w28 g21 [.slice nx0 nx1 nx2, .slice ny0 ny1 ny2, .bool false]) := Hbn6.out.below Hs28.out Hbn6.out.lt
            have Hbo7 : Hid (Bl 31 w28 g22 [.slice ox0 ox1 ox2, .slice oy0 oy1 oy2, .bool false]) := Hbo6.out.below Hs28.out Hbo6.out.lt
            have Hbp11 : Hid (Bl 31 w28 w2.heap.size [.slice px0 px1 px2, .slice py0 py1 py2, .bool false]) := Hbp10.out.below Hs28.out Hbp10.out.lt
            try dsimp only
            refine hK.out _ _ ?hk73 ?_
            case hk73 => exact fun _ => ⟨Hbi8.out.cell 0 (by simp), Hbi8.out.cell 1 (by simp), Hbi8.out.cell 2 (by simp), Hbj7.out.cell 0 (by simp), Hbj7.out.cell 1 (by simp), Hbj7.out.cell 2 (by simp), Hbl7.out.cell 0 (by simp), Hbl7.out.cell 1 (by simp), Hbl7.out.cell 2 (by simp), Hbm7.out.cell 0 (by simp), Hbm7.out.cell 1 (by simp), Hbm7.out.cell 2 (by simp), Hbn7.out.cell 0 (by simp), Hbn7.out.cell 1 (by simp), Hbn7.out.cell 2 (by simp), Hbo7.out.cell 0 (by simp), Hbo7.out.cell 1 (by simp), Hbo7.out.cell 2 (by simp), Hbp11.out.cell 0 (by simp), Hbp11.out.cell 1 (by simp), Hbp11.out.cell 2 (by simp)⟩
            have hHeld : ((fun (w' : World) => w'.cell? ⟨w11.heap.size, 0, none⟩ = some (.slice ix0 ix1 ix2) ∧ w'.cell? ⟨w11.heap.size, 1, none⟩ = some (.slice iy0 iy1 iy2) ∧ w'.cell? ⟨w11.heap.size, 2, none⟩ = some (.bool false) ∧ w'.cell? ⟨w13.heap.size, 0, none⟩ = some (.slice jx0 jx1 jx2) ∧ w'.cell? ⟨w13.heap.size, 1, none⟩ = some (.slice jy0 jy1 jy2) ∧ w'.cell? ⟨w13.heap.size, 2, none⟩ = some (.bool false) ∧ w'.cell? ⟨w17.heap.size, 0, none⟩ = some (.slice lx0 lx1 lx2) ∧ w'.cell? ⟨w17.heap.size, 1, none⟩ = some (.slice ly0 ly1 ly2) ∧ w'.cell? ⟨w17.heap.size, 2, none⟩ = some (.bool false) ∧ w'.cell? ⟨w19.heap.size, 0, none⟩ = some (.slice mx0 mx1 mx2) ∧ w'.cell? ⟨w19.heap.size, 1, none⟩ = some (.slice my0 my1 my2) ∧ w'.cell? ⟨w19.heap.size, 2, none⟩ = some (.bool false) ∧ w'.cell? ⟨g21, 0, none⟩ = some (.slice nx0 nx1 nx2) ∧ w'.cell? ⟨g21, 1, none⟩ = some (.slice ny0 ny1 ny2) ∧ w'.cell? ⟨g21, 2, none⟩ = some (.bool false) ∧ w'.cell? ⟨g22, 0, none⟩ = some (.slice ox0 ox1 ox2) ∧ w'.cell? ⟨g22, 1, none⟩ = some (.slice oy0 oy1 oy2) ∧ w'.cell? ⟨g22, 2, none⟩ = some (.bool false) ∧ w'.cell? ⟨w2.heap.size, 0, none⟩ = some (.slice px0 px1 px2) ∧ w'.cell? ⟨w2.heap.size, 1, none⟩ = some (.slice py0 py1 py2) ∧ w'.cell? ⟨w2.heap.size, 2, none⟩ = some (.bool false))) _ := ⟨Hbi8.out.cell 0 (by simp), Hbi8.out.cell 1 (by simp), Hbi8.out.cell 2 (by simp), Hbj7.out.cell 0 (by simp), Hbj7.out.cell 1 (by simp), Hbj7.out.cell 2 (by simp), Hbl7.out.cell 0 (by simp), Hbl7.out.cell 1 (by simp), Hbl7.out.cell 2 (by simp), Hbm7.out.cell 0 (by simp), Hbm7.out.cell 1 (by simp), Hbm7.out.cell 2 (by simp), Hbn7.out.cell 0 (by simp), Hbn7.out.cell 1 (by simp), Hbn7.out.cell 2 (by simp), Hbo7.out.cell 0 (by simp), Hbo7.out.cell 1 (by simp), Hbo7.out.cell 2 (by simp), Hbp11.out.cell 0 (by simp), Hbp11.out.cell 1 (by simp), Hbp11.out.cell 2 (by simp)⟩
            clear hK K
            try simp only [Act.put, List.setIfInBounds_toArray, List.set_cons_zero, List.set_cons_succ]
            refine wpAnyK_step 24 rfl (by kernel_rfl) (fun K hK => ?_)
            go_simp
            have Hpo1 : Hid (Pn w28 (.slice ox0 ox1 ox2) (.slice oy0 oy1 oy2) (0, 1)) := Hpo0.out.below (btr Hs22z.out (btr Hs23.out (btr Hs24.out (btr Hs25.out (btr Hs26.out (btr Hs27.out Hs28.out)))))) (Nat.le_refl _)
            refine (lone_p Hpo1.out Hpz0.out).mono ?_
            rintro e w29 ⟨rfl, hB⟩
            have Hs29 : Hid (Below w28.heap.size w28 w29) := hB
            clear hB
            rw [decide_eq_true (rfl)]
            have Hbi9 : Hid (Bl 31 w29 w11.heap.size [.slice ix0 ix1 ix2, .slice iy0 iy1 iy2, .bool false]) := Hbi8.out.below Hs29.out Hbi8.out.lt
            have Hbj8 : Hid (Bl 31 w29 w13.heap.size [.slice jx0 jx1 jx2, .slice jy0 jy1 jy2, .bool false]) := Hbj7.out.below Hs29.out Hbj7.out.lt
            have Hbl8 : Hid (Bl 31 w29 w17.heap.size [.slice lx0 lx1 lx2, .slice ly0 ly1 ly2, .bool false]) := Hbl7.out.below Hs29.out Hbl7.out.lt
            have Hbm8 : Hid (Bl 31 w29 w19.heap.size [.slice mx0 mx1 mx2, .slice my0 my1 my2, .bool false]) := Hbm7.out.below Hs29.out Hbm7.out.lt
            have Hbn8 : Hid (Bl 31 w29 g21 [.slice nx0 nx1 nx2, .slice ny0 ny1 ny2, .bool false]) := Hbn7.out.below Hs29.out Hbn7.out.lt
            have Hbo8 : Hid (Bl 31 w29 g22 [.slice ox0 ox1 ox2, .slice oy0 oy1 oy2, .bool false]) := Hbo7.out.below Hs29.out Hbo7.out.lt
            have Hbp12 : Hid (Bl 31 w29 w2.heap.size [.slice px0 px1 px2, .slice py0 py1 py2, .bool false]) := Hbp11.out.below Hs29.out Hbp11.out.lt
            try dsimp only
            refine hK.out _ _ ?hk74 ?_
            case hk74 => exact fun _ => ⟨Hbi9.out.cell 0 (by simp), Hbi9.out.cell 1 (by simp), Hbi9.out.cell 2 (by simp), Hbj8.out.cell 0 (by simp), Hbj8.out.cell 1 (by simp), Hbj8.out.cell 2 (by simp), Hbl8.out.cell 0 (by simp), Hbl8.out.cell 1 (by simp), Hbl8.out.cell 2 (by simp), Hbm8.out.cell 0 (by simp), Hbm8.out.cell 1 (by simp), Hbm8.out.cell 2 (by simp), Hbn8.out.cell 0 (by simp), Hbn8.out.cell 1 (by simp), Hbn8.out.cell 2 (by simp), Hbo8.out.cell 0 (by simp), Hbo8.out.cell 1 (by simp), Hbo8.out.cell 2 (by simp), Hbp12.out.cell 0 (by simp), Hbp12.out.cell 1 (by simp), Hbp12.out.cell 2 (by simp)⟩
            have hHeld : ((fun (w' : World) => w'.cell? ⟨w11.heap.size, 0, none⟩ = some (.slice ix0 ix1 ix2) ∧ w'.cell? ⟨w11.heap.size, 1, none⟩ = some (.slice iy0 iy1 iy2) ∧ w'.cell? ⟨w11.heap.size, 2, none⟩ = some (.bool false) ∧ w'.cell? ⟨w13.heap.size, 0, none⟩ = some (.slice jx0 jx1 jx2) ∧ w'.cell? ⟨w13.heap.size, 1, none⟩ = some (.slice jy0 jy1 jy2) ∧ w'.cell? ⟨w13.heap.size, 2, none⟩ = some (.bool false) ∧ w'.cell? ⟨w17.heap.size, 0, none⟩ = some (.slice lx0 lx1 lx2) ∧ w'.cell? ⟨w17.heap.size, 1, none⟩ = some (.slice ly0 ly1 ly2) ∧ w'.cell? ⟨w17.heap.size, 2, none⟩ = some (.bool false) ∧ w'.cell? ⟨w19.heap.size, 0, none⟩ = some (.slice mx0 mx1 mx2) ∧ w'.cell? ⟨w19.heap.size, 1, none⟩ = some (.slice my0 my1 my2) ∧ w'.cell? ⟨w19.heap.size, 2, none⟩ = some (.bool false) ∧ w'.cell? ⟨g21, 0, none⟩ = some (.slice nx0 nx1 nx2) ∧ w'.cell? ⟨g21, 1, none⟩ = some (.slice ny0 ny1 ny2) ∧ w'.cell? ⟨g21, 2, none⟩ = some (.bool false) ∧ w'.cell? ⟨g22, 0, none⟩ = some (.slice ox0 ox1 ox2) ∧ w'.cell? ⟨g22, 1, none⟩ = some (.slice oy0 oy1 oy2) ∧ w'.cell? ⟨g22, 2, none⟩ = some (.bool false) ∧ w'.cell? ⟨w2.heap.size, 0, none⟩ = some (.slice px0 px1 px2) ∧ w'.cell? ⟨w2.heap.size, 1, none⟩ = some (.slice py0 py1 py2) ∧ w'.cell? ⟨w2.heap.size, 2, none⟩ = some (.bool false))) _ := ⟨Hbi9.out.cell 0 (by simp), Hbi9.out.cell 1 (by simp), Hbi9.out.cell 2 (by simp), Hbj8.out.cell 0 (by simp), Hbj8.out.cell 1 (by simp), Hbj8.out.cell 2 (by simp), Hbl8.out.cell 0 (by simp), Hbl8.out.cell 1 (by simp), Hbl8.out.cell 2 (by simp), Hbm8.out.cell 0 (by simp), Hbm8.out.cell 1 (by simp), Hbm8.out.cell 2 (by simp), Hbn8.out.cell 0 (by simp), Hbn8.out.cell 1 (by simp), Hbn8.out.cell 2 (by simp), Hbo8.out.cell 0 (by simp), Hbo8.out.cell 1 (by simp), Hbo8.out.cell 2 (by simp), Hbp12.out.cell 0 (by simp), Hbp12.out.cell 1 (by simp), Hbp12.out.cell 2 (by simp)⟩
            clear hK K
            try simp only [Act.put, List.setIfInBounds_toArray, List.set_cons_zero, List.set_cons_succ]
            refine wpAnyK_take0 25 (v := ?v75) rfl (by kernel_rfl) (fun _ _ _ h => h) (Or.inl ⟨by rfl, ?hy75⟩) (fun _ => hHeld) ?_
            case hy75 => (intro w hSw; go_simp; try with_reducible rfl)
            try simp only [Act.put, List.setIfInBounds_toArray, List.set_cons_zero, List.set_cons_succ]
            refine wpAnyK_take0 26 (v := ?v76) rfl (by kernel_rfl) (fun _ _ _ h => h) (Or.inl ⟨by rfl, ?hy76⟩) (fun _ => hHeld) ?_
            case hy76 => (intro w hSw; go_simp; try with_reducible rfl)
            try simp only [Act.put, List.setIfInBounds_toArray, List.set_cons_zero, List.set_cons_succ]
            refine wpAnyK_done (by kernel_rfl) ?_ _
            have HB11 : Hid (Below w.heap.size w w29) := HB10.out.trans ((btr Hs22.out (btr Hs22z.out (btr Hs23.out (btr Hs24.out (btr Hs25.out (btr Hs26.out (btr Hs27.out (btr Hs28.out Hs29.out)))))))).mono HB10.out.size)
            go_wp2
            go_ret
            exact ⟨rfl, HB11.out⟩
      · skip
        have Hs6zz : Hid (Below w6.heap.size w6 (w6.alloc (.cells #[.slice none 0 0, .slice none 0 0, .bool false] 31))) := alloc_below _ _
        have Hbr0 : Hid (Bl 31 (w6.alloc (.cells #[.slice none 0 0, .slice none 0 0, .bool false] 31)) w6.heap.size [.slice none 0 0, .slice none 0 0, .bool false]) := alloc_bl w6 [.slice none 0 0, .slice none 0 0, .bool false] 31
        have kr_0 : (w6.alloc (.cells #[.slice none 0 0, .slice none 0 0, .bool false] 31)).cell? ⟨w6.heap.size, 0, none⟩ = some (.slice none 0 0) := Hbr0.out.cell 0 (by simp)
        have kr_1 : (w6.alloc (.cells #[.slice none 0 0, .slice none 0 0, .bool false] 31)).cell? ⟨w6.heap.size, 1, none⟩ = some (.slice none 0 0) := Hbr0.out.cell 1 (by simp)
        have kr_2 : (w6.alloc (.cells #[.slice none 0 0, .slice none 0 0, .bool false] 31)).cell? ⟨w6.heap.size, 2, none⟩ = some (.bool false) := Hbr0.out.cell 2 (by simp)
        go_wp2_with fail
        clear kr_0 kr_1 kr_2
        generalize (w6.alloc (.cells #[.slice none 0 0, .slice none 0 0, .bool false] 31)) = wv7 at *
        refine (lone_none _).mono ?_
        rintro e w8 ⟨rfl, hB⟩
        have Hs8z : Hid (Below wv7.heap.size wv7 w8) := hB
        clear hB
        have HB4 : Hid (Below w.heap.size w w8) := HB3.out.trans ((btr Hs6.out (btr Hs6zz.out Hs8z.out)).mono HB3.out.size)
        go_wp2
        go_ret
        exact ⟨rfl, HB4.out⟩
    · skip
      have Hs4zz : Hid (Below w4.heap.size w4 (w4.alloc (.cells #[.slice none 0 0, .slice none 0 0, .bool false] 31))) := alloc_below _ _
      have Hbq0 : Hid (Bl 31 (w4.alloc (.cells #[.slice none 0 0, .slice none 0 0, .bool false] 31)) w4.heap.size [.slice none 0 0, .slice none 0 0, .bool false]) := alloc_bl w4 [.slice none 0 0, .slice none 0 0, .bool false] 31
      go_wp2_with fail
      generalize (w4.alloc (.cells #[.slice none 0 0, .slice none 0 0, .bool false] 31)) = wv5 at *
      have HB3 : Hid (Below w.heap.size w wv5) := HB2.out.trans ((btr Hs4.out Hs4zz.out).mono HB2.out.size)
      have Hrc1 : Hid (Rd wv5 ac l3) := Hrc0.out.below (btr Hs1.out (btr Hs2.out (btr Hs2z.out (btr Hs4.out Hs4zz.out)))) (Nat.le_refl _)
      refine (decode_g ac cc l3 _ (HT.out.1.below HB3.out (Nat.le_refl _)) Hrc1.out).mono ?_
      rintro e w6 ⟨hA, hB⟩
      have Hs6zzz : Hid (Below wv5.heap.size wv5 w6) := hB
      clear hB
      rcases hA with ⟨R, v, oR, _, rfl, hm⟩ | ⟨_, rfl⟩
      · have HR : Hid (onE eP eD R) := oR
        obtain ⟨rx, ry, rfl, hpn⟩ := hm.pn
        obtain ⟨⟨rx0, rx1, rx2, rfl⟩, ⟨ry0, ry1, ry2, rfl⟩⟩ := hpn.sl
        have Hpr0 : Hid (Pn w6 (.slice rx0 rx1 rx2) (.slice ry0 ry1 ry2) R) := hpn
        clear hpn
        clear hm oR
        have Hs6zzzz : Hid (Below w6.heap.size w6 (w6.alloc (.cells #[.slice rx0 rx1 rx2, .slice ry0 ry1 ry2, .bool false] 31))) := alloc_below _ _
        have Hbr0 : Hid (Bl 31 (w6.alloc (.cells #[.slice rx0 rx1 rx2, .slice ry0 ry1 ry2, .bool false] 31)) w6.heap.size [.slice rx0 rx1 rx2, .slice ry0 ry1 ry2, .bool false]) := alloc_bl w6 [.slice rx0 rx1 rx2, .slice ry0 ry1 ry2, .bool false] 31
        have Hbq1 : Hid (Bl 31 (w6.alloc (.cells #[.slice rx0 rx1 rx2, .slice ry0 ry1 ry2, .bool false] 31)) w4.heap.size [.slice none 0 0, .slice none 0 0, .bool false]) := Hbq0.out.below (btr Hs6zzz.out Hs6zzzz.out) Hbq0.out.lt
        have kq_0 : (w6.alloc (.cells #[.slice rx0 rx1 rx2, .slice ry0 ry1 ry2, .bool false] 31)).cell? ⟨w4.heap.size, 0, none⟩ = some (.slice none 0 0) := Hbq1.out.cell 0 (by simp)
        have kq_1 : (w6.alloc (.cells #[.slice rx0 rx1 rx2, .slice ry0 ry1 ry2, .bool false] 31)).cell? ⟨w4.heap.size, 1, none⟩ = some (.slice none 0 0) := Hbq1.out.cell 1 (by simp)
        have kq_2 : (w6.alloc (.cells #[.slice rx0 rx1 rx2, .slice ry0 ry1 ry2, .bool false] 31)).cell? ⟨w4.heap.size, 2, none⟩ = some (.bool false) := Hbq1.out.cell 2 (by simp)
        go_wp2_with fail
        clear kq_0 kq_1 kq_2
        generalize (w6.alloc (.cells #[.slice rx0 rx1 rx2, .slice ry0 ry1 ry2, .bool false] 31)) = wv7 at *
        refine (lone_none _).mono ?_
        rintro e w8 ⟨rfl, hB⟩
        have Hs8zz : Hid (Below wv7.heap.size wv7 w8) := hB
        clear hB
        have HB4 : Hid (Below w.heap.size w w8) := HB3.out.trans ((btr Hs6zzz.out (btr Hs6zzzz.out Hs8zz.out)).mono HB3.out.size)
        go_wp2
        go_ret
        exact ⟨rfl, HB4.out⟩
      · skip
        have Hs6zzzzz : Hid (Below w6.heap.size w6 (w6.alloc (.cells #[.slice none 0 0, .slice none 0 0, .bool false] 31))) := alloc_below _ _
        have Hbr0 : Hid (Bl 31 (w6.alloc (.cells #[.slice none 0 0, .slice none 0 0, .bool false] 31)) w6.heap.size [.slice none 0 0, .slice none 0 0, .bool false]) := alloc_bl w6 [.slice none 0 0, .slice none 0 0, .bool false] 31
        have Hbq1 : Hid (Bl 31 (w6.alloc (.cells #[.slice none 0 0, .slice none 0 0, .bool false] 31)) w4.heap.size [.slice none 0 0, .slice none 0 0, .bool false]) := Hbq0.out.below (btr Hs6zzz.out Hs6zzzzz.out) Hbq0.out.lt
        have kq_0 : (w6.alloc (.cells #[.slice none 0 0, .slice none 0 0, .bool false] 31)).cell? ⟨w4.heap.size, 0, none⟩ = some (.slice none 0 0) := Hbq1.out.cell 0 (by simp)
        have kq_1 : (w6.alloc (.cells #[.slice none 0 0, .slice none 0 0, .bool false] 31)).cell? ⟨w4.heap.size, 1, none⟩ = some (.slice none 0 0) := Hbq1.out.cell 1 (by simp)
        have kq_2 : (w6.alloc (.cells #[.slice none 0 0, .slice none 0 0, .bool false] 31)).cell? ⟨w4.heap.size, 2, none⟩ = some (.bool false) := Hbq1.out.cell 2 (by simp)
        go_wp2_with fail
        clear kq_0 kq_1 kq_2
        generalize (w6.alloc (.cells #[.slice none 0 0, .slice none 0 0, .bool false] 31)) = wv7 at *
        refine (lone_none _).mono ?_
        rintro e w8 ⟨rfl, hB⟩
        have Hs8zzz : Hid (Below wv7.heap.size wv7 w8) := hB
        clear hB
        have Hbr1 : Hid (Bl 31 w8 w6.heap.size [.slice none 0 0, .slice none 0 0, .bool false]) := Hbr0.out.below Hs8zzz.out Hbr0.out.lt
        have kr_0 : w8.cell? ⟨w6.heap.size, 0, none⟩ = some (.slice none 0 0) := Hbr1.out.cell 0 (by simp)
        have kr_1 : w8.cell? ⟨w6.heap.size, 1, none⟩ = some (.slice none 0 0) := Hbr1.out.cell 1 (by simp)
        have kr_2 : w8.cell? ⟨w6.heap.size, 2, none⟩ = some (.bool false) := Hbr1.out.cell 2 (by simp)
        go_wp2_with fail
        clear kr_0 kr_1 kr_2
        refine (lone_none _).mono ?_
        rintro e w9 ⟨rfl, hB⟩
        have Hs9z : Hid (Below w8.heap.size w8 w9) := hB
        clear hB
        have HB4 : Hid (Below w.heap.size w w9) := HB3.out.trans ((btr Hs6zzz.out (btr Hs6zzzzz.out (btr Hs8zzz.out Hs9z.out))).mono HB3.out.size)
        go_wp2
        go_ret
        exact ⟨rfl, HB4.out⟩
  · skip
    have Hs2zz : Hid (Below w2.heap.size w2 (w2.alloc (.cells #[.slice none 0 0, .slice none 0 0, .bool false] 31))) := alloc_below _ _
    have Hbp0 : Hid (Bl 31 (w2.alloc (.cells #[.slice none 0 0, .slice none 0 0, .bool false] 31)) w2.heap.size [.slice none 0 0, .slice none 0 0, .bool false]) := alloc_bl w2 [.slice none 0 0, .slice none 0 0, .bool false] 31
    go_wp2_with fail
    generalize (w2.alloc (.cells #[.slice none 0 0, .slice none 0 0, .bool false] 31)) = wv3 at *
    have HB2 : Hid (Below w.heap.size w wv3) := HB1.out.trans ((btr Hs2.out Hs2zz.out).mono HB1.out.size)
    have Hrb1 : Hid (Rd wv3 ab l2) := Hrb0.out.below (btr Hs1.out (btr Hs2.out Hs2zz.out)) (Nat.le_refl _)
    refine (decode_g ab cb l2 _ (HT.out.1.below HB2.out (Nat.le_refl _)) Hrb1.out).mono ?_
    rintro e w4 ⟨hA, hB⟩
    have Hs4zzz : Hid (Below wv3.heap.size wv3 w4) := hB
    clear hB
    rcases hA with ⟨Q, v, oQ, _, rfl, hm⟩ | ⟨_, rfl⟩
    · have HQ : Hid (onE eP eD Q) := oQ
      obtain ⟨qx, qy, rfl, hpn⟩ := hm.pn
      obtain ⟨⟨qx0, qx1, qx2, rfl⟩, ⟨qy0, qy1, qy2, rfl⟩⟩ := hpn.sl
      have Hpq0 : Hid (Pn w4 (.slice qx0 qx1 qx2) (.slice qy0 qy1 qy2) Q) := hpn
      clear hpn
      clear hm oQ
      have Hs4zzzz : Hid (Below w4.heap.size w4 (w4.alloc (.cells #[.slice qx0 qx1 qx2, .slice qy0 qy1 qy2, .bool false] 31))) := alloc_below _ _
      have Hbq0 : Hid (Bl 31 (w4.alloc (.cells #[.slice qx0 qx1 qx2, .slice qy0 qy1 qy2, .bool false] 31)) w4.heap.size [.slice qx0 qx1 qx2, .slice qy0 qy1 qy2, .bool false]) := alloc_bl w4 [.slice qx0 qx1 qx2, .slice qy0 qy1 qy2, .bool false] 31
      go_wp2_with fail
      generalize (w4.alloc (.cells #[.slice qx0 qx1 qx2, .slice qy0 qy1 qy2, .bool false] 31)) = wv5 at *
      have HB3 : Hid (Below w.heap.size w wv5) := HB2.out.trans ((btr Hs4zzz.out Hs4zzzz.out).mono HB2.out.size)
      have Hrc1 : Hid (Rd wv5 ac l3) := Hrc0.out.below (btr Hs1.out (btr Hs2.out (btr Hs2zz.out (btr Hs4zzz.out Hs4zzzz.out)))) (Nat.le_refl _)
      refine (decode_g ac cc l3 _ (HT.out.1.below HB3.out (Nat.le_refl _)) Hrc1.out).mono ?_
      rintro e w6 ⟨hA, hB⟩
      have Hs6zzzzzz : Hid (Below wv5.heap.size wv5 w6) := hB
      clear hB
      rcases hA with ⟨R, v, oR, _, rfl, hm⟩ | ⟨_, rfl⟩
      · have HR : Hid (onE eP eD R) := oR
        obtain ⟨rx, ry, rfl, hpn⟩ := hm.pn
        obtain ⟨⟨rx0, rx1, rx2, rfl⟩, ⟨ry0, ry1, ry2, rfl⟩⟩ := hpn.sl
        have Hpr0 : Hid (Pn w6 (.slice rx0 rx1 rx2) (.slice ry0 ry1 ry2) R) := hpn
        clear hpn
        clear hm oR
        have Hs6zzzzzzz : Hid (Below w6.heap.size w6 (w6.alloc (.cells #[.slice rx0 rx1 rx2, .slice ry0 ry1 ry2, .bool false] 31))) := alloc_below _ _
        have Hbr0 : Hid (Bl 31 (w6.alloc (.cells #[.slice rx0 rx1 rx2, .slice ry0 ry1 ry2, .bool false] 31)) w6.heap.size [.slice rx0 rx1 rx2, .slice ry0 ry1 ry2, .bool false]) := alloc_bl w6 [.slice rx0 rx1 rx2, .slice ry0 ry1 ry2, .bool false] 31
        have Hbp1 : Hid (Bl 31 (w6.alloc (.cells #[.slice rx0 rx1 rx2, .slice ry0 ry1 ry2, .bool false] 31)) w2.heap.size [.slice none 0 0, .slice none 0 0, .bool false]) := Hbp0.out.below (btr Hs4zzz.out (btr Hs4zzzz.out (btr Hs6zzzzzz.out Hs6zzzzzzz.out))) Hbp0.out.lt
        have kp_0 : (w6.alloc (.cells #[.slice rx0 rx1 rx2, .slice ry0 ry1 ry2, .bool false] 31)).cell? ⟨w2.heap.size, 0, none⟩ = some (.slice none 0 0) := Hbp1.out.cell 0 (by simp)
        have kp_1 : (w6.alloc (.cells #[.slice rx0 rx1 rx2, .slice ry0 ry1 ry2, .bool false] 31)).cell? ⟨w2.heap.size, 1, none⟩ = some (.slice none 0 0) := Hbp1.out.cell 1 (by simp)
        have kp_2 : (w6.alloc (.cells #[.slice rx0 rx1 rx2, .slice ry0 ry1 ry2, .bool false] 31)).cell? ⟨w2.heap.size, 2, none⟩ = some (.bool false) := Hbp1.out.cell 2 (by simp)
        go_wp2_with fail
        clear kp_0 kp_1 kp_2
        generalize (w6.alloc (.cells #[.slice rx0 rx1 rx2, .slice ry0 ry1 ry2, .bool false] 31)) = wv7 at *
        refine (lone_none _).mono ?_
        rintro e w8 ⟨rfl, hB⟩
        have Hs8zzzz : Hid (Below wv7.heap.size wv7 w8) := hB
        clear hB
        have HB4 : Hid (Below w.heap.size w w8) := HB3.out.trans ((btr Hs6zzzzzz.out (btr Hs6zzzzzzz.out Hs8zzzz.out)).mono HB3.out.size)
        go_wp2
        go_ret
        exact ⟨rfl, HB4.out⟩
      · skip
        have Hs6zzzzzzzz : Hid (Below w6.heap.size w6 (w6.alloc (.cells #[.slice none 0 0, .slice none 0 0, .bool false] 31))) := alloc_below _ _
        have Hbr0 : Hid (Bl 31 (w6.alloc (.cells #[.slice none 0 0, .slice none 0 0, .bool false] 31)) w6.heap.size [.slice none 0 0, .slice none 0 0, .bool false]) := alloc_bl w6 [.slice none 0 0, .slice none 0 0, .bool false] 31
        have Hbp1 : Hid (Bl 31 (w6.alloc (.cells #[.slice none 0 0, .slice none 0 0, .bool false] 31)) w2.heap.size [.slice none 0 0, .slice none 0 0, .bool false]) := Hbp0.out.below (btr Hs4zzz.out (btr Hs4zzzz.out (btr Hs6zzzzzz.out Hs6zzzzzzzz.out))) Hbp0.out.lt
        have kp_0 : (w6.alloc (.cells #[.slice none 0 0, .slice none 0 0, .bool false] 31)).cell? ⟨w2.heap.size, 0, none⟩ = some (.slice none 0 0) := Hbp1.out.cell 0 (by simp)
        have kp_1 : (w6.alloc (.cells #[.slice none 0 0, .slice none 0 0, .bool false] 31)).cell? ⟨w2.heap.size, 1, none⟩ = some (.slice none 0 0) := Hbp1.out.cell 1 (by simp)
        have kp_2 : (w6.alloc (.cells #[.slice none 0 0, .slice none 0 0, .bool false] 31)).cell? ⟨w2.heap.size, 2, none⟩ = some (.bool false) := Hbp1.out.cell 2 (by simp)
        go_wp2_with fail
        clear kp_0 kp_1 kp_2
        generalize (w6.alloc (.cells #[.slice none 0 0, .slice none 0 0, .bool false] 31)) = wv7 at *
        refine (lone_none _).mono ?_
        rintro e w8 ⟨rfl, hB⟩
        have Hs8zzzzz : Hid (Below wv7.heap.size wv7 w8) := hB
        clear hB
        have Hbr1 : Hid (Bl 31 w8 w6.heap.size [.slice none 0 0, .slice none 0 0, .bool false]) := Hbr0.out.below Hs8zzzzz.out Hbr0.out.lt
        have kr_0 : w8.cell? ⟨w6.heap.size, 0, none⟩ = some (.slice none 0 0) := Hbr1.out.cell 0 (by simp)
        have kr_1 : w8.cell? ⟨w6.heap.size, 1, none⟩ = some (.slice none 0 0) := Hbr1.out.cell 1 (by simp)
        have kr_2 : w8.cell? ⟨w6.heap.size, 2, none⟩ = some (.bool false) := Hbr1.out.cell 2 (by simp)
        go_wp2_with fail
        clear kr_0 kr_1 kr_2
        refine (lone_none _).mono ?_
        rintro e w9 ⟨rfl, hB⟩
        have Hs9zz : Hid (Below w8.heap.size w8 w9) := hB
        clear hB
        have HB4 : Hid (Below w.heap.size w w9) := HB3.out.trans ((btr Hs6zzzzzz.out (btr Hs6zzzzzzzz.out (btr Hs8zzzzz.out Hs9zz.out))).mono HB3.out.size)
        go_wp2
        go_ret
        exact ⟨rfl, HB4.out⟩
    · skip
      have Hs4zzzzz : Hid (Below w4.heap.size w4 (w4.alloc (.cells #[.slice none 0 0, .slice none 0 0, .bool false] 31))) := alloc_below _ _
      have Hbq0 : Hid (Bl 31 (w4.alloc (.cells #[.slice none 0 0, .slice none 0 0, .bool false] 31)) w4.heap.size [.slice none 0 0, .slice none 0 0, .bool false]) := alloc_bl w4 [.slice none 0 0, .slice none 0 0, .bool false] 31
      go_wp2_with fail
      generalize (w4.alloc (.cells #[.slice none 0 0, .slice none 0 0, .bool false] 31)) = wv5 at *
      have HB3 : Hid (Below w.heap.size w wv5) := HB2.out.trans ((btr Hs4zzz.out Hs4zzzzz.out).mono HB2.out.size)
      have Hrc1 : Hid (Rd wv5 ac l3) := Hrc0.out.below (btr Hs1.out (btr Hs2.out (btr Hs2zz.out (btr Hs4zzz.out Hs4zzzzz.out)))) (Nat.le_refl _)
      refine (decode_g ac cc l3 _ (HT.out.1.below HB3.out (Nat.le_refl _)) Hrc1.out).mono ?_
      rintro e w6 ⟨hA, hB⟩
      have Hs6zzzzzzzzz : Hid (Below wv5.heap.size wv5 w6) := hB
      clear hB
      rcases hA with ⟨R, v, oR, _, rfl, hm⟩ | ⟨_, rfl⟩
      · have HR : Hid (onE eP eD R) := oR
        obtain ⟨rx, ry, rfl, hpn⟩ := hm.pn
        obtain ⟨⟨rx0, rx1, rx2, rfl⟩, ⟨ry0, ry1, ry2, rfl⟩⟩ := hpn.sl
        have Hpr0 : Hid (Pn w6 (.slice rx0 rx1 rx2) (.slice ry0 ry1 ry2) R) := hpn
        clear hpn
        clear hm oR
        have Hs6zzzzzzzzzz : Hid (Below w6.heap.size w6 (w6.alloc (.cells #[.slice rx0 rx1 rx2, .slice ry0 ry1 ry2, .bool false] 31))) := alloc_below _ _
        have Hbr0 : Hid (Bl 31 (w6.alloc (.cells #[.slice rx0 rx1 rx2, .slice ry0 ry1 ry2, .bool false] 31)) w6.heap.size [.slice rx0 rx1 rx2, .slice ry0 ry1 ry2, .bool false]) := alloc_bl w6 [.slice rx0 rx1 rx2, .slice ry0 ry1 ry2, .bool false] 31
        have Hbp1 : Hid (Bl 31 (w6.alloc (.cells #[.slice rx0 rx1 rx2, .slice ry0 ry1 ry2, .bool false] 31)) w2.heap.size [.slice none 0 0, .slice none 0 0, .bool false]) := Hbp0.out.below (btr Hs4zzz.out (btr Hs4zzzzz.out (btr Hs6zzzzzzzzz.out Hs6zzzzzzzzzz.out))) Hbp0.out.lt
        have kp_0 : (w6.alloc (.cells #[.slice rx0 rx1 rx2, .slice ry0 ry1 ry2, .bool false] 31)).cell? ⟨w2.heap.size, 0, none⟩ = some (.slice none 0 0) := Hbp1.out.cell 0 (by simp)
        have kp_1 : (w6.alloc (.cells #[.slice rx0 rx1 rx2, .slice ry0 ry1 ry2, .bool false] 31)).cell? ⟨w2.heap.size, 1, none⟩ = some (.slice none 0 0) := Hbp1.out.cell 1 (by simp)
        have kp_2 : (w6.alloc (.cells #[.slice rx0 rx1 rx2, .slice ry0 ry1 ry2, .bool false] 31)).cell? ⟨w2.heap.size, 2, none⟩ = some (.bool false) := Hbp1.out.cell 2 (by simp)
        go_wp2_with fail
        clear kp_0 kp_1 kp_2
        generalize (w6.alloc (.cells #[.slice rx0 rx1 rx2, .slice ry0 ry1 ry2, .bool false] 31)) = wv7 at *
        refine (lone_none _).mono ?_
        rintro e w8 ⟨rfl, hB⟩
        have Hs8zzzzzz : Hid (Below wv7.heap.size wv7 w8) := hB
        clear hB
        have Hbq1 : Hid (Bl 31 w8 w4.heap.size [.slice none 0 0, .slice none 0 0, .bool false]) := Hbq0.out.below (btr Hs6zzzzzzzzz.out (btr Hs6zzzzzzzzzz.out Hs8zzzzzz.out)) Hbq0.out.lt
        have kq_0 : w8.cell? ⟨w4.heap.size, 0, none⟩ = some (.slice none 0 0) := Hbq1.out.cell 0 (by simp)
        have kq_1 : w8.cell? ⟨w4.heap.size, 1, none⟩ = some (.slice none 0 0) := Hbq1.out.cell 1 (by simp)
        have kq_2 : w8.cell? ⟨w4.heap.size, 2, none⟩ = some (.bool false) := Hbq1.out.cell 2 (by simp)
        go_wp2_with fail
        clear kq_0 kq_1 kq_2
        refine (lone_none _).mono ?_
        rintro e w9 ⟨rfl, hB⟩
        have Hs9zzz : Hid (Below w8.heap.size w8 w9) := hB
        clear hB
        have HB4 : Hid (Below w.heap.size w w9) := HB3.out.trans ((btr Hs6zzzzzzzzz.out (btr Hs6zzzzzzzzzz.out (btr Hs8zzzzzz.out Hs9zzz.out))).mono HB3.out.size)
        go_wp2
        go_ret
        exact ⟨rfl, HB4.out⟩
      · skip
        have Hs6zzzzzzzzzzz : Hid (Below w6.heap.size w6 (w6.alloc (.cells #[.slice none 0 0, .slice none 0 0, .bool false] 31))) := alloc_below _ _
        have Hbr0 : Hid (Bl 31 (w6.alloc (.cells #[.slice none 0 0, .slice none 0 0, .bool false] 31)) w6.heap.size [.slice none 0 0, .slice none 0 0, .bool false]) := alloc_bl w6 [.slice none 0 0, .slice none 0 0, .bool false] 31
        have Hbp1 : Hid (Bl 31 (w6.alloc (.cells #[.slice none 0 0, .slice none 0 0, .bool false] 31)) w2.heap.size [.slice none 0 0, .slice none 0 0, .bool false]) := Hbp0.out.below (btr Hs4zzz.out (btr Hs4zzzzz.out (btr Hs6zzzzzzzzz.out Hs6zzzzzzzzzzz.out))) Hbp0.out.lt
        have kp_0 : (w6.alloc (.cells #[.slice none 0 0, .slice none 0 0, .bool false] 31)).cell? ⟨w2.heap.size, 0, none⟩ = some (.slice none 0 0) := Hbp1.out.cell 0 (by simp)
        have kp_1 : (w6.alloc (.cells #[.slice none 0 0, .slice none 0 0, .bool false] 31)).cell? ⟨w2.heap.size, 1, none⟩ = some (.slice none 0 0) := Hbp1.out.cell 1 (by simp)
        have kp_2 : (w6.alloc (.cells #[.slice none 0 0, .slice none 0 0, .bool false] 31)).cell? ⟨w2.heap.size, 2, none⟩ = some (.bool false) := Hbp1.out.cell 2 (by simp)
        go_wp2_with fail
        clear kp_0 kp_1 kp_2
        generalize (w6.alloc (.cells #[.slice none 0 0, .slice none 0 0, .bool false] 31)) = wv7 at *
        refine (lone_none _).mono ?_
        rintro e w8 ⟨rfl, hB⟩
        have Hs8zzzzzzz : Hid (Below wv7.heap.size wv7 w8) := hB
        clear hB
        have Hbq1 : Hid (Bl 31 w8 w4.heap.size [.slice none 0 0, .slice none 0 0, .bool false]) := Hbq0.out.below (btr Hs6zzzzzzzzz.out (btr Hs6zzzzzzzzzzz.out Hs8zzzzzzz.out)) Hbq0.out.lt
        have kq_0 : w8.cell? ⟨w4.heap.size, 0, none⟩ = some (.slice none 0 0) := Hbq1.out.cell 0 (by simp)
        have kq_1 : w8.cell? ⟨w4.heap.size, 1, none⟩ = some (.slice none 0 0) := Hbq1.out.cell 1 (by simp)
        have kq_2 : w8.cell? ⟨w4.heap.size, 2, none⟩ = some (.bool false) := Hbq1.out.cell 2 (by simp)
        go_wp2_with fail
        clear kq_0 kq_1 kq_2
        refine (lone_none _).mono ?_
        rintro e w9 ⟨rfl, hB⟩
        have Hs9zzzz : Hid (Below w8.heap.size w8 w9) := hB
        clear hB
        have Hbr1 : Hid (Bl 31 w9 w6.heap.size [.slice none 0 0, .slice none 0 0, .bool false]) := Hbr0.out.below (btr Hs8zzzzzzz.out Hs9zzzz.out) Hbr0.out.lt
        have kr_0 : w9.cell? ⟨w6.heap.size, 0, none⟩ = some (.slice none 0 0) := Hbr1.out.cell 0 (by simp)
        have kr_1 : w9.cell? ⟨w6.heap.size, 1, none⟩ = some (.slice none 0 0) := Hbr1.out.cell 1 (by simp)
        have kr_2 : w9.cell? ⟨w6.heap.size, 2, none⟩ = some (.bool false) := Hbr1.out.cell 2 (by simp)
        go_wp2_with fail
        clear kr_0 kr_1 kr_2
        refine (lone_none _).mono ?_
        rintro e w10 ⟨rfl, hB⟩
        have Hs10z : Hid (Below w9.heap.size w9 w10) := hB
        clear hB
        have HB4 : Hid (Below w.heap.size w w10) := HB3.out.trans ((btr Hs6zzzzzzzzz.out (btr Hs6zzzzzzzzzzz.out (btr Hs8zzzzzzz.out (btr Hs9zzzz.out Hs10z.out)))).mono HB3.out.size)
        go_wp2
        go_ret
        exact ⟨rfl, HB4.out⟩
end Go.Proofs.YtjpjepfmphlneaaGreatDoor
