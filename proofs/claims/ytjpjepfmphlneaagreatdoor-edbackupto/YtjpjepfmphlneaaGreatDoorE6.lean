import Derived.Test.YtjpjepfmphlneaaGreatDoorDTr
import Derived.Test.YtjpjepfmphlneaaGreatDoorGD
namespace Go.Proofs.YtjpjepfmphlneaaGreatDoor
open Go.RowKit

set_option maxRecDepth 100000

theorem btr {a b c : World} (h : Below a.heap.size a b) (g : Below b.heap.size b c) : Below a.heap.size a c := h.trans (g.mono h.size)
theorem decode_g (ao : Option Addr) (c : Nat) (l : List UInt8) (w : World) (T : Te w) (hr : Rd w ao l) :
    Calls Tryz.prog 14 #[.slice ao l.length c] w fun e w' => ((∃ P v, onE eP eD P ∧ encL P = l ∧ e = .returned (.tuple #[v, .int .i64 0]) ∧ Pe w' w.heap.size v P) ∨ ((∀ P, onE eP eD P → encL P ≠ l) ∧ e = .returned (.tuple #[.agg #[.slice none 0 0, .slice none 0 0, .bool false], .int .i64 93]))) ∧ Below w.heap.size w w' := decode_v ao c l w T hr
theorem Pe.pn' {w : World} {b : Nat} {x y : Value} {P : Nat × Nat} (h : Pe w b (.agg #[x, y, .bool false]) P) : Pn w x y P := by
  obtain ⟨u, v, e, hp⟩ := h.pn
  obtain ⟨rfl, rfl⟩ : x = u ∧ y = v := by simpa using e
  exact hp
theorem nm_none (w : World) : Nm w (.slice none 0 0) [] := ⟨none, 0, rfl, Nat.le_refl _, Rn.nil _ _, fun y hy => by cases hy⟩
theorem lone_none (w : World) : Calls Tryz.prog 15 #[.agg #[.slice none 0 0, .slice none 0 0, .bool false], .agg #[.slice none 0 0, .slice none 0 0, .bool false]] w fun e w' => e = .returned (.bool true) ∧ Below w.heap.size w w' := by
  have C := lone_v _ _ _ _ [] [] [] [] false false w (nm_none w) (nm_none w) (nm_none w) (nm_none w) (by decide) (by decide)
  exact C
/-- A slice over a row of one's own, by its parts. -/
theorem owb_open {w : World} {base : Nat} {v : Value} {l : List UInt8} (h : Owb w base v l) : ∃ ao cap, v = .slice ao l.length cap ∧ (l.length ≤ cap ∧ cap ≤ 9223372036854775807) ∧ (ao = none → l.length = 0 ∧ cap = 0) ∧ Rd w ao l := by
  obtain ⟨ao, cap, e, h1, h2, h3, h4, h5, _⟩ := own_rdE h
  exact ⟨ao, cap, e, ⟨h2, h3⟩, h4, h5⟩
theorem encode_p {w : World} {x y : Value} {P : Nat × Nat} (T : Te w) (h : Pn w x y P) (oP : onE eP eD P) : Calls Tryz.prog 25 #[.agg #[x, y, .bool false]] w fun e w' => (∃ v, e = .returned (.tuple #[v, .int .i64 0]) ∧ Owb w' w.heap.size v (encL P)) ∧ Below w.heap.size w w' :=
  encode_v x y P.1 P.2 false w T h.nx h.ny ((onV_iff _ _ _).2 ⟨rfl, oP⟩)
theorem vnu {w : World} {v : Value} {A : Nat} (h : Vl w v A 1048576) : Nu w v A := h.le (by decide)
theorem onF {X Y : Nat} {inf : Bool} (h : ¬ onV X Y inf = true) : onV X Y inf = false := by simpa using h
theorem ltrim_s {v : Value} {V : Nat} {w : World} (h : Vl w v V 1048576) : Calls Tryz.prog 26 #[v] w fun e w' => ∃ r0 r1 r2, e = .returned (.slice r0 r1 r2) ∧ Nm w' (.slice r0 r1 r2) (dg Bs V) ∧ Below w.heap.size w w' := by
  refine (ltrim_v h).mono ?_
  rintro e w' ⟨r, rfl, h, hB⟩
  obtain ⟨a, c, rfl, _⟩ := id h
  exact ⟨_, _, _, rfl, h, hB⟩
set_option maxHeartbeats 40000000 in
theorem edBack_core (ab : Option Addr) (cb : Nat) (l1 : List UInt8) (x y : Value) (inf : Bool) (X Y : Nat) (w : World) (T : Te w) (TS : Sha.Tb w) (hrb : Rd w ab l1) (hcb : l1.length ≤ 9223372036854775807) (hx : Vl w x X 1048576) (hy : Vl w y Y 1048576) :
    Calls Tryz.prog 6 #[.slice ab l1.length cb, .agg #[x, y, .bool inf]] w fun e w' => e = .returned (.bool true) ∧ Below w.heap.size w w' := by
  obtain ⟨ax0, ax1, ax2, rfl⟩ := (vnu hx).shape
  obtain ⟨ay0, ay1, ay2, rfl⟩ := (vnu hy).shape
  have HT : Hid (Te w ∧ Sha.Tb w) := ⟨T, TS⟩
  clear T TS
  have HB0 : Hid (Below w.heap.size w w) := Below.refl _ _
  have Hrb0 : Hid (Rd w ab l1) := hrb
  have Hvx0 : Hid (Vl w (.slice ax0 ax1 ax2) X 1048576) := hx
  have Hvy0 : Hid (Vl w (.slice ay0 ay1 ay2) Y 1048576) := hy
  have Hcb : Hid (l1.length ≤ 9223372036854775807) := hcb
  have Hlx : Hid ((dg Bs X).length ≤ 3000000 ∧ (dg Bs Y).length ≤ 3000000) := ⟨Nat.le_trans hx.len (by decide), Nat.le_trans hy.len (by decide)⟩
  clear hrb hcb hx hy
  go_enter Tryz.func6, Tryz.ntmps6
  have Hs0 : Hid (Below w.heap.size w (w.alloc (.cells #[.slice ax0 ax1 ax2, .slice ay0 ay1 ay2, .bool inf] 31))) := alloc_below _ _
  have Hba0 : Hid (Bl 31 (w.alloc (.cells #[.slice ax0 ax1 ax2, .slice ay0 ay1 ay2, .bool inf] 31)) w.heap.size [.slice ax0 ax1 ax2, .slice ay0 ay1 ay2, .bool inf]) := alloc_bl w [.slice ax0 ax1 ax2, .slice ay0 ay1 ay2, .bool inf] 31
  go_wp2_with fail
  generalize (w.alloc (.cells #[.slice ax0 ax1 ax2, .slice ay0 ay1 ay2, .bool inf] 31)) = wv1 at *
  have HB1 : Hid (Below w.heap.size w wv1) := HB0.out.trans (Hs0.out.mono HB0.out.size)
  refine (awake13_v _ (HT.out.1.below HB1.out (Nat.le_refl _)) (HT.out.2.below HB1.out)).mono ?_
  rintro e w2 ⟨rfl, hB⟩
  have Hs2 : Hid (Below wv1.heap.size wv1 w2) := hB
  clear hB
  go_wp2_with fail
  have HB2 : Hid (Below w.heap.size w w2) := HB1.out.trans (Hs2.out.mono HB1.out.size)
  have Hrb1 : Hid (Rd w2 ab l1) := Hrb0.out.below (btr Hs0.out Hs2.out) (Nat.le_refl _)
  refine (decode_g ab cb l1 _ (HT.out.1.below HB2.out (Nat.le_refl _)) Hrb1.out).mono ?_
  rintro e w3 ⟨hA, hB⟩
  have Hs3 : Hid (Below w2.heap.size w2 w3) := hB
  clear hB
  have HB3 : Hid (Below w.heap.size w w3) := HB2.out.trans (Hs3.out.mono HB2.out.size)
  have Hvx1 : Hid (Vl w3 (.slice ax0 ax1 ax2) X 1048576) := Hvx0.out.below (btr Hs0.out (btr Hs2.out Hs3.out)) (Nat.le_refl _)
  have Hvy1 : Hid (Vl w3 (.slice ay0 ay1 ay2) Y 1048576) := Hvy0.out.below (btr Hs0.out (btr Hs2.out Hs3.out)) (Nat.le_refl _)
  have Hba1 : Hid (Bl 31 w3 w.heap.size [.slice ax0 ax1 ax2, .slice ay0 ay1 ay2, .bool inf]) := Hba0.out.below (btr Hs2.out Hs3.out) Hba0.out.lt
  rcases hA with ⟨P, v, oP, eP', rfl, hm⟩ | ⟨_, rfl⟩
  · have HP : Hid (onE eP eD P ∧ encL P = l1) := ⟨oP, eP'⟩
    obtain ⟨qx, qy, rfl, hpn⟩ := hm.pn
    obtain ⟨⟨qx0, qx1, qx2, rfl⟩, ⟨qy0, qy1, qy2, rfl⟩⟩ := hpn.sl
    have Hpq0 : Hid (Pn w3 (.slice qx0 qx1 qx2) (.slice qy0 qy1 qy2) P) := hpn
    clear hpn
    clear hm oP eP'
    have Hs3z : Hid (Below w3.heap.size w3 (w3.alloc (.cells #[.slice qx0 qx1 qx2, .slice qy0 qy1 qy2, .bool false] 31))) := alloc_below _ _
    have Hbq0 : Hid (Bl 31 (w3.alloc (.cells #[.slice qx0 qx1 qx2, .slice qy0 qy1 qy2, .bool false] 31)) w3.heap.size [.slice qx0 qx1 qx2, .slice qy0 qy1 qy2, .bool false]) := alloc_bl w3 [.slice qx0 qx1 qx2, .slice qy0 qy1 qy2, .bool false] 31
    have kq_0 : (w3.alloc (.cells #[.slice qx0 qx1 qx2, .slice qy0 qy1 qy2, .bool false] 31)).cell? ⟨w3.heap.size, 0, none⟩ = some (.slice qx0 qx1 qx2) := Hbq0.out.cell 0 (by simp)
    have kq_1 : (w3.alloc (.cells #[.slice qx0 qx1 qx2, .slice qy0 qy1 qy2, .bool false] 31)).cell? ⟨w3.heap.size, 1, none⟩ = some (.slice qy0 qy1 qy2) := Hbq0.out.cell 1 (by simp)
    have kq_2 : (w3.alloc (.cells #[.slice qx0 qx1 qx2, .slice qy0 qy1 qy2, .bool false] 31)).cell? ⟨w3.heap.size, 2, none⟩ = some (.bool false) := Hbq0.out.cell 2 (by simp)
    go_wp2_with fail
    clear kq_0 kq_1 kq_2
    generalize (w3.alloc (.cells #[.slice qx0 qx1 qx2, .slice qy0 qy1 qy2, .bool false] 31)) = wv4 at *
    have HB4 : Hid (Below w.heap.size w wv4) := HB3.out.trans (Hs3z.out.mono HB3.out.size)
    have Hpq1 : Hid (Pn wv4 (.slice qx0 qx1 qx2) (.slice qy0 qy1 qy2) P) := Hpq0.out.below Hs3z.out (Nat.le_refl _)
    refine (encode_p (HT.out.1.below HB4.out (Nat.le_refl _)) Hpq1.out HP.out.1).mono ?_
    rintro e w5 ⟨⟨v, rfl, hO⟩, hB⟩
    have Hs5 : Hid (Below wv4.heap.size wv4 w5) := hB
    obtain ⟨lc, Hlc⟩ : ∃ l, Hid (l = encL P) := ⟨_, rfl⟩
    rw [← Hlc.out] at hO
    obtain ⟨ac, cc, rfl, hc, _, hr⟩ := owb_open hO
    have Hcc : Hid (lc.length ≤ 9223372036854775807) := Nat.le_trans hc.1 hc.2
    have Hrc0 : Hid (Rd w5 ac lc) := hr
    clear hB hO hc hr
    have Hrb2 : Hid (Rd w5 ab l1) := Hrb1.out.below (btr Hs3.out (btr Hs3z.out Hs5.out)) (Nat.le_refl _)
    have C := sameBytes_any ac ab cc cb lc l1 _ Hrc0.out Hrb2.out Hcc.out Hcb.out
    rw [decide_eq_true (Hlc.out.trans HP.out.2)] at C
    go_wp2_with fail
    refine C.mono ?_
    clear C
    rintro e w6 ⟨rfl, q, hq⟩
    have hB : Below w5.heap.size w5 w6 := by rw [hq]; exact below_drewN (Below.refl _ _) q
    have Hs6 : Hid (Below w5.heap.size w5 w6) := hB
    clear hB hq
    have Hbq1 : Hid (Bl 31 w6 w3.heap.size [.slice qx0 qx1 qx2, .slice qy0 qy1 qy2, .bool false]) := Hbq0.out.below (btr Hs5.out Hs6.out) Hbq0.out.lt
    have kq_0 : w6.cell? ⟨w3.heap.size, 0, none⟩ = some (.slice qx0 qx1 qx2) := Hbq1.out.cell 0 (by simp)
    have kq_1 : w6.cell? ⟨w3.heap.size, 1, none⟩ = some (.slice qy0 qy1 qy2) := Hbq1.out.cell 1 (by simp)
    have kq_2 : w6.cell? ⟨w3.heap.size, 2, none⟩ = some (.bool false) := Hbq1.out.cell 2 (by simp)
    go_wp2_with fail
    clear kq_0 kq_1 kq_2
    have Hpq2 : Hid (Pn w6 (.slice qx0 qx1 qx2) (.slice qy0 qy1 qy2) P) := Hpq1.out.below (btr Hs5.out Hs6.out) (Nat.le_refl _)
    refine (lon_p Hpq2.out HP.out.1).mono ?_
    rintro e w7 ⟨rfl, hB⟩
    have Hs7 : Hid (Below w6.heap.size w6 w7) := hB
    clear hB
    by_cases hon : onV X Y inf = true
    · have HO : Hid (onV X Y inf = true) := hon
      obtain rfl : inf = false := ((onV_iff X Y inf).1 hon).1
      have HE : Hid (onE eP eD (X, Y)) := ((onV_iff X Y false).1 hon).2
      clear hon
      have Hba2 : Hid (Bl 31 w7 w.heap.size [.slice ax0 ax1 ax2, .slice ay0 ay1 ay2, .bool false]) := Hba1.out.below (btr Hs3z.out (btr Hs5.out (btr Hs6.out Hs7.out))) Hba1.out.lt
      have ka_0 : w7.cell? ⟨w.heap.size, 0, none⟩ = some (.slice ax0 ax1 ax2) := Hba2.out.cell 0 (by simp)
      have ka_1 : w7.cell? ⟨w.heap.size, 1, none⟩ = some (.slice ay0 ay1 ay2) := Hba2.out.cell 1 (by simp)
      have ka_2 : w7.cell? ⟨w.heap.size, 2, none⟩ = some (.bool false) := Hba2.out.cell 2 (by simp)
      go_wp2_with fail
      clear ka_0 ka_1 ka_2
      have HB5 : Hid (Below w.heap.size w w7) := HB4.out.trans ((btr Hs5.out (btr Hs6.out Hs7.out)).mono HB4.out.size)
      have Hvx2 : Hid (Vl w7 (.slice ax0 ax1 ax2) X 1048576) := Hvx1.out.below (btr Hs3z.out (btr Hs5.out (btr Hs6.out Hs7.out))) (Nat.le_refl _)
      have Hvy2 : Hid (Vl w7 (.slice ay0 ay1 ay2) Y 1048576) := Hvy1.out.below (btr Hs3z.out (btr Hs5.out (btr Hs6.out Hs7.out))) (Nat.le_refl _)
      refine (encode_v _ _ X Y false _ (HT.out.1.below HB5.out (Nat.le_refl _)) (vnu Hvx2.out) (vnu Hvy2.out) HO.out).mono ?_
      rintro e w8 ⟨⟨v, rfl, hO⟩, hB⟩
      have Hs8 : Hid (Below w7.heap.size w7 w8) := hB
      obtain ⟨ld, Hld⟩ : ∃ l, Hid (l = encL (X, Y)) := ⟨_, rfl⟩
      rw [← Hld.out] at hO
      obtain ⟨ad, cd, rfl, hc, _, hr⟩ := owb_open hO
      have Hcd : Hid (ld.length ≤ 9223372036854775807) := Nat.le_trans hc.1 hc.2
      have Hrd0 : Hid (Rd w8 ad ld) := hr
      clear hB hO hc hr
      go_wp2_with fail
      have HB6 : Hid (Below w.heap.size w w8) := HB5.out.trans (Hs8.out.mono HB5.out.size)
      refine (decode_g ad cd ld _ (HT.out.1.below HB6.out (Nat.le_refl _)) Hrd0.out).mono ?_
      rintro e w9 ⟨hA, hB⟩
      have Hs9 : Hid (Below w8.heap.size w8 w9) := hB
      clear hB
      obtain ⟨R, v, oR, eR, rfl, hm⟩ := hA.resolve_right (fun h => h.1 _ HE.out Hld.out.symm)
      obtain rfl : R = (X, Y) := encL_inj oR HE.out (eR.trans Hld.out)
      clear oR eR hA
      obtain ⟨rx, ry, rfl, hpn⟩ := hm.pn
      obtain ⟨⟨rx0, rx1, rx2, rfl⟩, ⟨ry0, ry1, ry2, rfl⟩⟩ := hpn.sl
      have Hpr0 : Hid (Pn w9 (.slice rx0 rx1 rx2) (.slice ry0 ry1 ry2) (X, Y)) := hpn
      clear hpn
      clear hm
      have Hs9z : Hid (Below w9.heap.size w9 (w9.alloc (.cells #[.slice rx0 rx1 rx2, .slice ry0 ry1 ry2, .bool false] 31))) := alloc_below _ _
      have Hbr0 : Hid (Bl 31 (w9.alloc (.cells #[.slice rx0 rx1 rx2, .slice ry0 ry1 ry2, .bool false] 31)) w9.heap.size [.slice rx0 rx1 rx2, .slice ry0 ry1 ry2, .bool false]) := alloc_bl w9 [.slice rx0 rx1 rx2, .slice ry0 ry1 ry2, .bool false] 31
      go_wp2_with fail
      have hBd : Below (w9.alloc (.cells #[.slice rx0 rx1 rx2, .slice ry0 ry1 ry2, .bool false] 31)).heap.size (w9.alloc (.cells #[.slice rx0 rx1 rx2, .slice ry0 ry1 ry2, .bool false] 31)) (w9.alloc (.cells #[.slice rx0 rx1 rx2, .slice ry0 ry1 ry2, .bool false] 31)).drew := below_drewN (Below.refl _ _) 1
      have Hs9zz : Hid (Below (w9.alloc (.cells #[.slice rx0 rx1 rx2, .slice ry0 ry1 ry2, .bool false] 31)).heap.size (w9.alloc (.cells #[.slice rx0 rx1 rx2, .slice ry0 ry1 ry2, .bool false] 31)) (w9.alloc (.cells #[.slice rx0 rx1 rx2, .slice ry0 ry1 ry2, .bool false] 31)).drew) := hBd
      clear hBd
      have Hbr1 : Hid (Bl 31 (w9.alloc (.cells #[.slice rx0 rx1 rx2, .slice ry0 ry1 ry2, .bool false] 31)).drew w9.heap.size [.slice rx0 rx1 rx2, .slice ry0 ry1 ry2, .bool false]) := Hbr0.out.below Hs9zz.out Hbr0.out.lt
      have Hba3 : Hid (Bl 31 (w9.alloc (.cells #[.slice rx0 rx1 rx2, .slice ry0 ry1 ry2, .bool false] 31)).drew w.heap.size [.slice ax0 ax1 ax2, .slice ay0 ay1 ay2, .bool false]) := Hba2.out.below (btr Hs8.out (btr Hs9.out (btr Hs9z.out Hs9zz.out))) Hba2.out.lt
      refine wp_region_K 11 (fun (w' : World) => w'.cell? ⟨w9.heap.size, 0, none⟩ = some (.slice rx0 rx1 rx2) ∧ w'.cell? ⟨w9.heap.size, 1, none⟩ = some (.slice ry0 ry1 ry2) ∧ w'.cell? ⟨w9.heap.size, 2, none⟩ = some (.bool false) ∧ w'.cell? ⟨w.heap.size, 0, none⟩ = some (.slice ax0 ax1 ax2) ∧ w'.cell? ⟨w.heap.size, 1, none⟩ = some (.slice ay0 ay1 ay2) ∧ w'.cell? ⟨w.heap.size, 2, none⟩ = some (.bool false)) (by kernel_rfl) ?_
      have hHeld : ((fun (w' : World) => w'.cell? ⟨w9.heap.size, 0, none⟩ = some (.slice rx0 rx1 rx2) ∧ w'.cell? ⟨w9.heap.size, 1, none⟩ = some (.slice ry0 ry1 ry2) ∧ w'.cell? ⟨w9.heap.size, 2, none⟩ = some (.bool false) ∧ w'.cell? ⟨w.heap.size, 0, none⟩ = some (.slice ax0 ax1 ax2) ∧ w'.cell? ⟨w.heap.size, 1, none⟩ = some (.slice ay0 ay1 ay2) ∧ w'.cell? ⟨w.heap.size, 2, none⟩ = some (.bool false))) (World.drew _) := ⟨Hbr1.out.cell 0 (by simp), Hbr1.out.cell 1 (by simp), Hbr1.out.cell 2 (by simp), Hba3.out.cell 0 (by simp), Hba3.out.cell 1 (by simp), Hba3.out.cell 2 (by simp)⟩
      refine wpAnyK_take0 0 (v := ?v1) rfl (by kernel_rfl) (fun _ _ _ h => h) (Or.inl ⟨by rfl, ?hy1⟩) (fun _ => hHeld) ?_
      case hy1 => (intro w hSw; go_simp; try with_reducible rfl)
      try simp only [Act.put, List.setIfInBounds_toArray, List.set_cons_zero, List.set_cons_succ]
      refine wpAnyK_take0 1 (v := ?v2) rfl (by kernel_rfl) (fun _ _ _ h => h) (Or.inl ⟨by rfl, ?hy2⟩) (fun _ => hHeld) ?_
      case hy2 => (intro w hSw; go_simp; try with_reducible rfl)
      try simp only [Act.put, List.setIfInBounds_toArray, List.set_cons_zero, List.set_cons_succ]
      refine wpAnyK_take0 2 (v := ?v3) rfl (by kernel_rfl) (fun _ _ _ h => h) (Or.inl ⟨by rfl, ?hy3⟩) (fun _ => hHeld) ?_
      case hy3 => (intro w hSw; go_simp; try with_reducible rfl)
      try simp only [Act.put, List.setIfInBounds_toArray, List.set_cons_zero, List.set_cons_succ]
      refine wpAnyK_take 3 [11] (v := ?v4) rfl (by kernel_rfl) (fun _ _ _ h => h) (Or.inl ⟨by rfl, ?hy4⟩) hHeld ?_
      case hy4 => (intro w hSw; (try dsimp only at hSw); go_simp; try with_reducible rfl)
      try simp only [Act.put, List.setIfInBounds_toArray, List.set_cons_zero, List.set_cons_succ]
      refine wpAnyK_take0 4 (v := ?v5) rfl (by kernel_rfl) (fun _ _ _ h => h) (Or.inl ⟨by rfl, ?hy5⟩) (fun _ => hHeld) ?_
      case hy5 => (intro w hSw; go_simp; try with_reducible rfl)
      try simp only [Act.put, List.setIfInBounds_toArray, List.set_cons_zero, List.set_cons_succ]
      refine wpAnyK_take 5 [6, 10, 11] (v := ?v6) rfl (by kernel_rfl) (fun _ _ _ h => h) (Or.inl ⟨by rfl, ?hy6⟩) hHeld ?_
      case hy6 => (intro w hSw; (try dsimp only at hSw); go_simp; try with_reducible rfl)
      try simp only [Act.put, List.setIfInBounds_toArray, List.set_cons_zero, List.set_cons_succ]
      refine wpAnyK_take0 7 (v := ?v7) rfl (by kernel_rfl) (fun _ _ _ h => h) (Or.inl ⟨by rfl, ?hy7⟩) (fun _ => hHeld) ?_
      case hy7 => (intro w hSw; go_simp; try with_reducible rfl)
      try simp only [Act.put, List.setIfInBounds_toArray, List.set_cons_zero, List.set_cons_succ]
      refine wpAnyK_take 8 [9, 10, 11] (v := ?v8) rfl (by kernel_rfl) (fun _ _ _ h => h) (Or.inl ⟨by rfl, ?hy8⟩) hHeld ?_
      case hy8 => (intro w hSw; (try dsimp only at hSw); go_simp; try with_reducible rfl)
      try simp only [Act.put, List.setIfInBounds_toArray, List.set_cons_zero, List.set_cons_succ]
      refine wpAnyK_step 6 rfl (by kernel_rfl) (fun K hK => ?_)
      go_simp
      have Hvx3 : Hid (Vl (w9.alloc (.cells #[.slice rx0 rx1 rx2, .slice ry0 ry1 ry2, .bool false] 31)).drew (.slice ax0 ax1 ax2) X 1048576) := Hvx2.out.below (btr Hs8.out (btr Hs9.out (btr Hs9z.out Hs9zz.out))) (Nat.le_refl _)
      refine (ltrim_s Hvx3.out).mono ?_
      rintro e w10 ⟨t0, t1, t2, rfl, hm, hB⟩
      have Hs10 : Hid (Below (w9.alloc (.cells #[.slice rx0 rx1 rx2, .slice ry0 ry1 ry2, .bool false] 31)).drew.heap.size (w9.alloc (.cells #[.slice rx0 rx1 rx2, .slice ry0 ry1 ry2, .bool false] 31)).drew w10) := hB
      have Hmt0 : Hid (Nm w10 (.slice t0 t1 t2) (dg Bs X)) := hm
      clear hm hB
      have Hbr2 : Hid (Bl 31 w10 w9.heap.size [.slice rx0 rx1 rx2, .slice ry0 ry1 ry2, .bool false]) := Hbr1.out.below Hs10.out Hbr1.out.lt
      have Hba4 : Hid (Bl 31 w10 w.heap.size [.slice ax0 ax1 ax2, .slice ay0 ay1 ay2, .bool false]) := Hba3.out.below Hs10.out Hba3.out.lt
      try dsimp only
      refine hK.out _ _ ?hk9 ?_
      case hk9 => exact fun _ => ⟨Hbr2.out.cell 0 (by simp), Hbr2.out.cell 1 (by simp), Hbr2.out.cell 2 (by simp), Hba4.out.cell 0 (by simp), Hba4.out.cell 1 (by simp), Hba4.out.cell 2 (by simp)⟩
      have hHeld : ((fun (w' : World) => w'.cell? ⟨w9.heap.size, 0, none⟩ = some (.slice rx0 rx1 rx2) ∧ w'.cell? ⟨w9.heap.size, 1, none⟩ = some (.slice ry0 ry1 ry2) ∧ w'.cell? ⟨w9.heap.size, 2, none⟩ = some (.bool false) ∧ w'.cell? ⟨w.heap.size, 0, none⟩ = some (.slice ax0 ax1 ax2) ∧ w'.cell? ⟨w.heap.size, 1, none⟩ = some (.slice ay0 ay1 ay2) ∧ w'.cell? ⟨w.heap.size, 2, none⟩ = some (.bool false))) _ := ⟨Hbr2.out.cell 0 (by simp), Hbr2.out.cell 1 (by simp), Hbr2.out.cell 2 (by simp), Hba4.out.cell 0 (by simp), Hba4.out.cell 1 (by simp), Hba4.out.cell 2 (by simp)⟩
      clear hK K
      try simp only [Act.put, List.setIfInBounds_toArray, List.set_cons_zero, List.set_cons_succ]
      refine wpAnyK_step 9 rfl (by kernel_rfl) (fun K hK => ?_)
      go_simp
      have Hvy3 : Hid (Vl w10 (.slice ay0 ay1 ay2) Y 1048576) := Hvy2.out.below (btr Hs8.out (btr Hs9.out (btr Hs9z.out (btr Hs9zz.out Hs10.out)))) (Nat.le_refl _)
      refine (ltrim_s Hvy3.out).mono ?_
      rintro e w11 ⟨u0, u1, u2, rfl, hm, hB⟩
      have Hs11 : Hid (Below w10.heap.size w10 w11) := hB
      have Hmu0 : Hid (Nm w11 (.slice u0 u1 u2) (dg Bs Y)) := hm
      clear hm hB
      have Hbr3 : Hid (Bl 31 w11 w9.heap.size [.slice rx0 rx1 rx2, .slice ry0 ry1 ry2, .bool false]) := Hbr2.out.below Hs11.out Hbr2.out.lt
      have Hba5 : Hid (Bl 31 w11 w.heap.size [.slice ax0 ax1 ax2, .slice ay0 ay1 ay2, .bool false]) := Hba4.out.below Hs11.out Hba4.out.lt
      try dsimp only
      refine hK.out _ _ ?hk10 ?_
      case hk10 => exact fun _ => ⟨Hbr3.out.cell 0 (by simp), Hbr3.out.cell 1 (by simp), Hbr3.out.cell 2 (by simp), Hba5.out.cell 0 (by simp), Hba5.out.cell 1 (by simp), Hba5.out.cell 2 (by simp)⟩
      have hHeld : ((fun (w' : World) => w'.cell? ⟨w9.heap.size, 0, none⟩ = some (.slice rx0 rx1 rx2) ∧ w'.cell? ⟨w9.heap.size, 1, none⟩ = some (.slice ry0 ry1 ry2) ∧ w'.cell? ⟨w9.heap.size, 2, none⟩ = some (.bool false) ∧ w'.cell? ⟨w.heap.size, 0, none⟩ = some (.slice ax0 ax1 ax2) ∧ w'.cell? ⟨w.heap.size, 1, none⟩ = some (.slice ay0 ay1 ay2) ∧ w'.cell? ⟨w.heap.size, 2, none⟩ = some (.bool false))) _ := ⟨Hbr3.out.cell 0 (by simp), Hbr3.out.cell 1 (by simp), Hbr3.out.cell 2 (by simp), Hba5.out.cell 0 (by simp), Hba5.out.cell 1 (by simp), Hba5.out.cell 2 (by simp)⟩
      clear hK K
      try simp only [Act.put, List.setIfInBounds_toArray, List.set_cons_zero, List.set_cons_succ]
      refine wpAnyK_take0 10 (v := ?v11) rfl (by kernel_rfl) (fun _ _ _ h => h) (Or.inl ⟨by rfl, ?hy11⟩) (fun _ => hHeld) ?_
      case hy11 => (intro w hSw; go_simp; try with_reducible rfl)
      try simp only [Act.put, List.setIfInBounds_toArray, List.set_cons_zero, List.set_cons_succ]
      refine wpAnyK_step 11 rfl (by kernel_rfl) (fun K hK => ?_)
      go_simp
      have Hpr1 : Hid (Pn w11 (.slice rx0 rx1 rx2) (.slice ry0 ry1 ry2) (X, Y)) := Hpr0.out.below (btr Hs9z.out (btr Hs9zz.out (btr Hs10.out Hs11.out))) (Nat.le_refl _)
      have Hmt1 : Hid (Nm w11 (.slice t0 t1 t2) (dg Bs X)) := Hmt0.out.below Hs11.out (Nat.le_refl _)
      refine (lone_v _ _ _ _ (dg Bs X) (dg Bs Y) (dg Bs X) (dg Bs Y) false false _ Hpr1.out.1 Hpr1.out.2.1 Hmt1.out Hmu0.out (Nat.le_trans Hlx.out.1 (by decide)) (Nat.le_trans Hlx.out.2 (by decide))).mono ?_
      rintro e w12 ⟨rfl, hB⟩
      have Hs12 : Hid (Below w11.heap.size w11 w12) := hB
      clear hB
      rw [decide_eq_true (⟨rfl, rfl, rfl⟩ : false = false ∧ dg Bs X = dg Bs X ∧ dg Bs Y = dg Bs Y)]
      have Hbr4 : Hid (Bl 31 w12 w9.heap.size [.slice rx0 rx1 rx2, .slice ry0 ry1 ry2, .bool false]) := Hbr3.out.below Hs12.out Hbr3.out.lt
      have Hba6 : Hid (Bl 31 w12 w.heap.size [.slice ax0 ax1 ax2, .slice ay0 ay1 ay2, .bool false]) := Hba5.out.below Hs12.out Hba5.out.lt
      try dsimp only
      refine hK.out _ _ ?hk12 ?_
      case hk12 => exact fun _ => ⟨Hbr4.out.cell 0 (by simp), Hbr4.out.cell 1 (by simp), Hbr4.out.cell 2 (by simp), Hba6.out.cell 0 (by simp), Hba6.out.cell 1 (by simp), Hba6.out.cell 2 (by simp)⟩
      have hHeld : ((fun (w' : World) => w'.cell? ⟨w9.heap.size, 0, none⟩ = some (.slice rx0 rx1 rx2) ∧ w'.cell? ⟨w9.heap.size, 1, none⟩ = some (.slice ry0 ry1 ry2) ∧ w'.cell? ⟨w9.heap.size, 2, none⟩ = some (.bool false) ∧ w'.cell? ⟨w.heap.size, 0, none⟩ = some (.slice ax0 ax1 ax2) ∧ w'.cell? ⟨w.heap.size, 1, none⟩ = some (.slice ay0 ay1 ay2) ∧ w'.cell? ⟨w.heap.size, 2, none⟩ = some (.bool false))) _ := ⟨Hbr4.out.cell 0 (by simp), Hbr4.out.cell 1 (by simp), Hbr4.out.cell 2 (by simp), Hba6.out.cell 0 (by simp), Hba6.out.cell 1 (by simp), Hba6.out.cell 2 (by simp)⟩
      clear hK K
      try simp only [Act.put, List.setIfInBounds_toArray, List.set_cons_zero, List.set_cons_succ]
      refine wpAnyK_take0 12 (v := ?v13) rfl (by kernel_rfl) (fun _ _ _ h => h) (Or.inl ⟨by rfl, ?hy13⟩) (fun _ => hHeld) ?_
      case hy13 => (intro w hSw; go_simp; try with_reducible rfl)
      try simp only [Act.put, List.setIfInBounds_toArray, List.set_cons_zero, List.set_cons_succ]
      refine wpAnyK_take0 13 (v := ?v14) rfl (by kernel_rfl) (fun _ _ _ h => h) (Or.inl ⟨by rfl, ?hy14⟩) (fun _ => hHeld) ?_
      case hy14 => (intro w hSw; go_simp; try with_reducible rfl)
      try simp only [Act.put, List.setIfInBounds_toArray, List.set_cons_zero, List.set_cons_succ]
      refine wpAnyK_done (by kernel_rfl) ?_ _
      have HB7 : Hid (Below w.heap.size w w12) := HB6.out.trans ((btr Hs9.out (btr Hs9z.out (btr Hs9zz.out (btr Hs10.out (btr Hs11.out Hs12.out))))).mono HB6.out.size)
      go_wp2
      go_ret
      exact ⟨rfl, HB7.out⟩
    · have HO : Hid (onV X Y inf = false) := onF hon
      clear hon
      have Hba2 : Hid (Bl 31 w7 w.heap.size [.slice ax0 ax1 ax2, .slice ay0 ay1 ay2, .bool inf]) := Hba1.out.below (btr Hs3z.out (btr Hs5.out (btr Hs6.out Hs7.out))) Hba1.out.lt
      have ka_0 : w7.cell? ⟨w.heap.size, 0, none⟩ = some (.slice ax0 ax1 ax2) := Hba2.out.cell 0 (by simp)
      have ka_1 : w7.cell? ⟨w.heap.size, 1, none⟩ = some (.slice ay0 ay1 ay2) := Hba2.out.cell 1 (by simp)
      have ka_2 : w7.cell? ⟨w.heap.size, 2, none⟩ = some (.bool inf) := Hba2.out.cell 2 (by simp)
      go_wp2_with fail
      clear ka_0 ka_1 ka_2
      have HB5 : Hid (Below w.heap.size w w7) := HB4.out.trans ((btr Hs5.out (btr Hs6.out Hs7.out)).mono HB4.out.size)
      have Hvx2 : Hid (Vl w7 (.slice ax0 ax1 ax2) X 1048576) := Hvx1.out.below (btr Hs3z.out (btr Hs5.out (btr Hs6.out Hs7.out))) (Nat.le_refl _)
      have Hvy2 : Hid (Vl w7 (.slice ay0 ay1 ay2) Y 1048576) := Hvy1.out.below (btr Hs3z.out (btr Hs5.out (btr Hs6.out Hs7.out))) (Nat.le_refl _)
      refine (encode_no _ _ X Y inf _ (HT.out.1.below HB5.out (Nat.le_refl _)) (vnu Hvx2.out) (vnu Hvy2.out) HO.out).mono ?_
      rintro e w8 ⟨rfl, hB⟩
      have Hs8z : Hid (Below w7.heap.size w7 w8) := hB
      clear hB
      go_wp2_with fail
      have hBd : Below w8.heap.size w8 w8.drew := below_drewN (Below.refl _ _) 1
      have Hs8zz : Hid (Below w8.heap.size w8 w8.drew) := hBd
      clear hBd
      have Hba3 : Hid (Bl 31 w8.drew w.heap.size [.slice ax0 ax1 ax2, .slice ay0 ay1 ay2, .bool inf]) := Hba2.out.below (btr Hs8z.out Hs8zz.out) Hba2.out.lt
      refine wp_region_K 17 (fun (w' : World) => w'.cell? ⟨w.heap.size, 0, none⟩ = some (.slice ax0 ax1 ax2) ∧ w'.cell? ⟨w.heap.size, 1, none⟩ = some (.slice ay0 ay1 ay2) ∧ w'.cell? ⟨w.heap.size, 2, none⟩ = some (.bool inf)) (by kernel_rfl) ?_
      have hHeld : ((fun (w' : World) => w'.cell? ⟨w.heap.size, 0, none⟩ = some (.slice ax0 ax1 ax2) ∧ w'.cell? ⟨w.heap.size, 1, none⟩ = some (.slice ay0 ay1 ay2) ∧ w'.cell? ⟨w.heap.size, 2, none⟩ = some (.bool inf))) (World.drew _) := ⟨Hba3.out.cell 0 (by simp), Hba3.out.cell 1 (by simp), Hba3.out.cell 2 (by simp)⟩
      refine wpAnyK_take0 0 (v := ?v15) rfl (by kernel_rfl) (fun _ _ _ h => h) (Or.inl ⟨by rfl, ?hy15⟩) (fun _ => hHeld) ?_
      case hy15 => (intro w hSw; go_simp; try with_reducible rfl)
      try simp only [Act.put, List.setIfInBounds_toArray, List.set_cons_zero, List.set_cons_succ]
      refine wpAnyK_take0 1 (v := ?v16) rfl (by kernel_rfl) (fun _ _ _ h => h) (Or.inl ⟨by rfl, ?hy16⟩) (fun _ => hHeld) ?_
      case hy16 => (intro w hSw; go_simp; try with_reducible rfl)
      try simp only [Act.put, List.setIfInBounds_toArray, List.set_cons_zero, List.set_cons_succ]
      refine wpAnyK_take0 2 (v := ?v17) rfl (by kernel_rfl) (fun _ _ _ h => h) (Or.inl ⟨by rfl, ?hy17⟩) (fun _ => hHeld) ?_
      case hy17 => (intro w hSw; go_simp; try with_reducible rfl)
      try simp only [Act.put, List.setIfInBounds_toArray, List.set_cons_zero, List.set_cons_succ]
      refine wpAnyK_take0 3 (v := ?v18) rfl (by kernel_rfl) (fun _ _ _ h => h) (Or.inl ⟨by rfl, ?hy18⟩) (fun _ => hHeld) ?_
      case hy18 => (intro w hSw; go_simp; try with_reducible rfl)
      try simp only [Act.put, List.setIfInBounds_toArray, List.set_cons_zero, List.set_cons_succ]
      refine wpAnyK_take0 4 (v := ?v19) rfl (by kernel_rfl) (fun _ _ _ h => h) (Or.inl ⟨by rfl, ?hy19⟩) (fun _ => hHeld) ?_
      case hy19 => (intro w hSw; go_simp; try with_reducible rfl)
      try simp only [Act.put, List.setIfInBounds_toArray, List.set_cons_zero, List.set_cons_succ]
      refine wpAnyK_take0 5 (v := ?v20) rfl (by kernel_rfl) (fun _ _ _ h => h) (Or.inl ⟨by rfl, ?hy20⟩) (fun _ => hHeld) ?_
      case hy20 => (intro w hSw; go_simp; try with_reducible rfl)
      try simp only [Act.put, List.setIfInBounds_toArray, List.set_cons_zero, List.set_cons_succ]
      refine wpAnyK_take0 6 (v := ?v21) rfl (by kernel_rfl) (fun _ _ _ h => h) (Or.inl ⟨by rfl, ?hy21⟩) (fun _ => hHeld) ?_
      case hy21 => (intro w hSw; go_simp; try with_reducible rfl)
      try simp only [Act.put, List.setIfInBounds_toArray, List.set_cons_zero, List.set_cons_succ]
      refine wpAnyK_take0 7 (v := ?v22) rfl (by kernel_rfl) (fun _ _ _ h => h) (Or.inl ⟨by rfl, ?hy22⟩) (fun _ => hHeld) ?_
      case hy22 => (intro w hSw; go_simp; try with_reducible rfl)
      try simp only [Act.put, List.setIfInBounds_toArray, List.set_cons_zero, List.set_cons_succ]
      refine wpAnyK_take0 8 (v := ?v23) rfl (by kernel_rfl) (fun _ _ _ h => h) (Or.inl ⟨by rfl, ?hy23⟩) (fun _ => hHeld) ?_
      case hy23 => (intro w hSw; go_simp; try with_reducible rfl)
      try simp only [Act.put, List.setIfInBounds_toArray, List.set_cons_zero, List.set_cons_succ]
      refine wpAnyK_take 9 [10, 16, 17] (v := ?v24) rfl (by kernel_rfl) (fun _ _ _ h => h) (Or.inl ⟨by rfl, ?hy24⟩) hHeld ?_
      case hy24 => (intro w hSw; (try dsimp only at hSw); go_simp; try with_reducible rfl)
      try simp only [Act.put, List.setIfInBounds_toArray, List.set_cons_zero, List.set_cons_succ]
      refine wpAnyK_take0 11 (v := ?v25) rfl (by kernel_rfl) (fun _ _ _ h => h) (Or.inl ⟨by rfl, ?hy25⟩) (fun _ => hHeld) ?_
      case hy25 => (intro w hSw; go_simp; try with_reducible rfl)
      try simp only [Act.put, List.setIfInBounds_toArray, List.set_cons_zero, List.set_cons_succ]
      refine wpAnyK_take 12 [13, 16, 17] (v := ?v26) rfl (by kernel_rfl) (fun _ _ _ h => h) (Or.inl ⟨by rfl, ?hy26⟩) hHeld ?_
      case hy26 => (intro w hSw; (try dsimp only at hSw); go_simp; try with_reducible rfl)
      try simp only [Act.put, List.setIfInBounds_toArray, List.set_cons_zero, List.set_cons_succ]
      refine wpAnyK_take0 14 (v := ?v27) rfl (by kernel_rfl) (fun _ _ _ h => h) (Or.inl ⟨by rfl, ?hy27⟩) (fun _ => hHeld) ?_
      case hy27 => (intro w hSw; go_simp; try with_reducible rfl)
      try simp only [Act.put, List.setIfInBounds_toArray, List.set_cons_zero, List.set_cons_succ]
      refine wpAnyK_take 15 [16, 17] (v := ?v28) rfl (by kernel_rfl) (fun _ _ _ h => h) (Or.inl ⟨by rfl, ?hy28⟩) hHeld ?_
      case hy28 => (intro w hSw; (try dsimp only at hSw); go_simp; try with_reducible rfl)
      try simp only [Act.put, List.setIfInBounds_toArray, List.set_cons_zero, List.set_cons_succ]
      refine wpAnyK_step 10 rfl (by kernel_rfl) (fun K hK => ?_)
      go_simp
      have Hvx3 : Hid (Vl w8.drew (.slice ax0 ax1 ax2) X 1048576) := Hvx2.out.below (btr Hs8z.out Hs8zz.out) (Nat.le_refl _)
      refine (ltrim_s Hvx3.out).mono ?_
      rintro e w9 ⟨t0, t1, t2, rfl, hm, hB⟩
      have Hs9zzz : Hid (Below w8.drew.heap.size w8.drew w9) := hB
      have Hmt0 : Hid (Nm w9 (.slice t0 t1 t2) (dg Bs X)) := hm
      clear hm hB
      have Hba4 : Hid (Bl 31 w9 w.heap.size [.slice ax0 ax1 ax2, .slice ay0 ay1 ay2, .bool inf]) := Hba3.out.below Hs9zzz.out Hba3.out.lt
      try dsimp only
      refine hK.out _ _ ?hk29 ?_
      case hk29 => exact fun _ => ⟨Hba4.out.cell 0 (by simp), Hba4.out.cell 1 (by simp), Hba4.out.cell 2 (by simp)⟩
      have hHeld : ((fun (w' : World) => w'.cell? ⟨w.heap.size, 0, none⟩ = some (.slice ax0 ax1 ax2) ∧ w'.cell? ⟨w.heap.size, 1, none⟩ = some (.slice ay0 ay1 ay2) ∧ w'.cell? ⟨w.heap.size, 2, none⟩ = some (.bool inf))) _ := ⟨Hba4.out.cell 0 (by simp), Hba4.out.cell 1 (by simp), Hba4.out.cell 2 (by simp)⟩
      clear hK K
      try simp only [Act.put, List.setIfInBounds_toArray, List.set_cons_zero, List.set_cons_succ]
      refine wpAnyK_step 13 rfl (by kernel_rfl) (fun K hK => ?_)
      go_simp
      have Hvy3 : Hid (Vl w9 (.slice ay0 ay1 ay2) Y 1048576) := Hvy2.out.below (btr Hs8z.out (btr Hs8zz.out Hs9zzz.out)) (Nat.le_refl _)
      refine (ltrim_s Hvy3.out).mono ?_
      rintro e w10 ⟨u0, u1, u2, rfl, hm, hB⟩
      have Hs10z : Hid (Below w9.heap.size w9 w10) := hB
      have Hmu0 : Hid (Nm w10 (.slice u0 u1 u2) (dg Bs Y)) := hm
      clear hm hB
      have Hba5 : Hid (Bl 31 w10 w.heap.size [.slice ax0 ax1 ax2, .slice ay0 ay1 ay2, .bool inf]) := Hba4.out.below Hs10z.out Hba4.out.lt
      try dsimp only
      refine hK.out _ _ ?hk30 ?_
      case hk30 => exact fun _ => ⟨Hba5.out.cell 0 (by simp), Hba5.out.cell 1 (by simp), Hba5.out.cell 2 (by simp)⟩
      have hHeld : ((fun (w' : World) => w'.cell? ⟨w.heap.size, 0, none⟩ = some (.slice ax0 ax1 ax2) ∧ w'.cell? ⟨w.heap.size, 1, none⟩ = some (.slice ay0 ay1 ay2) ∧ w'.cell? ⟨w.heap.size, 2, none⟩ = some (.bool inf))) _ := ⟨Hba5.out.cell 0 (by simp), Hba5.out.cell 1 (by simp), Hba5.out.cell 2 (by simp)⟩
      clear hK K
      try simp only [Act.put, List.setIfInBounds_toArray, List.set_cons_zero, List.set_cons_succ]
      refine wpAnyK_take0 16 (v := ?v31) rfl (by kernel_rfl) (fun _ _ _ h => h) (Or.inl ⟨by rfl, ?hy31⟩) (fun _ => hHeld) ?_
      case hy31 => (intro w hSw; go_simp; try with_reducible rfl)
      try simp only [Act.put, List.setIfInBounds_toArray, List.set_cons_zero, List.set_cons_succ]
      refine wpAnyK_step 17 rfl (by kernel_rfl) (fun K hK => ?_)
      go_simp
      have Hmt1 : Hid (Nm w10 (.slice t0 t1 t2) (dg Bs X)) := Hmt0.out.below Hs10z.out (Nat.le_refl _)
      refine (lon_v _ _ X Y inf _ Hmt1.out Hmu0.out Hlx.out.1 Hlx.out.2).mono ?_
      rintro e w11 ⟨rfl, hB⟩
      have Hs11z : Hid (Below w10.heap.size w10 w11) := hB
      clear hB
      rw [HO.out]
      have Hba6 : Hid (Bl 31 w11 w.heap.size [.slice ax0 ax1 ax2, .slice ay0 ay1 ay2, .bool inf]) := Hba5.out.below Hs11z.out Hba5.out.lt
      try dsimp only
      refine hK.out _ _ ?hk32 ?_
      case hk32 => exact fun _ => ⟨Hba6.out.cell 0 (by simp), Hba6.out.cell 1 (by simp), Hba6.out.cell 2 (by simp)⟩
      have hHeld : ((fun (w' : World) => w'.cell? ⟨w.heap.size, 0, none⟩ = some (.slice ax0 ax1 ax2) ∧ w'.cell? ⟨w.heap.size, 1, none⟩ = some (.slice ay0 ay1 ay2) ∧ w'.cell? ⟨w.heap.size, 2, none⟩ = some (.bool inf))) _ := ⟨Hba6.out.cell 0 (by simp), Hba6.out.cell 1 (by simp), Hba6.out.cell 2 (by simp)⟩
      clear hK K
      try simp only [Act.put, List.setIfInBounds_toArray, List.set_cons_zero, List.set_cons_succ]
      refine wpAnyK_take0 18 (v := ?v33) rfl (by kernel_rfl) (fun _ _ _ h => h) (Or.inl ⟨by rfl, ?hy33⟩) (fun _ => hHeld) ?_
      case hy33 => (intro w hSw; go_simp; try with_reducible rfl)
      try simp only [Act.put, List.setIfInBounds_toArray, List.set_cons_zero, List.set_cons_succ]
      refine wpAnyK_take0 19 (v := ?v34) rfl (by kernel_rfl) (fun _ _ _ h => h) (Or.inl ⟨by rfl, ?hy34⟩) (fun _ => hHeld) ?_
      case hy34 => (intro w hSw; go_simp; try with_reducible rfl)
      try simp only [Act.put, List.setIfInBounds_toArray, List.set_cons_zero, List.set_cons_succ]
      refine wpAnyK_take0 20 (v := ?v35) rfl (by kernel_rfl) (fun _ _ _ h => h) (Or.inl ⟨by rfl, ?hy35⟩) (fun _ => hHeld) ?_
      case hy35 => (intro w hSw; go_simp; try with_reducible rfl)
      try simp only [Act.put, List.setIfInBounds_toArray, List.set_cons_zero, List.set_cons_succ]
      refine wpAnyK_done (by kernel_rfl) ?_ _
      have HB6 : Hid (Below w.heap.size w w11) := HB5.out.trans ((btr Hs8z.out (btr Hs8zz.out (btr Hs9zzz.out (btr Hs10z.out Hs11z.out)))).mono HB5.out.size)
      go_wp2
      go_ret
      exact ⟨rfl, HB6.out⟩
  · skip
    have Hs3zz : Hid (Below w3.heap.size w3 (w3.alloc (.cells #[.slice none 0 0, .slice none 0 0, .bool false] 31))) := alloc_below _ _
    have Hbq0 : Hid (Bl 31 (w3.alloc (.cells #[.slice none 0 0, .slice none 0 0, .bool false] 31)) w3.heap.size [.slice none 0 0, .slice none 0 0, .bool false]) := alloc_bl w3 [.slice none 0 0, .slice none 0 0, .bool false] 31
    have kq_0 : (w3.alloc (.cells #[.slice none 0 0, .slice none 0 0, .bool false] 31)).cell? ⟨w3.heap.size, 0, none⟩ = some (.slice none 0 0) := Hbq0.out.cell 0 (by simp)
    have kq_1 : (w3.alloc (.cells #[.slice none 0 0, .slice none 0 0, .bool false] 31)).cell? ⟨w3.heap.size, 1, none⟩ = some (.slice none 0 0) := Hbq0.out.cell 1 (by simp)
    have kq_2 : (w3.alloc (.cells #[.slice none 0 0, .slice none 0 0, .bool false] 31)).cell? ⟨w3.heap.size, 2, none⟩ = some (.bool false) := Hbq0.out.cell 2 (by simp)
    go_wp2_with fail
    clear kq_0 kq_1 kq_2
    generalize (w3.alloc (.cells #[.slice none 0 0, .slice none 0 0, .bool false] 31)) = wv4 at *
    refine (lone_none _).mono ?_
    rintro e w5 ⟨rfl, hB⟩
    have Hs5z : Hid (Below wv4.heap.size wv4 w5) := hB
    clear hB
    by_cases hon : onV X Y inf = true
    · have HO : Hid (onV X Y inf = true) := hon
      obtain rfl : inf = false := ((onV_iff X Y inf).1 hon).1
      have HE : Hid (onE eP eD (X, Y)) := ((onV_iff X Y false).1 hon).2
      clear hon
      have Hba2 : Hid (Bl 31 w5 w.heap.size [.slice ax0 ax1 ax2, .slice ay0 ay1 ay2, .bool false]) := Hba1.out.below (btr Hs3zz.out Hs5z.out) Hba1.out.lt
      have ka_0 : w5.cell? ⟨w.heap.size, 0, none⟩ = some (.slice ax0 ax1 ax2) := Hba2.out.cell 0 (by simp)
      have ka_1 : w5.cell? ⟨w.heap.size, 1, none⟩ = some (.slice ay0 ay1 ay2) := Hba2.out.cell 1 (by simp)
      have ka_2 : w5.cell? ⟨w.heap.size, 2, none⟩ = some (.bool false) := Hba2.out.cell 2 (by simp)
      go_wp2_with fail
      clear ka_0 ka_1 ka_2
      have HB4 : Hid (Below w.heap.size w w5) := HB3.out.trans ((btr Hs3zz.out Hs5z.out).mono HB3.out.size)
      have Hvx2 : Hid (Vl w5 (.slice ax0 ax1 ax2) X 1048576) := Hvx1.out.below (btr Hs3zz.out Hs5z.out) (Nat.le_refl _)
      have Hvy2 : Hid (Vl w5 (.slice ay0 ay1 ay2) Y 1048576) := Hvy1.out.below (btr Hs3zz.out Hs5z.out) (Nat.le_refl _)
      refine (encode_v _ _ X Y false _ (HT.out.1.below HB4.out (Nat.le_refl _)) (vnu Hvx2.out) (vnu Hvy2.out) HO.out).mono ?_
      rintro e w6 ⟨⟨v, rfl, hO⟩, hB⟩
      have Hs6z : Hid (Below w5.heap.size w5 w6) := hB
      obtain ⟨ld, Hld⟩ : ∃ l, Hid (l = encL (X, Y)) := ⟨_, rfl⟩
      rw [← Hld.out] at hO
      obtain ⟨ad, cd, rfl, hc, _, hr⟩ := owb_open hO
      have Hcd : Hid (ld.length ≤ 9223372036854775807) := Nat.le_trans hc.1 hc.2
      have Hrd0 : Hid (Rd w6 ad ld) := hr
      clear hB hO hc hr
      go_wp2_with fail
      have HB5 : Hid (Below w.heap.size w w6) := HB4.out.trans (Hs6z.out.mono HB4.out.size)
      refine (decode_g ad cd ld _ (HT.out.1.below HB5.out (Nat.le_refl _)) Hrd0.out).mono ?_
      rintro e w7 ⟨hA, hB⟩
      have Hs7z : Hid (Below w6.heap.size w6 w7) := hB
      clear hB
      obtain ⟨R, v, oR, eR, rfl, hm⟩ := hA.resolve_right (fun h => h.1 _ HE.out Hld.out.symm)
      obtain rfl : R = (X, Y) := encL_inj oR HE.out (eR.trans Hld.out)
      clear oR eR hA
      obtain ⟨rx, ry, rfl, hpn⟩ := hm.pn
      obtain ⟨⟨rx0, rx1, rx2, rfl⟩, ⟨ry0, ry1, ry2, rfl⟩⟩ := hpn.sl
      have Hpr0 : Hid (Pn w7 (.slice rx0 rx1 rx2) (.slice ry0 ry1 ry2) (X, Y)) := hpn
      clear hpn
      clear hm
      have Hs7zz : Hid (Below w7.heap.size w7 (w7.alloc (.cells #[.slice rx0 rx1 rx2, .slice ry0 ry1 ry2, .bool false] 31))) := alloc_below _ _
      have Hbr0 : Hid (Bl 31 (w7.alloc (.cells #[.slice rx0 rx1 rx2, .slice ry0 ry1 ry2, .bool false] 31)) w7.heap.size [.slice rx0 rx1 rx2, .slice ry0 ry1 ry2, .bool false]) := alloc_bl w7 [.slice rx0 rx1 rx2, .slice ry0 ry1 ry2, .bool false] 31
      go_wp2_with fail
      have hBd : Below (w7.alloc (.cells #[.slice rx0 rx1 rx2, .slice ry0 ry1 ry2, .bool false] 31)).heap.size (w7.alloc (.cells #[.slice rx0 rx1 rx2, .slice ry0 ry1 ry2, .bool false] 31)) (w7.alloc (.cells #[.slice rx0 rx1 rx2, .slice ry0 ry1 ry2, .bool false] 31)).drew := below_drewN (Below.refl _ _) 1
      have Hs7zzz : Hid (Below (w7.alloc (.cells #[.slice rx0 rx1 rx2, .slice ry0 ry1 ry2, .bool false] 31)).heap.size (w7.alloc (.cells #[.slice rx0 rx1 rx2, .slice ry0 ry1 ry2, .bool false] 31)) (w7.alloc (.cells #[.slice rx0 rx1 rx2, .slice ry0 ry1 ry2, .bool false] 31)).drew) := hBd
      clear hBd
      have Hbr1 : Hid (Bl 31 (w7.alloc (.cells #[.slice rx0 rx1 rx2, .slice ry0 ry1 ry2, .bool false] 31)).drew w7.heap.size [.slice rx0 rx1 rx2, .slice ry0 ry1 ry2, .bool false]) := Hbr0.out.below Hs7zzz.out Hbr0.out.lt
      have Hba3 : Hid (Bl 31 (w7.alloc (.cells #[.slice rx0 rx1 rx2, .slice ry0 ry1 ry2, .bool false] 31)).drew w.heap.size [.slice ax0 ax1 ax2, .slice ay0 ay1 ay2, .bool false]) := Hba2.out.below (btr Hs6z.out (btr Hs7z.out (btr Hs7zz.out Hs7zzz.out))) Hba2.out.lt
      refine wp_region_K 11 (fun (w' : World) => w'.cell? ⟨w7.heap.size, 0, none⟩ = some (.slice rx0 rx1 rx2) ∧ w'.cell? ⟨w7.heap.size, 1, none⟩ = some (.slice ry0 ry1 ry2) ∧ w'.cell? ⟨w7.heap.size, 2, none⟩ = some (.bool false) ∧ w'.cell? ⟨w.heap.size, 0, none⟩ = some (.slice ax0 ax1 ax2) ∧ w'.cell? ⟨w.heap.size, 1, none⟩ = some (.slice ay0 ay1 ay2) ∧ w'.cell? ⟨w.heap.size, 2, none⟩ = some (.bool false)) (by kernel_rfl) ?_
      have hHeld : ((fun (w' : World) => w'.cell? ⟨w7.heap.size, 0, none⟩ = some (.slice rx0 rx1 rx2) ∧ w'.cell? ⟨w7.heap.size, 1, none⟩ = some (.slice ry0 ry1 ry2) ∧ w'.cell? ⟨w7.heap.size, 2, none⟩ = some (.bool false) ∧ w'.cell? ⟨w.heap.size, 0, none⟩ = some (.slice ax0 ax1 ax2) ∧ w'.cell? ⟨w.heap.size, 1, none⟩ = some (.slice ay0 ay1 ay2) ∧ w'.cell? ⟨w.heap.size, 2, none⟩ = some (.bool false))) (World.drew _) := ⟨Hbr1.out.cell 0 (by simp), Hbr1.out.cell 1 (by simp), Hbr1.out.cell 2 (by simp), Hba3.out.cell 0 (by simp), Hba3.out.cell 1 (by simp), Hba3.out.cell 2 (by simp)⟩
      refine wpAnyK_take0 0 (v := ?v36) rfl (by kernel_rfl) (fun _ _ _ h => h) (Or.inl ⟨by rfl, ?hy36⟩) (fun _ => hHeld) ?_
      case hy36 => (intro w hSw; go_simp; try with_reducible rfl)
      try simp only [Act.put, List.setIfInBounds_toArray, List.set_cons_zero, List.set_cons_succ]
      refine wpAnyK_take0 1 (v := ?v37) rfl (by kernel_rfl) (fun _ _ _ h => h) (Or.inl ⟨by rfl, ?hy37⟩) (fun _ => hHeld) ?_
      case hy37 => (intro w hSw; go_simp; try with_reducible rfl)
      try simp only [Act.put, List.setIfInBounds_toArray, List.set_cons_zero, List.set_cons_succ]
      refine wpAnyK_take0 2 (v := ?v38) rfl (by kernel_rfl) (fun _ _ _ h => h) (Or.inl ⟨by rfl, ?hy38⟩) (fun _ => hHeld) ?_
      case hy38 => (intro w hSw; go_simp; try with_reducible rfl)
      try simp only [Act.put, List.setIfInBounds_toArray, List.set_cons_zero, List.set_cons_succ]
      refine wpAnyK_take 3 [11] (v := ?v39) rfl (by kernel_rfl) (fun _ _ _ h => h) (Or.inl ⟨by rfl, ?hy39⟩) hHeld ?_
      case hy39 => (intro w hSw; (try dsimp only at hSw); go_simp; try with_reducible rfl)
      try simp only [Act.put, List.setIfInBounds_toArray, List.set_cons_zero, List.set_cons_succ]
      refine wpAnyK_take0 4 (v := ?v40) rfl (by kernel_rfl) (fun _ _ _ h => h) (Or.inl ⟨by rfl, ?hy40⟩) (fun _ => hHeld) ?_
      case hy40 => (intro w hSw; go_simp; try with_reducible rfl)
      try simp only [Act.put, List.setIfInBounds_toArray, List.set_cons_zero, List.set_cons_succ]
      refine wpAnyK_take 5 [6, 10, 11] (v := ?v41) rfl (by kernel_rfl) (fun _ _ _ h => h) (Or.inl ⟨by rfl, ?hy41⟩) hHeld ?_
      case hy41 => (intro w hSw; (try dsimp only at hSw); go_simp; try with_reducible rfl)
      try simp only [Act.put, List.setIfInBounds_toArray, List.set_cons_zero, List.set_cons_succ]
      refine wpAnyK_take0 7 (v := ?v42) rfl (by kernel_rfl) (fun _ _ _ h => h) (Or.inl ⟨by rfl, ?hy42⟩) (fun _ => hHeld) ?_
      case hy42 => (intro w hSw; go_simp; try with_reducible rfl)
      try simp only [Act.put, List.setIfInBounds_toArray, List.set_cons_zero, List.set_cons_succ]
      refine wpAnyK_take 8 [9, 10, 11] (v := ?v43) rfl (by kernel_rfl) (fun _ _ _ h => h) (Or.inl ⟨by rfl, ?hy43⟩) hHeld ?_
      case hy43 => (intro w hSw; (try dsimp only at hSw); go_simp; try with_reducible rfl)
      try simp only [Act.put, List.setIfInBounds_toArray, List.set_cons_zero, List.set_cons_succ]
      refine wpAnyK_step 6 rfl (by kernel_rfl) (fun K hK => ?_)
      go_simp
      have Hvx3 : Hid (Vl (w7.alloc (.cells #[.slice rx0 rx1 rx2, .slice ry0 ry1 ry2, .bool false] 31)).drew (.slice ax0 ax1 ax2) X 1048576) := Hvx2.out.below (btr Hs6z.out (btr Hs7z.out (btr Hs7zz.out Hs7zzz.out))) (Nat.le_refl _)
      refine (ltrim_s Hvx3.out).mono ?_
      rintro e w8 ⟨t0, t1, t2, rfl, hm, hB⟩
      have Hs8zzz : Hid (Below (w7.alloc (.cells #[.slice rx0 rx1 rx2, .slice ry0 ry1 ry2, .bool false] 31)).drew.heap.size (w7.alloc (.cells #[.slice rx0 rx1 rx2, .slice ry0 ry1 ry2, .bool false] 31)).drew w8) := hB
      have Hmt0 : Hid (Nm w8 (.slice t0 t1 t2) (dg Bs X)) := hm
      clear hm hB
      have Hbr2 : Hid (Bl 31 w8 w7.heap.size [.slice rx0 rx1 rx2, .slice ry0 ry1 ry2, .bool false]) := Hbr1.out.below Hs8zzz.out Hbr1.out.lt
      have Hba4 : Hid (Bl 31 w8 w.heap.size [.slice ax0 ax1 ax2, .slice ay0 ay1 ay2, .bool false]) := Hba3.out.below Hs8zzz.out Hba3.out.lt
      try dsimp only
      refine hK.out _ _ ?hk44 ?_
      case hk44 => exact fun _ => ⟨Hbr2.out.cell 0 (by simp), Hbr2.out.cell 1 (by simp), Hbr2.out.cell 2 (by simp), Hba4.out.cell 0 (by simp), Hba4.out.cell 1 (by simp), Hba4.out.cell 2 (by simp)⟩
      have hHeld : ((fun (w' : World) => w'.cell? ⟨w7.heap.size, 0, none⟩ = some (.slice rx0 rx1 rx2) ∧ w'.cell? ⟨w7.heap.size, 1, none⟩ = some (.slice ry0 ry1 ry2) ∧ w'.cell? ⟨w7.heap.size, 2, none⟩ = some (.bool false) ∧ w'.cell? ⟨w.heap.size, 0, none⟩ = some (.slice ax0 ax1 ax2) ∧ w'.cell? ⟨w.heap.size, 1, none⟩ = some (.slice ay0 ay1 ay2) ∧ w'.cell? ⟨w.heap.size, 2, none⟩ = some (.bool false))) _ := ⟨Hbr2.out.cell 0 (by simp), Hbr2.out.cell 1 (by simp), Hbr2.out.cell 2 (by simp), Hba4.out.cell 0 (by simp), Hba4.out.cell 1 (by simp), Hba4.out.cell 2 (by simp)⟩
      clear hK K
      try simp only [Act.put, List.setIfInBounds_toArray, List.set_cons_zero, List.set_cons_succ]
      refine wpAnyK_step 9 rfl (by kernel_rfl) (fun K hK => ?_)
      go_simp
      have Hvy3 : Hid (Vl w8 (.slice ay0 ay1 ay2) Y 1048576) := Hvy2.out.below (btr Hs6z.out (btr Hs7z.out (btr Hs7zz.out (btr Hs7zzz.out Hs8zzz.out)))) (Nat.le_refl _)
      refine (ltrim_s Hvy3.out).mono ?_
      rintro e w9 ⟨u0, u1, u2, rfl, hm, hB⟩
      have Hs9zzzz : Hid (Below w8.heap.size w8 w9) := hB
      have Hmu0 : Hid (Nm w9 (.slice u0 u1 u2) (dg Bs Y)) := hm
      clear hm hB
      have Hbr3 : Hid (Bl 31 w9 w7.heap.size [.slice rx0 rx1 rx2, .slice ry0 ry1 ry2, .bool false]) := Hbr2.out.below Hs9zzzz.out Hbr2.out.lt
      have Hba5 : Hid (Bl 31 w9 w.heap.size [.slice ax0 ax1 ax2, .slice ay0 ay1 ay2, .bool false]) := Hba4.out.below Hs9zzzz.out Hba4.out.lt
      try dsimp only
      refine hK.out _ _ ?hk45 ?_
      case hk45 => exact fun _ => ⟨Hbr3.out.cell 0 (by simp), Hbr3.out.cell 1 (by simp), Hbr3.out.cell 2 (by simp), Hba5.out.cell 0 (by simp), Hba5.out.cell 1 (by simp), Hba5.out.cell 2 (by simp)⟩
      have hHeld : ((fun (w' : World) => w'.cell? ⟨w7.heap.size, 0, none⟩ = some (.slice rx0 rx1 rx2) ∧ w'.cell? ⟨w7.heap.size, 1, none⟩ = some (.slice ry0 ry1 ry2) ∧ w'.cell? ⟨w7.heap.size, 2, none⟩ = some (.bool false) ∧ w'.cell? ⟨w.heap.size, 0, none⟩ = some (.slice ax0 ax1 ax2) ∧ w'.cell? ⟨w.heap.size, 1, none⟩ = some (.slice ay0 ay1 ay2) ∧ w'.cell? ⟨w.heap.size, 2, none⟩ = some (.bool false))) _ := ⟨Hbr3.out.cell 0 (by simp), Hbr3.out.cell 1 (by simp), Hbr3.out.cell 2 (by simp), Hba5.out.cell 0 (by simp), Hba5.out.cell 1 (by simp), Hba5.out.cell 2 (by simp)⟩
      clear hK K
      try simp only [Act.put, List.setIfInBounds_toArray, List.set_cons_zero, List.set_cons_succ]
      refine wpAnyK_take0 10 (v := ?v46) rfl (by kernel_rfl) (fun _ _ _ h => h) (Or.inl ⟨by rfl, ?hy46⟩) (fun _ => hHeld) ?_
      case hy46 => (intro w hSw; go_simp; try with_reducible rfl)
      try simp only [Act.put, List.setIfInBounds_toArray, List.set_cons_zero, List.set_cons_succ]
      refine wpAnyK_step 11 rfl (by kernel_rfl) (fun K hK => ?_)
      go_simp
      have Hpr1 : Hid (Pn w9 (.slice rx0 rx1 rx2) (.slice ry0 ry1 ry2) (X, Y)) := Hpr0.out.below (btr Hs7zz.out (btr Hs7zzz.out (btr Hs8zzz.out Hs9zzzz.out))) (Nat.le_refl _)
      have Hmt1 : Hid (Nm w9 (.slice t0 t1 t2) (dg Bs X)) := Hmt0.out.below Hs9zzzz.out (Nat.le_refl _)
      refine (lone_v _ _ _ _ (dg Bs X) (dg Bs Y) (dg Bs X) (dg Bs Y) false false _ Hpr1.out.1 Hpr1.out.2.1 Hmt1.out Hmu0.out (Nat.le_trans Hlx.out.1 (by decide)) (Nat.le_trans Hlx.out.2 (by decide))).mono ?_
      rintro e w10 ⟨rfl, hB⟩
      have Hs10zz : Hid (Below w9.heap.size w9 w10) := hB
      clear hB
      rw [decide_eq_true (⟨rfl, rfl, rfl⟩ : false = false ∧ dg Bs X = dg Bs X ∧ dg Bs Y = dg Bs Y)]
      have Hbr4 : Hid (Bl 31 w10 w7.heap.size [.slice rx0 rx1 rx2, .slice ry0 ry1 ry2, .bool false]) := Hbr3.out.below Hs10zz.out Hbr3.out.lt
      have Hba6 : Hid (Bl 31 w10 w.heap.size [.slice ax0 ax1 ax2, .slice ay0 ay1 ay2, .bool false]) := Hba5.out.below Hs10zz.out Hba5.out.lt
      try dsimp only
      refine hK.out _ _ ?hk47 ?_
      case hk47 => exact fun _ => ⟨Hbr4.out.cell 0 (by simp), Hbr4.out.cell 1 (by simp), Hbr4.out.cell 2 (by simp), Hba6.out.cell 0 (by simp), Hba6.out.cell 1 (by simp), Hba6.out.cell 2 (by simp)⟩
      have hHeld : ((fun (w' : World) => w'.cell? ⟨w7.heap.size, 0, none⟩ = some (.slice rx0 rx1 rx2) ∧ w'.cell? ⟨w7.heap.size, 1, none⟩ = some (.slice ry0 ry1 ry2) ∧ w'.cell? ⟨w7.heap.size, 2, none⟩ = some (.bool false) ∧ w'.cell? ⟨w.heap.size, 0, none⟩ = some (.slice ax0 ax1 ax2) ∧ w'.cell? ⟨w.heap.size, 1, none⟩ = some (.slice ay0 ay1 ay2) ∧ w'.cell? ⟨w.heap.size, 2, none⟩ = some (.bool false))) _ := ⟨Hbr4.out.cell 0 (by simp), Hbr4.out.cell 1 (by simp), Hbr4.out.cell 2 (by simp), Hba6.out.cell 0 (by simp), Hba6.out.cell 1 (by simp), Hba6.out.cell 2 (by simp)⟩
      clear hK K
      try simp only [Act.put, List.setIfInBounds_toArray, List.set_cons_zero, List.set_cons_succ]
      refine wpAnyK_take0 12 (v := ?v48) rfl (by kernel_rfl) (fun _ _ _ h => h) (Or.inl ⟨by rfl, ?hy48⟩) (fun _ => hHeld) ?_
      case hy48 => (intro w hSw; go_simp; try with_reducible rfl)
      try simp only [Act.put, List.setIfInBounds_toArray, List.set_cons_zero, List.set_cons_succ]
      refine wpAnyK_take0 13 (v := ?v49) rfl (by kernel_rfl) (fun _ _ _ h => h) (Or.inl ⟨by rfl, ?hy49⟩) (fun _ => hHeld) ?_
      case hy49 => (intro w hSw; go_simp; try with_reducible rfl)
      try simp only [Act.put, List.setIfInBounds_toArray, List.set_cons_zero, List.set_cons_succ]
      refine wpAnyK_done (by kernel_rfl) ?_ _
      have HB6 : Hid (Below w.heap.size w w10) := HB5.out.trans ((btr Hs7z.out (btr Hs7zz.out (btr Hs7zzz.out (btr Hs8zzz.out (btr Hs9zzzz.out Hs10zz.out))))).mono HB5.out.size)
      go_wp2
      go_ret
      exact ⟨rfl, HB6.out⟩
    · have HO : Hid (onV X Y inf = false) := onF hon
      clear hon
      have Hba2 : Hid (Bl 31 w5 w.heap.size [.slice ax0 ax1 ax2, .slice ay0 ay1 ay2, .bool inf]) := Hba1.out.below (btr Hs3zz.out Hs5z.out) Hba1.out.lt
      have ka_0 : w5.cell? ⟨w.heap.size, 0, none⟩ = some (.slice ax0 ax1 ax2) := Hba2.out.cell 0 (by simp)
      have ka_1 : w5.cell? ⟨w.heap.size, 1, none⟩ = some (.slice ay0 ay1 ay2) := Hba2.out.cell 1 (by simp)
      have ka_2 : w5.cell? ⟨w.heap.size, 2, none⟩ = some (.bool inf) := Hba2.out.cell 2 (by simp)
      go_wp2_with fail
      clear ka_0 ka_1 ka_2
      have HB4 : Hid (Below w.heap.size w w5) := HB3.out.trans ((btr Hs3zz.out Hs5z.out).mono HB3.out.size)
      have Hvx2 : Hid (Vl w5 (.slice ax0 ax1 ax2) X 1048576) := Hvx1.out.below (btr Hs3zz.out Hs5z.out) (Nat.le_refl _)
      have Hvy2 : Hid (Vl w5 (.slice ay0 ay1 ay2) Y 1048576) := Hvy1.out.below (btr Hs3zz.out Hs5z.out) (Nat.le_refl _)
      refine (encode_no _ _ X Y inf _ (HT.out.1.below HB4.out (Nat.le_refl _)) (vnu Hvx2.out) (vnu Hvy2.out) HO.out).mono ?_
      rintro e w6 ⟨rfl, hB⟩
      have Hs6zz : Hid (Below w5.heap.size w5 w6) := hB
      clear hB
      go_wp2_with fail
      have hBd : Below w6.heap.size w6 w6.drew := below_drewN (Below.refl _ _) 1
      have Hs6zzz : Hid (Below w6.heap.size w6 w6.drew) := hBd
      clear hBd
      have Hba3 : Hid (Bl 31 w6.drew w.heap.size [.slice ax0 ax1 ax2, .slice ay0 ay1 ay2, .bool inf]) := Hba2.out.below (btr Hs6zz.out Hs6zzz.out) Hba2.out.lt
      refine wp_region_K 17 (fun (w' : World) => w'.cell? ⟨w.heap.size, 0, none⟩ = some (.slice ax0 ax1 ax2) ∧ w'.cell? ⟨w.heap.size, 1, none⟩ = some (.slice ay0 ay1 ay2) ∧ w'.cell? ⟨w.heap.size, 2, none⟩ = some (.bool inf)) (by kernel_rfl) ?_
      have hHeld : ((fun (w' : World) => w'.cell? ⟨w.heap.size, 0, none⟩ = some (.slice ax0 ax1 ax2) ∧ w'.cell? ⟨w.heap.size, 1, none⟩ = some (.slice ay0 ay1 ay2) ∧ w'.cell? ⟨w.heap.size, 2, none⟩ = some (.bool inf))) (World.drew _) := ⟨Hba3.out.cell 0 (by simp), Hba3.out.cell 1 (by simp), Hba3.out.cell 2 (by simp)⟩
      refine wpAnyK_take0 0 (v := ?v50) rfl (by kernel_rfl) (fun _ _ _ h => h) (Or.inl ⟨by rfl, ?hy50⟩) (fun _ => hHeld) ?_
      case hy50 => (intro w hSw; go_simp; try with_reducible rfl)
      try simp only [Act.put, List.setIfInBounds_toArray, List.set_cons_zero, List.set_cons_succ]
      refine wpAnyK_take0 1 (v := ?v51) rfl (by kernel_rfl) (fun _ _ _ h => h) (Or.inl ⟨by rfl, ?hy51⟩) (fun _ => hHeld) ?_
      case hy51 => (intro w hSw; go_simp; try with_reducible rfl)
      try simp only [Act.put, List.setIfInBounds_toArray, List.set_cons_zero, List.set_cons_succ]
      refine wpAnyK_take0 2 (v := ?v52) rfl (by kernel_rfl) (fun _ _ _ h => h) (Or.inl ⟨by rfl, ?hy52⟩) (fun _ => hHeld) ?_
      case hy52 => (intro w hSw; go_simp; try with_reducible rfl)
      try simp only [Act.put, List.setIfInBounds_toArray, List.set_cons_zero, List.set_cons_succ]
      refine wpAnyK_take0 3 (v := ?v53) rfl (by kernel_rfl) (fun _ _ _ h => h) (Or.inl ⟨by rfl, ?hy53⟩) (fun _ => hHeld) ?_
      case hy53 => (intro w hSw; go_simp; try with_reducible rfl)
      try simp only [Act.put, List.setIfInBounds_toArray, List.set_cons_zero, List.set_cons_succ]
      refine wpAnyK_take0 4 (v := ?v54) rfl (by kernel_rfl) (fun _ _ _ h => h) (Or.inl ⟨by rfl, ?hy54⟩) (fun _ => hHeld) ?_
      case hy54 => (intro w hSw; go_simp; try with_reducible rfl)
      try simp only [Act.put, List.setIfInBounds_toArray, List.set_cons_zero, List.set_cons_succ]
      refine wpAnyK_take0 5 (v := ?v55) rfl (by kernel_rfl) (fun _ _ _ h => h) (Or.inl ⟨by rfl, ?hy55⟩) (fun _ => hHeld) ?_
      case hy55 => (intro w hSw; go_simp; try with_reducible rfl)
      try simp only [Act.put, List.setIfInBounds_toArray, List.set_cons_zero, List.set_cons_succ]
      refine wpAnyK_take0 6 (v := ?v56) rfl (by kernel_rfl) (fun _ _ _ h => h) (Or.inl ⟨by rfl, ?hy56⟩) (fun _ => hHeld) ?_
      case hy56 => (intro w hSw; go_simp; try with_reducible rfl)
      try simp only [Act.put, List.setIfInBounds_toArray, List.set_cons_zero, List.set_cons_succ]
      refine wpAnyK_take0 7 (v := ?v57) rfl (by kernel_rfl) (fun _ _ _ h => h) (Or.inl ⟨by rfl, ?hy57⟩) (fun _ => hHeld) ?_
      case hy57 => (intro w hSw; go_simp; try with_reducible rfl)
      try simp only [Act.put, List.setIfInBounds_toArray, List.set_cons_zero, List.set_cons_succ]
      refine wpAnyK_take0 8 (v := ?v58) rfl (by kernel_rfl) (fun _ _ _ h => h) (Or.inl ⟨by rfl, ?hy58⟩) (fun _ => hHeld) ?_
      case hy58 => (intro w hSw; go_simp; try with_reducible rfl)
      try simp only [Act.put, List.setIfInBounds_toArray, List.set_cons_zero, List.set_cons_succ]
      refine wpAnyK_take 9 [10, 16, 17] (v := ?v59) rfl (by kernel_rfl) (fun _ _ _ h => h) (Or.inl ⟨by rfl, ?hy59⟩) hHeld ?_
      case hy59 => (intro w hSw; (try dsimp only at hSw); go_simp; try with_reducible rfl)
      try simp only [Act.put, List.setIfInBounds_toArray, List.set_cons_zero, List.set_cons_succ]
      refine wpAnyK_take0 11 (v := ?v60) rfl (by kernel_rfl) (fun _ _ _ h => h) (Or.inl ⟨by rfl, ?hy60⟩) (fun _ => hHeld) ?_
      case hy60 => (intro w hSw; go_simp; try with_reducible rfl)
      try simp only [Act.put, List.setIfInBounds_toArray, List.set_cons_zero, List.set_cons_succ]
      refine wpAnyK_take 12 [13, 16, 17] (v := ?v61) rfl (by kernel_rfl) (fun _ _ _ h => h) (Or.inl ⟨by rfl, ?hy61⟩) hHeld ?_
      case hy61 => (intro w hSw; (try dsimp only at hSw); go_simp; try with_reducible rfl)
      try simp only [Act.put, List.setIfInBounds_toArray, List.set_cons_zero, List.set_cons_succ]
      refine wpAnyK_take0 14 (v := ?v62) rfl (by kernel_rfl) (fun _ _ _ h => h) (Or.inl ⟨by rfl, ?hy62⟩) (fun _ => hHeld) ?_
      case hy62 => (intro w hSw; go_simp; try with_reducible rfl)
      try simp only [Act.put, List.setIfInBounds_toArray, List.set_cons_zero, List.set_cons_succ]
      refine wpAnyK_take 15 [16, 17] (v := ?v63) rfl (by kernel_rfl) (fun _ _ _ h => h) (Or.inl ⟨by rfl, ?hy63⟩) hHeld ?_
      case hy63 => (intro w hSw; (try dsimp only at hSw); go_simp; try with_reducible rfl)
      try simp only [Act.put, List.setIfInBounds_toArray, List.set_cons_zero, List.set_cons_succ]
      refine wpAnyK_step 10 rfl (by kernel_rfl) (fun K hK => ?_)
      go_simp
      have Hvx3 : Hid (Vl w6.drew (.slice ax0 ax1 ax2) X 1048576) := Hvx2.out.below (btr Hs6zz.out Hs6zzz.out) (Nat.le_refl _)
      refine (ltrim_s Hvx3.out).mono ?_
      rintro e w7 ⟨t0, t1, t2, rfl, hm, hB⟩
      have Hs7zzzz : Hid (Below w6.drew.heap.size w6.drew w7) := hB
      have Hmt0 : Hid (Nm w7 (.slice t0 t1 t2) (dg Bs X)) := hm
      clear hm hB
      have Hba4 : Hid (Bl 31 w7 w.heap.size [.slice ax0 ax1 ax2, .slice ay0 ay1 ay2, .bool inf]) := Hba3.out.below Hs7zzzz.out Hba3.out.lt
      try dsimp only
      refine hK.out _ _ ?hk64 ?_
      case hk64 => exact fun _ => ⟨Hba4.out.cell 0 (by simp), Hba4.out.cell 1 (by simp), Hba4.out.cell 2 (by simp)⟩
      have hHeld : ((fun (w' : World) => w'.cell? ⟨w.heap.size, 0, none⟩ = some (.slice ax0 ax1 ax2) ∧ w'.cell? ⟨w.heap.size, 1, none⟩ = some (.slice ay0 ay1 ay2) ∧ w'.cell? ⟨w.heap.size, 2, none⟩ = some (.bool inf))) _ := ⟨Hba4.out.cell 0 (by simp), Hba4.out.cell 1 (by simp), Hba4.out.cell 2 (by simp)⟩
      clear hK K
      try simp only [Act.put, List.setIfInBounds_toArray, List.set_cons_zero, List.set_cons_succ]
      refine wpAnyK_step 13 rfl (by kernel_rfl) (fun K hK => ?_)
      go_simp
      have Hvy3 : Hid (Vl w7 (.slice ay0 ay1 ay2) Y 1048576) := Hvy2.out.below (btr Hs6zz.out (btr Hs6zzz.out Hs7zzzz.out)) (Nat.le_refl _)
      refine (ltrim_s Hvy3.out).mono ?_
      rintro e w8 ⟨u0, u1, u2, rfl, hm, hB⟩
      have Hs8zzzz : Hid (Below w7.heap.size w7 w8) := hB
      have Hmu0 : Hid (Nm w8 (.slice u0 u1 u2) (dg Bs Y)) := hm
      clear hm hB
      have Hba5 : Hid (Bl 31 w8 w.heap.size [.slice ax0 ax1 ax2, .slice ay0 ay1 ay2, .bool inf]) := Hba4.out.below Hs8zzzz.out Hba4.out.lt
      try dsimp only
      refine hK.out _ _ ?hk65 ?_
      case hk65 => exact fun _ => ⟨Hba5.out.cell 0 (by simp), Hba5.out.cell 1 (by simp), Hba5.out.cell 2 (by simp)⟩
      have hHeld : ((fun (w' : World) => w'.cell? ⟨w.heap.size, 0, none⟩ = some (.slice ax0 ax1 ax2) ∧ w'.cell? ⟨w.heap.size, 1, none⟩ = some (.slice ay0 ay1 ay2) ∧ w'.cell? ⟨w.heap.size, 2, none⟩ = some (.bool inf))) _ := ⟨Hba5.out.cell 0 (by simp), Hba5.out.cell 1 (by simp), Hba5.out.cell 2 (by simp)⟩
      clear hK K
      try simp only [Act.put, List.setIfInBounds_toArray, List.set_cons_zero, List.set_cons_succ]
      refine wpAnyK_take0 16 (v := ?v66) rfl (by kernel_rfl) (fun _ _ _ h => h) (Or.inl ⟨by rfl, ?hy66⟩) (fun _ => hHeld) ?_
      case hy66 => (intro w hSw; go_simp; try with_reducible rfl)
      try simp only [Act.put, List.setIfInBounds_toArray, List.set_cons_zero, List.set_cons_succ]
      refine wpAnyK_step 17 rfl (by kernel_rfl) (fun K hK => ?_)
      go_simp
      have Hmt1 : Hid (Nm w8 (.slice t0 t1 t2) (dg Bs X)) := Hmt0.out.below Hs8zzzz.out (Nat.le_refl _)
      refine (lon_v _ _ X Y inf _ Hmt1.out Hmu0.out Hlx.out.1 Hlx.out.2).mono ?_
      rintro e w9 ⟨rfl, hB⟩
      have Hs9zzzzz : Hid (Below w8.heap.size w8 w9) := hB
      clear hB
      rw [HO.out]
      have Hba6 : Hid (Bl 31 w9 w.heap.size [.slice ax0 ax1 ax2, .slice ay0 ay1 ay2, .bool inf]) := Hba5.out.below Hs9zzzzz.out Hba5.out.lt
      try dsimp only
      refine hK.out _ _ ?hk67 ?_
      case hk67 => exact fun _ => ⟨Hba6.out.cell 0 (by simp), Hba6.out.cell 1 (by simp), Hba6.out.cell 2 (by simp)⟩
      have hHeld : ((fun (w' : World) => w'.cell? ⟨w.heap.size, 0, none⟩ = some (.slice ax0 ax1 ax2) ∧ w'.cell? ⟨w.heap.size, 1, none⟩ = some (.slice ay0 ay1 ay2) ∧ w'.cell? ⟨w.heap.size, 2, none⟩ = some (.bool inf))) _ := ⟨Hba6.out.cell 0 (by simp), Hba6.out.cell 1 (by simp), Hba6.out.cell 2 (by simp)⟩
      clear hK K
      try simp only [Act.put, List.setIfInBounds_toArray, List.set_cons_zero, List.set_cons_succ]
      refine wpAnyK_take0 18 (v := ?v68) rfl (by kernel_rfl) (fun _ _ _ h => h) (Or.inl ⟨by rfl, ?hy68⟩) (fun _ => hHeld) ?_
      case hy68 => (intro w hSw; go_simp; try with_reducible rfl)
      try simp only [Act.put, List.setIfInBounds_toArray, List.set_cons_zero, List.set_cons_succ]
      refine wpAnyK_take0 19 (v := ?v69) rfl (by kernel_rfl) (fun _ _ _ h => h) (Or.inl ⟨by rfl, ?hy69⟩) (fun _ => hHeld) ?_
      case hy69 => (intro w hSw; go_simp; try with_reducible rfl)
      try simp only [Act.put, List.setIfInBounds_toArray, List.set_cons_zero, List.set_cons_succ]
      refine wpAnyK_take0 20 (v := ?v70) rfl (by kernel_rfl) (fun _ _ _ h => h) (Or.inl ⟨by rfl, ?hy70⟩) (fun _ => hHeld) ?_
      case hy70 => (intro w hSw; go_simp; try with_reducible rfl)
      try simp only [Act.put, List.setIfInBounds_toArray, List.set_cons_zero, List.set_cons_succ]
      refine wpAnyK_done (by kernel_rfl) ?_ _
      have HB5 : Hid (Below w.heap.size w w9) := HB4.out.trans ((btr Hs6zz.out (btr Hs6zzz.out (btr Hs7zzzz.out (btr Hs8zzzz.out Hs9zzzzz.out)))).mono HB4.out.size)
      go_wp2
      go_ret
      exact ⟨rfl, HB5.out⟩
end Go.Proofs.YtjpjepfmphlneaaGreatDoor
