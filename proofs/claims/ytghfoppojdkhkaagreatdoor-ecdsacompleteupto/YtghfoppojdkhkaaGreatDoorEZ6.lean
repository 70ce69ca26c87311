import Derived.Test.YtghfoppojdkhkaaGreatDoorEZ5
namespace Go.Proofs.YtghfoppojdkhkaaGreatDoor
open Go.RowKit

set_option maxRecDepth 100000

theorem z_abc : zV 32 1 [97, 98, 99] = zabc := by decide +kernel
theorem z_abd : zV 32 1 [97, 98, 100] = zabd := by decide +kernel
theorem iv_gx : Inz k256x k256n (iv k256n k256x) := iv_inz prim_n256 (by decide +kernel) (by decide +kernel)
theorem iv_1 : Inz 1 k256n (iv k256n 1) := iv_inz prim_n256 (by decide) (by decide +kernel)
theorem bvt {V : Nat} (h : V < k256p) : bv (tobe 32 V) = V := by
  rw [bv_tobe, Nat.mod_eq_of_lt (Nat.lt_trans h (by decide +kernel))]
theorem sg_len : (((tobe 32 k256x ++ tobe 32 1)).length : Int) = 2 * 32 := by rw [List.length_append, tobe_length, tobe_length]; rfl
theorem sg_take : bv (((tobe 32 k256x ++ tobe 32 1)).take 32) = k256x := by
  rw [List.take_left' (tobe_length _ _)]
  exact bvt (by decide +kernel)
theorem sg_drop : bv (((tobe 32 k256x ++ tobe 32 1)).drop 32) = 1 := by
  rw [List.drop_left' (tobe_length _ _)]
  exact bvt (by decide +kernel)
theorem dec_abc {a cc : Nat} (hQ : jt k256p k256n (.A k256x k256y) (mn k256n zabc) 1 (iv k256n k256x) (.A k256x k256y) = .A a cc) : decB k256p k256b 32 (tobe 32 a) (tobe 32 cc) = true := by
  have ho : onP k256p k256b (.A a cc) := hQ ▸ g256.jon g256.oG
  unfold decB
  rw [tobe_length, tobe_length, bvt ho.1, bvt ho.2.1, (onB_iff pm256).2 ⟨ho, fun h => by cases h⟩]
  rfl
theorem ver_abc {a cc : Nat} (hQ : jt k256p k256n (.A k256x k256y) (mn k256n zabc) 1 (iv k256n k256x) (.A k256x k256y) = .A a cc) : verV k256p k256b k256n (.A k256x k256y) 32 1 (tobe 32 a) (tobe 32 cc) [97, 98, 99] (tobe 32 k256x ++ tobe 32 1) = 0 := by
  have ho : onP k256p k256b (.A a cc) := hQ ▸ g256.jon g256.oG
  unfold verV
  rw [if_neg (by decide), if_neg (by rw [dec_abc hQ]; simp), if_neg (by rw [sg_len]; simp), show (32 : Int).toNat = 32 from rfl, sg_take, sg_drop, if_pos ⟨⟨by decide +kernel, by decide +kernel⟩, by decide, by decide +kernel⟩, z_abc, bvt ho.1, bvt ho.2.1, ← hQ, awake_ok iv_gx.2 iv_1.2, if_pos (by show decide (k256x % k256n = k256x) = true; rw [gx_small]; simp)]
theorem ver_abd {a cc : Nat} (hQ : jt k256p k256n (.A k256x k256y) (mn k256n zabc) 1 (iv k256n k256x) (.A k256x k256y) = .A a cc) : verV k256p k256b k256n (.A k256x k256y) 32 1 (tobe 32 a) (tobe 32 cc) [97, 98, 100] (tobe 32 k256x ++ tobe 32 1) = 91 := by
  have ho : onP k256p k256b (.A a cc) := hQ ▸ g256.jon g256.oG
  unfold verV
  rw [if_neg (by decide), if_neg (by rw [dec_abc hQ]; simp), if_neg (by rw [sg_len]; simp), show (32 : Int).toNat = 32 from rfl, sg_take, sg_drop, if_pos ⟨⟨by decide +kernel, by decide +kernel⟩, by decide, by decide +kernel⟩, z_abd, bvt ho.1, bvt ho.2.1, ← hQ, awake_no iv_gx.2 iv_1.2, if_neg (by simp)]
theorem rd_const (w : World) (l : List UInt8) (f : Nat × Nat) : Rd (w.alloc (.cells (l.map B).toArray 5 f)) (some ⟨w.heap.size, 0, none⟩) l := by
  refine .inr ⟨w.heap.size, 0, rfl, by rw [World.size_alloc]; omega, fun j hj => ?_⟩
  have h : (w.alloc (.cells (l.map B).toArray 5 f)).heap[w.heap.size]? = some (.cells (l.map B).toArray 5 f) := by unfold World.alloc; simp
  simp only [World.cell?, h]
  simp [List.getD_eq_getElem?_getD, List.getElem?_eq_getElem hj]
theorem row_one (w : World) (V : Nat) (hV : V < Bs) : Nu (w.alloc (.cells #[.int .u32 (V : Int)] 63)) (.slice (some ⟨w.heap.size, 0, none⟩) 1 1) V :=
  ⟨[V], ⟨_, _, rfl, Nat.le_refl _, (alloc_bl w [.int .u32 (V : Int)] 63 : Bl 63 _ _ ([V].map U)).rn, fun y hy => by simp at hy; subst hy; exact hV⟩, by simp [nv], by simp⟩
set_option maxHeartbeats 20000000 in
theorem awake12_v (w : World) (T : Sha.Tb w) : Calls Tryz.prog 7 #[] w fun e w' => e = .returned (.bool true) ∧ Below w.heap.size w w' := by
  obtain ⟨a, cc, hQ⟩ : ∃ a cc, jt k256p k256n (.A k256x k256y) (mn k256n zabc) 1 (iv k256n k256x) (.A k256x k256y) = .A a cc := by
    cases h : jt k256p k256n (.A k256x k256y) (mn k256n zabc) 1 (iv k256n k256x) (.A k256x k256y) with
    | O => exact absurd h (awake_is iv_gx.2)
    | A a cc => exact ⟨a, cc, rfl⟩
  have oQ : onB k256p k256b a cc false = true := (onB_iff pm256).2 ⟨(show onP k256p k256b (.A a cc) from hQ ▸ g256.jon g256.oG), fun h => by cases h⟩
  have HT : Hid (Sha.Tb w) := T
  clear T
  have kc := fun (w : World) (C : Array Value) (n c : Nat) => Lib.run_convert_bytes_const (P := Tryz.prog) w 24 5 C n c Tryz.underlying24 Tryz.underlying5
  go_enter Tryz.func7, Tryz.ntmps7
  go_wp2_with fail
  refine (base_v Kv.k1 w).mono ?_
  rintro e w1 ⟨r, rfl, hPa⟩
  obtain ⟨⟨xv, yv, rfl, m1, m2, _⟩, hB⟩ := hPa
  obtain ⟨x0, x1, x2, rfl⟩ := m1.nk.sl
  obtain ⟨y0, y1, y2, rfl⟩ := m2.nk.sl
  have hz1 := alloc_below w1 (.cells #[.slice x0 x1 x2, .slice y0 y1 y2, .bool false] 41)
  have HB2 : Hid (Below w.heap.size w (w1.alloc (.cells #[.slice x0 x1 x2, .slice y0 y1 y2, .bool false] 41))) := hB.trans (hz1.mono hB.size)
  have HK2 : Hid (Bl 41 (w1.alloc (.cells #[.slice x0 x1 x2, .slice y0 y1 y2, .bool false] 41)) w1.heap.size [.slice x0 x1 x2, .slice y0 y1 y2, .bool false] ∧ Nu (w1.alloc (.cells #[.slice x0 x1 x2, .slice y0 y1 y2, .bool false] 41)) (.slice x0 x1 x2) k256x ∧ Nu (w1.alloc (.cells #[.slice x0 x1 x2, .slice y0 y1 y2, .bool false] 41)) (.slice y0 y1 y2) k256y) := ⟨alloc_bl w1 [.slice x0 x1 x2, .slice y0 y1 y2, .bool false] 41, m1.nk.1.below hz1 (Nat.le_refl _), m2.nk.1.below hz1 (Nat.le_refl _)⟩
  clear hB m1 m2 hz1
  go_wp2_with fail
  generalize (w1.alloc (.cells #[.slice x0 x1 x2, .slice y0 y1 y2, .bool false] 41)) = w2 at *
  refine (order_v Kv.k1 _).mono ?_
  rintro e w3 ⟨nv, rfl, mN, hB⟩
  have HB3 : Hid (Below w.heap.size w w3) := HB2.out.trans (hB.mono HB2.out.size)
  have HK3 : Hid (Bl 41 w3 w1.heap.size [.slice x0 x1 x2, .slice y0 y1 y2, .bool false] ∧ Nu w3 (.slice x0 x1 x2) k256x ∧ Nu w3 (.slice y0 y1 y2) k256y) := ⟨HK2.out.1.below hB HK2.out.1.lt, HK2.out.2.1.below hB (Nat.le_refl _), HK2.out.2.2.below hB (Nat.le_refl _)⟩
  have HN3 : Hid (Nu w3 nv k256n) := mN.nk.1
  obtain ⟨n0, n1, n2, rfl⟩ := mN.nk.sl
  clear hB mN
  have k0 : w3.cell? ⟨w1.heap.size, 0, none⟩ = some (.slice x0 x1 x2) := HK3.out.1.cell 0 (by simp)
  have k1 : w3.cell? ⟨w1.heap.size, 1, none⟩ = some (.slice y0 y1 y2) := HK3.out.1.cell 1 (by simp)
  have k2 : w3.cell? ⟨w1.heap.size, 2, none⟩ = some (.bool false) := HK3.out.1.cell 2 (by simp)
  go_wp2_with fail
  clear k0 k1 k2
  refine (vdiv _ _ k256x k256n _ _ w3 HK3.out.2.1 HN3.out (by decide) (by decide) (by decide +kernel)).mono ?_
  rw [gx_small]
  rintro e w4 ⟨q, r, rfl, hq, hr⟩
  have hB := hq.2.2
  have HB4 : Hid (Below w.heap.size w w4) := HB3.out.trans (hB.mono HB3.out.size)
  have hr' := New.vl hr
  obtain ⟨q0, q1, q2, rfl⟩ := hq.vl.shape
  obtain ⟨r0, r1, r2, rfl⟩ := hr.vl.shape
  have HK4 : Hid (Bl 41 w4 w1.heap.size [.slice x0 x1 x2, .slice y0 y1 y2, .bool false] ∧ Nu w4 (.slice x0 x1 x2) k256x ∧ Nu w4 (.slice y0 y1 y2) k256y ∧ Nu w4 (.slice r0 r1 r2) k256x) := ⟨HK3.out.1.below hB HK3.out.1.lt, HK3.out.2.1.below hB (Nat.le_refl _), HK3.out.2.2.below hB (Nat.le_refl _), hr'⟩
  clear hB hq hr hr'
  have hs1 : Below w4.heap.size w4 ((w4.alloc (.cells #[.int .u8 97, .int .u8 98, .int .u8 99] 5 (3, 4))).alloc (.cells #[.int .u32 1] 63)) := (alloc_below w4 _).trans ((alloc_below (w4.alloc (.cells #[.int .u8 97, .int .u8 98, .int .u8 99] 5 (3, 4))) _).mono (alloc_below w4 _).size)
  have HB5 : Hid (Below w.heap.size w ((w4.alloc (.cells #[.int .u8 97, .int .u8 98, .int .u8 99] 5 (3, 4))).alloc (.cells #[.int .u32 1] 63))) := HB4.out.trans (hs1.mono HB4.out.size)
  have HK5 : Hid (Bl 41 ((w4.alloc (.cells #[.int .u8 97, .int .u8 98, .int .u8 99] 5 (3, 4))).alloc (.cells #[.int .u32 1] 63)) w1.heap.size [.slice x0 x1 x2, .slice y0 y1 y2, .bool false] ∧ Nu ((w4.alloc (.cells #[.int .u8 97, .int .u8 98, .int .u8 99] 5 (3, 4))).alloc (.cells #[.int .u32 1] 63)) (.slice x0 x1 x2) k256x ∧ Nu ((w4.alloc (.cells #[.int .u8 97, .int .u8 98, .int .u8 99] 5 (3, 4))).alloc (.cells #[.int .u32 1] 63)) (.slice y0 y1 y2) k256y ∧ Nu ((w4.alloc (.cells #[.int .u8 97, .int .u8 98, .int .u8 99] 5 (3, 4))).alloc (.cells #[.int .u32 1] 63)) (.slice r0 r1 r2) k256x) := ⟨HK4.out.1.below hs1 HK4.out.1.lt, HK4.out.2.1.below hs1 (Nat.le_refl _), HK4.out.2.2.1.below hs1 (Nat.le_refl _), HK4.out.2.2.2.below hs1 (Nat.le_refl _)⟩
  have HM5 : Hid (Rd ((w4.alloc (.cells #[.int .u8 97, .int .u8 98, .int .u8 99] 5 (3, 4))).alloc (.cells #[.int .u32 1] 63)) (some ⟨w4.heap.size, 0, none⟩) [97, 98, 99]) := (rd_const w4 [97, 98, 99] (3, 4) : Rd (w4.alloc (.cells #[.int .u8 97, .int .u8 98, .int .u8 99] 5 (3, 4))) _ _).below (alloc_below (w4.alloc (.cells #[.int .u8 97, .int .u8 98, .int .u8 99] 5 (3, 4))) _) (Nat.le_refl _)
  have HO5 : Hid (Nu ((w4.alloc (.cells #[.int .u8 97, .int .u8 98, .int .u8 99] 5 (3, 4))).alloc (.cells #[.int .u32 1] 63)) (.slice (some ⟨(w4.alloc (.cells #[.int .u8 97, .int .u8 98, .int .u8 99] 5 (3, 4))).heap.size, 0, none⟩) 1 1) 1) := row_one (w4.alloc (.cells #[.int .u8 97, .int .u8 98, .int .u8 99] 5 (3, 4))) 1 (by decide)
  rw [show (w4.alloc (.cells #[.int .u8 97, .int .u8 98, .int .u8 99] 5 (3, 4))).heap.size = w4.heap.size + 1 from World.size_alloc _ _] at HO5
  clear hs1
  have k0 : ((w4.alloc (.cells #[.int .u8 97, .int .u8 98, .int .u8 99] 5 (3, 4))).alloc (.cells #[.int .u32 1] 63)).cell? ⟨w1.heap.size, 0, none⟩ = some (.slice x0 x1 x2) := HK5.out.1.cell 0 (by simp)
  have k1 : ((w4.alloc (.cells #[.int .u8 97, .int .u8 98, .int .u8 99] 5 (3, 4))).alloc (.cells #[.int .u32 1] 63)).cell? ⟨w1.heap.size, 1, none⟩ = some (.slice y0 y1 y2) := HK5.out.1.cell 1 (by simp)
  have k2 : ((w4.alloc (.cells #[.int .u8 97, .int .u8 98, .int .u8 99] 5 (3, 4))).alloc (.cells #[.int .u32 1] 63)).cell? ⟨w1.heap.size, 2, none⟩ = some (.bool false) := HK5.out.1.cell 2 (by simp)
  go_wp2_with fail
  clear k0 k1 k2
  generalize ((w4.alloc (.cells #[.int .u8 97, .int .u8 98, .int .u8 99] 5 (3, 4))).alloc (.cells #[.int .u32 1] 63)) = w5 at *
  refine (rec_ok Kv.k1 1 _ 3 [97, 98, 99] _ _ _ _ k256x 1 k256x k256y a cc w5 (HT.out.below HB5.out) HM5.out (by decide) (by decide) HK5.out.2.2.2 HO5.out HK5.out.2.1 HK5.out.2.2.1 (by decide) Kv.k1.base_on (by decide +kernel) (by decide +kernel) gx_small (by rw [z_abc]; exact hQ) oQ).mono ?_
  rintro e w6 ⟨xr, yr, rfl, o1, o2, hB⟩
  have HB6 : Hid (Below w.heap.size w w6) := HB5.out.trans (hB.mono HB5.out.size)
  have HK6 : Hid (Bl 41 w6 w1.heap.size [.slice x0 x1 x2, .slice y0 y1 y2, .bool false] ∧ Nu w6 (.slice x0 x1 x2) k256x ∧ Nu w6 (.slice y0 y1 y2) k256y ∧ Nu w6 (.slice r0 r1 r2) k256x) := ⟨HK5.out.1.below hB HK5.out.1.lt, HK5.out.2.1.below hB (Nat.le_refl _), HK5.out.2.2.1.below hB (Nat.le_refl _), HK5.out.2.2.2.below hB (Nat.le_refl _)⟩
  have l32 : ∀ V, (tobe (32 : Int).toNat V).length = 32 := fun V => tobe_length _ _
  obtain ⟨xa, xc, rfl, hx1, hx2⟩ := o1.nb
  obtain ⟨ya, yc, rfl, hy1, hy2⟩ := o2.nb
  have HX6 : Hid (Rd w6 xa (tobe 32 a) ∧ Rd w6 ya (tobe 32 cc)) := ⟨hx2, hy2⟩
  rw [l32, l32]
  clear hB o1 o2 hx1 hx2 hy1 hy2
  have HB7 : Hid (Below w.heap.size w (w6.alloc (.cells #[.int .u32 1] 63))) := HB6.out.trans ((alloc_below w6 _).mono HB6.out.size)
  have HX7 : Hid (Rd (w6.alloc (.cells #[.int .u32 1] 63)) xa (tobe 32 a) ∧ Rd (w6.alloc (.cells #[.int .u32 1] 63)) ya (tobe 32 cc)) := ⟨HX6.out.1.below (alloc_below w6 _) (Nat.le_refl _), HX6.out.2.below (alloc_below w6 _) (Nat.le_refl _)⟩
  have HR7 : Hid (Nu (w6.alloc (.cells #[.int .u32 1] 63)) (.slice r0 r1 r2) k256x ∧ Nu (w6.alloc (.cells #[.int .u32 1] 63)) (.slice (some ⟨w6.heap.size, 0, none⟩) 1 1) 1) := ⟨HK6.out.2.2.2.below (alloc_below w6 _) (Nat.le_refl _), row_one w6 1 (by decide)⟩
  go_wp2_with fail
  generalize (w6.alloc (.cells #[.int .u32 1] 63)) = w7 at *
  refine (joined_v _ _ k256x 1 32 w7 HR7.out.1 HR7.out.2 (by decide +kernel) (by decide +kernel)).mono ?_
  rintro e w8 ⟨sv, rfl, o1, hB⟩
  have HB8 : Hid (Below w.heap.size w w8) := HB7.out.trans (hB.mono HB7.out.size)
  obtain ⟨sa, sc, rfl, hs1, hs2⟩ := o1.nb
  have ls : (tobe (32 : Int).toNat k256x ++ tobe (32 : Int).toNat 1).length = 64 := by rw [List.length_append, l32, l32]
  have HX8 : Hid (Rd w8 xa (tobe 32 a) ∧ Rd w8 ya (tobe 32 cc) ∧ Rd w8 sa (tobe 32 k256x ++ tobe 32 1) ∧ 64 ≤ sc) := ⟨HX7.out.1.below hB (Nat.le_refl _), HX7.out.2.below hB (Nat.le_refl _), hs2, by rw [ls] at hs1; exact hs1⟩
  rw [ls]
  clear hB o1 hs1 hs2 ls l32
  have hs : Below w8.heap.size w8 (w8.alloc (.cells #[.int .u8 97, .int .u8 98, .int .u8 99] 5 (3, 4))) := alloc_below w8 _
  have HBy : Hid (Below w8.heap.size w8 (w8.alloc (.cells #[.int .u8 97, .int .u8 98, .int .u8 99] 5 (3, 4)))) := hs
  have HB8' : Hid (Below w.heap.size w (w8.alloc (.cells #[.int .u8 97, .int .u8 98, .int .u8 99] 5 (3, 4)))) := HB8.out.trans (hs.mono HB8.out.size)
  have HX8' : Hid (Rd (w8.alloc (.cells #[.int .u8 97, .int .u8 98, .int .u8 99] 5 (3, 4))) xa (tobe 32 a) ∧ Rd (w8.alloc (.cells #[.int .u8 97, .int .u8 98, .int .u8 99] 5 (3, 4))) ya (tobe 32 cc) ∧ Rd (w8.alloc (.cells #[.int .u8 97, .int .u8 98, .int .u8 99] 5 (3, 4))) sa (tobe 32 k256x ++ tobe 32 1) ∧ Rd (w8.alloc (.cells #[.int .u8 97, .int .u8 98, .int .u8 99] 5 (3, 4))) (some ⟨w8.heap.size, 0, none⟩) [97, 98, 99]) := ⟨HX8.out.1.below hs (Nat.le_refl _), HX8.out.2.1.below hs (Nat.le_refl _), HX8.out.2.2.1.below hs (Nat.le_refl _), rd_const w8 [97, 98, 99] (3, 4)⟩
  clear hs
  go_wp2_with fail
  generalize (w8.alloc (.cells #[.int .u8 97, .int .u8 98, .int .u8 99] 5 (3, 4))) = w8x at *
  have C := verify_v Kv.k1 1 xa ya (some ⟨w8.heap.size, 0, none⟩) sa xc yc 3 sc (tobe 32 a) (tobe 32 cc) [97, 98, 99] (tobe 32 k256x ++ tobe 32 1) w8x (HT.out.below HB8'.out) HX8'.out.1 HX8'.out.2.1 HX8'.out.2.2.2 HX8'.out.2.2.1 (by rw [tobe_length]; decide) (by rw [tobe_length]; decide) (by decide) (by rw [List.length_append, tobe_length, tobe_length]; exact HX8.out.2.2.2) (by decide)
  rw [ver_abc hQ, List.length_append, tobe_length, tobe_length, tobe_length] at C
  refine C.mono ?_
  clear C
  rintro e w9 ⟨rfl, hB⟩
  have HB9 : Hid (Below w.heap.size w w9) := HB8'.out.trans (hB.mono HB8'.out.size)
  have HBv : Hid (Below w8.heap.size w8 w9) := (HBy.out).trans (hB.mono HBy.out.size)
  clear hB
  have hs : Below w9.heap.size w9 (w9.alloc (.cells #[.int .u8 97, .int .u8 98, .int .u8 100] 5 (3, 4))) := alloc_below w9 _
  have HB9' : Hid (Below w.heap.size w (w9.alloc (.cells #[.int .u8 97, .int .u8 98, .int .u8 100] 5 (3, 4)))) := HB9.out.trans (hs.mono HB9.out.size)
  have HX9' : Hid (Rd (w9.alloc (.cells #[.int .u8 97, .int .u8 98, .int .u8 100] 5 (3, 4))) xa (tobe 32 a) ∧ Rd (w9.alloc (.cells #[.int .u8 97, .int .u8 98, .int .u8 100] 5 (3, 4))) ya (tobe 32 cc) ∧ Rd (w9.alloc (.cells #[.int .u8 97, .int .u8 98, .int .u8 100] 5 (3, 4))) sa (tobe 32 k256x ++ tobe 32 1) ∧ Rd (w9.alloc (.cells #[.int .u8 97, .int .u8 98, .int .u8 100] 5 (3, 4))) (some ⟨w9.heap.size, 0, none⟩) [97, 98, 100]) := ⟨HX8.out.1.below (HBv.out.trans (hs.mono HBv.out.size)) (Nat.le_refl _), HX8.out.2.1.below (HBv.out.trans (hs.mono HBv.out.size)) (Nat.le_refl _), HX8.out.2.2.1.below (HBv.out.trans (hs.mono HBv.out.size)) (Nat.le_refl _), rd_const w9 [97, 98, 100] (3, 4)⟩
  clear hs
  go_wp2_with fail
  generalize (w9.alloc (.cells #[.int .u8 97, .int .u8 98, .int .u8 100] 5 (3, 4))) = w9x at *
  have C := verify_v Kv.k1 1 xa ya (some ⟨w9.heap.size, 0, none⟩) sa xc yc 3 sc (tobe 32 a) (tobe 32 cc) [97, 98, 100] (tobe 32 k256x ++ tobe 32 1) w9x (HT.out.below HB9'.out) HX9'.out.1 HX9'.out.2.1 HX9'.out.2.2.2 HX9'.out.2.2.1 (by rw [tobe_length]; decide) (by rw [tobe_length]; decide) (by decide) (by rw [List.length_append, tobe_length, tobe_length]; exact HX8.out.2.2.2) (by decide)
  rw [ver_abd hQ, List.length_append, tobe_length, tobe_length, tobe_length] at C
  refine C.mono ?_
  clear C
  rintro e w10 ⟨rfl, hB⟩
  have HB10 : Hid (Below w.heap.size w w10) := HB9'.out.trans (hB.mono HB9'.out.size)
  clear hB
  go_wp2
  go_ret
  exact ⟨rfl, HB10.out⟩
end Go.Proofs.YtghfoppojdkhkaaGreatDoor

namespace Go.Proofs.YtghfoppojdkhkaaGreatDoor
open Go.RowKit

set_option maxRecDepth 100000

set_option maxHeartbeats 1000000 in
theorem sameLimbs_any (a1 a2 : Option Addr) (c1 c2 : Nat) (l1 l2 : List Nat) (w : World) (hr1 : Rn w a1 l1) (hr2 : Rn w a2 l2) (hlen : l1.length ≤ 281474976710656) :
    Calls Tryz.prog 25 #[.slice a1 l1.length c1, .slice a2 l2.length c2] w fun e w' => e = .returned (.bool (decide (l1 = l2))) ∧ ∃ q, w' = w.drewN q := by
  by_cases hl : l1.length = l2.length
  · have hl' : ((l1.length : Int) != (l2.length : Int)) = false := by simp; omega
    have Hl : Hid (l1.length = l2.length) := hl
    clear hl
    go_enter Tryz.func25, Tryz.ntmps25
    go_wp2
    go_loopw [5] (fun s wr => ∃ k q : Nat, k ≤ l1.length ∧ s = .int .i64 k ∧ Hid (l1.take k = l2.take k) ∧ wr = w.drewN q) (fun s _ => l1.length - (intOf s).toNat)
    case atStart => exact ⟨0, 0, Nat.zero_le _, rfl, rfl, rfl⟩
    case round =>
      obtain ⟨k, q, hk, rfl, Ht, rfl⟩ := hrel
      by_cases hlt : k < l1.length
      · rcases hr1 with hr1 | ⟨b1, o1, rfl, hb1, hc1⟩
        · subst hr1; simp at hlt
        rcases hr2 with hr2 | ⟨b2, o2, rfl, hb2, hc2⟩
        · subst hr2; have h := Hl.out; rw [List.length_nil] at h; omega
        have hlt2 : k < l2.length := by have := Hl.out; omega
        have g1 := hc1 k hlt
        have g2 := hc2 k hlt2
        rw [List.getD_eq_getElem?_getD, List.getElem?_eq_getElem hlt, Option.getD_some] at g1
        rw [List.getD_eq_getElem?_getD, List.getElem?_eq_getElem hlt2, Option.getD_some] at g2
        have Hx : Hid (l1[k] = l2[k] ↔ l1.take (k + 1) = l2.take (k + 1)) := take_iffN hlt hlt2 Ht.out
        unfold U at g1 g2
        clear hc1 hc2
        generalize l1[k] = x at g1 Hx
        generalize l2[k] = y at g2 Hx
        have hltI : (k : Int) < (l2.length : Int) := by omega
        have hne := ne_limb x y
        by_cases hxy : x = y
        · have hd : ((x : Int) != (y : Int)) = false := by rw [hne]; simp [hxy]
          have Ht1 : Hid (l1.take (k + 1) = l2.take (k + 1)) := Hx.out.1 hxy
          clear hne hxy Hx
          go_wp2
          go_quiet (fail)
          go_wp2
          go_roundw
          case rel => exact ⟨k + 1, _, by omega, by go_num, Ht1, rfl⟩
          case measure => simp [intOf]; omega
        · have hd : ((x : Int) != (y : Int)) = true := by rw [hne]; simp [hxy]
          have Hf : Hid (decide (l1 = l2) = false) := by
            show decide (l1 = l2) = false
            rw [decide_eq_false_iff_not]
            intro e
            exact hxy (Hx.out.2 (by rw [e]))
          clear hne hxy Hx
          go_wp2
          go_quiet (fail)
          go_wp2
          go_ret
          rw [Hf.out]
          exact ⟨rfl, _, World.drewN_drewN _ _ _⟩
      · have He : Hid (decide (l1 = l2) = true) := by
          show decide (l1 = l2) = true
          have h1 := Ht.out
          have h2 := Hl.out
          rw [List.take_of_length_le (by omega), List.take_of_length_le (by omega)] at h1
          simpa using h1
        clear hr1 hr2
        go_wp2
        go_ret
        rw [He.out]
        exact ⟨rfl, _, rfl⟩
  · have hl' : ((l1.length : Int) != (l2.length : Int)) = true := by simp; omega
    have Hf : Hid (decide (l1 = l2) = false) := by show _ = _; simp; intro e; subst e; exact hl rfl
    clear hl
    go_enter Tryz.func25, Tryz.ntmps25
    go_wp2
    go_ret
    rw [Hf.out]
    exact ⟨rfl, 0, rfl⟩

set_option maxHeartbeats 8000000 in
theorem lnumber_v {c s : Int} {p b n gx gy : Nat} (hk : Kv c p b n gx gy s) (h : Int) (am : Option Addr) (cm : Nat) (m : List UInt8) (w : World) (T : Sha.Tb w) (hm : Rd w am m) (hc : m.length ≤ cm) (hc2 : cm ≤ 9223372036854775807) (hl : m.length < 2305843009213693952) :
    Calls Tryz.prog 24 #[.int .i64 h, .int .i64 c, .slice am m.length cm] w fun e w' => ∃ r, e = .returned r ∧ Mk w' w.heap.size r (zV s h m) 384 ∧ Below w.heap.size w w' := by
  have hb := alloc_below w (.cells #[.slice am m.length cm] 24)
  have CQ := Sha.ssum_any h (some ⟨w.heap.size, 0, none⟩) 1 [⟨am, cm, m⟩] (w.alloc (.cells #[.slice am m.length cm] 24)) (T.below hb) (parts1 w ⟨am, cm, m⟩ ⟨hm, hc, hc2⟩) (by simp) (by simp [Sha.cat]; omega)
  rw [show Sha.cat [⟨am, cm, m⟩] = m by simp [Sha.cat]] at CQ
  have HB0 : Hid (Below w.heap.size w (w.alloc (.cells #[.slice am m.length cm] 24))) := hb
  have HL : Hid ((Sha.sumF h m).length = Sha.siz h) := Sha.sumF_length h m
  have hs4 := siz_four h
  clear hb T hm hl
  go_enter Tryz.func24, Tryz.ntmps24
  go_wp2_with fail
  generalize (w.alloc (.cells #[.slice am m.length cm] 24)) = w0 at *
  refine CQ.mono ?_
  clear CQ
  rintro e w1 ⟨a1, rfl, ho, hq⟩
  have HB1 : Hid (Below w.heap.size w w1) := HB0.out.trans (hq.mono HB0.out.size)
  have HR1 : Hid (Rd w1 a1 (Sha.sumF h m)) := ho.rd
  clear ho hq
  generalize Sha.siz h = z at *
  go_wp2_with fail
  refine (size_v hk _).mono ?_
  rintro e w2 ⟨rfl, hB⟩
  have HB2 : Hid (Below w.heap.size w w2) := HB1.out.trans (hB.mono HB1.out.size)
  have HR2 : Hid (Rd w2 a1 (Sha.sumF h m)) := HR1.out.below hB (Nat.le_refl _)
  have HZ : Hid (zV s h m = bv ((Sha.sumF h m).take s.toNat)) := rfl
  have HT3 : Hid (∀ w', Below w2.heap.size w2 w' → Rd w' a1 ((Sha.sumF h m).take s.toNat)) := fun w' hb => rd_take (HR2.out.below hb (Nat.le_refl _)) _
  have HL3 : Hid (((Sha.sumF h m).take s.toNat).length = min s.toNat z) := (by rw [List.length_take, HL.out] : ((Sha.sumF h m).take s.toNat).length = min s.toNat z)
  clear hB
  rcases hk.s0 with hs | hs <;> subst hs <;> rcases hs4 with h4 | h4 | h4 | h4 <;> subst h4
  all_goals
    go_wp2_with fail
    first
      | (refine (from_v _ _ _ (Sha.sumF h m) _ HR2.out HL.out (by decide)).mono ?_
         rintro e w3 ⟨r, rfl, hh⟩
         have HX : Hid (Mk w3 w.heap.size r (zV _ h m) 384 ∧ Below w.heap.size w w3) := ⟨by rw [HZ.out, List.take_of_length_le (by rw [HL.out]; decide)]; exact hh.mk.base HB2.out.size, HB2.out.trans (hh.bel.mono HB2.out.size)⟩
         obtain ⟨r0, r1, r2, rfl⟩ := hh.sl
         clear hh
         go_wp2
         go_ret
         exact ⟨_, rfl, HX.out⟩)
      | (refine (size_v hk _).mono ?_
         rintro e w3 ⟨rfl, hB⟩
         have HB3 : Hid (Below w.heap.size w w3) := HB2.out.trans (hB.mono HB2.out.size)
         have HR3 := HT3.out _ hB
         clear hB
         go_wp2_with fail
         refine (from_v _ _ _ _ _ HR3 (HL3.out.trans (by decide)) (by decide)).mono ?_
         rintro e w4 ⟨r, rfl, hh⟩
         have HX : Hid (Mk w4 w.heap.size r (zV _ h m) 384 ∧ Below w.heap.size w w4) := ⟨by rw [HZ.out]; exact hh.mk.base HB3.out.size, HB3.out.trans (hh.bel.mono HB3.out.size)⟩
         obtain ⟨r0, r1, r2, rfl⟩ := hh.sl
         clear hh
         go_wp2
         go_ret
         exact ⟨_, rfl, HX.out⟩)
end Go.Proofs.YtghfoppojdkhkaaGreatDoor

namespace Go.Proofs.YtghfoppojdkhkaaGreatDoor
open Go.RowKit

set_option maxRecDepth 100000

end Go.Proofs.YtghfoppojdkhkaaGreatDoor
