import Derived.Test.YtnifjhmjpbihoaaGreatDoorCE
import Derived.Test.YtnifjhmjpbihoaaGreatDoorCSm
import Derived.Test.YtnifjhmjpbihoaaGreatDoorCJ
namespace Go.Proofs.YtnifjhmjpbihoaaGreatDoor
open Go.RowKit

set_option maxRecDepth 100000

/-- What a row of calls has at hand: boxes of points, numbers handed in, numbers answered (the newest first). -/
structure Lf (w wN : World) (bs : List (Nat × List Value)) (ax rs : List (Value × Nat)) : Prop where
  bx : ∀ q ∈ bs, Bl 45 wN q.1 q.2
  ar : ∀ q ∈ ax, Nu wN q.1 q.2
  re : ∀ q ∈ rs, Mk wN 0 q.1 q.2 384
  bel : Below w.heap.size w wN
section
variable {w wN w' : World} {bs : List (Nat × List Value)} {ax rs : List (Value × Nat)}
theorem Lf.cell (h : Lf w wN bs ax rs) (i j : Nat) (hi : i < bs.length) (hj : j < (bs[i]).2.length) : wN.cell? ⟨(bs[i]).1, j, none⟩ = some ((bs[i]).2[j]) := (h.bx _ (List.getElem_mem hi)).cell j hj
theorem Lf.below (h : Lf w wN bs ax rs) (hb : Below wN.heap.size wN w') : Lf w w' bs ax rs :=
  ⟨fun q hq => (h.bx q hq).below hb (h.bx q hq).lt, fun q hq => (h.ar q hq).below hb (Nat.le_refl _), fun q hq => (h.re q hq).below hb, h.bel.trans (hb.mono h.bel.size)⟩
theorem Lf.box (h : Lf w wN bs ax rs) (vs : List Value) : Lf w (wN.alloc (.cells vs.toArray 45)) ((wN.heap.size, vs) :: bs) ax rs := by
  have h2 := h.below (alloc_below wN (.cells vs.toArray 45))
  refine ⟨fun q hq => ?_, h2.ar, h2.re, h2.bel⟩
  rcases List.mem_cons.1 hq with rfl | hq
  · exact alloc_bl wN vs 45
  · exact h2.bx q hq
theorem Lf.res {r : Value} {V b : Nat} (h : Lf w wN bs ax rs) (hr : Mk wN b r V 384) : Lf w wN bs ax ((r, V) :: rs) := ⟨h.bx, h.ar, fun q hq => by
  rcases List.mem_cons.1 hq with rfl | hq
  · exact hr.base (Nat.zero_le _)
  · exact h.re q hq, h.bel⟩
theorem Lf.got (h : Lf w wN bs ax rs) (i : Nat) (hi : i < rs.length) : Mk wN 0 rs[i].1 rs[i].2 384 := h.re _ (List.getElem_mem hi)
theorem Lf.arg (h : Lf w wN bs ax rs) (i : Nat) (hi : i < ax.length) : Nu wN ax[i].1 ax[i].2 := h.ar _ (List.getElem_mem hi)
end
def k2x : Nat := 56515219790691171413109057904011688695424810155802929973526481321309856242040
def k2y : Nat := 3377031843712258259223711451491452598088675519751548567112458094635497583569
theorem twoG : sm k256p (.A k256x k256y) (.A k256x k256y) = .A k2x k2y := by
  have hon := ((onB_iff pm256).1 Kv.k1.base_on).1
  refine cv256.sm_is hon hon (Or.inr ⟨fun h => absurd h.2 (by decide +kernel), 73404963663004311880882944372748989162084677934852963787452504780932599885725, ⟨?_, ?_⟩, k2x, k2y, rfl, by decide +kernel, by decide +kernel, ?_, ?_⟩)
  all_goals exact Int.dvd_of_emod_eq_zero (by decide +kernel)
theorem Row.first {w : World} {b : Nat} {v : Value} {V : Nat} (h : Mk w b v V 384) (hl : (dg Bs V).length = 8) : ∃ g cap : Nat, v = .slice (some ⟨g, 0, none⟩) 8 cap ∧ w.cell? ⟨g, 0, none⟩ = some (.int .u32 (((dg Bs V).getD 0 0 : Nat) : Int)) := by
  rcases h.1.2 with ⟨_, h0⟩ | ⟨g, cap, cur, e, h1, h2, h3, h4, h5, h6⟩
  · rw [hl] at h0; cases h0
  · refine ⟨g, cap, by rw [e, hl], ?_⟩
    have hlen : 0 < ((dg Bs V).map U).length := by rw [List.length_map, hl]; decide
    have h7 : cur.toList[0]? = ((dg Bs V).map U)[0]? := by
      rw [← h6, List.getElem?_take, if_pos (by rw [hl]; decide)]
    simp only [World.cell?, h2]
    have h8 : cur[0]? = ((dg Bs V).map U)[0]? := by rw [← h7]; simp
    rw [List.getElem?_map] at h8
    have h9 : (dg Bs V)[0]? = some ((dg Bs V).getD 0 0) := by
      rw [List.getD_eq_getElem?_getD, List.getElem?_eq_getElem (by rw [hl]; decide), Option.getD_some]
    rw [h9] at h8
    simpa [U] using h8
theorem twoMl : ml k256p (2 % k256n) (.A k256x k256y) = .A k2x k2y := by
  have hon : onP k256p k256b (.A k256x k256y) := ((onB_iff pm256).1 Kv.k1.base_on).1
  rw [show 2 % k256n = 2 by decide +kernel, ← twoG]
  show sm k256p (ml k256p 1 (.A k256x k256y)) (.A k256x k256y) = _
  rw [cv256.mone hon]
set_option maxHeartbeats 20000000 in
theorem started_v (w : World) : Calls Tryz.prog 40 #[] w fun e w' => e = .returned (.bool true) ∧ Below w.heap.size w w' := by
  have H0 : Hid (Lf w w [] [] []) := ⟨fun q hq => (by cases hq), fun q hq => (by cases hq), fun q hq => (by cases hq), Below.refl _ _⟩
  have hon : onB k256p k256b k256x k256y false = true := Kv.k1.base_on
  have hon2 : onB k256p k256b k2x k2y false = true := by decide +kernel
  have hon0 : onB k256p k256b 0 0 false = false := by decide +kernel
  go_enter Tryz.func40, Tryz.ntmps40
  go_wp2_with fail
  refine (base_v Kv.k1 w).mono ?_
  rintro e wa ⟨r, rfl, hPa⟩
  obtain ⟨⟨xv, yv, rfl, m1, m2, _⟩, hB⟩ := hPa
  obtain ⟨x0, x1, x2, rfl⟩ := m1.nk.sl
  obtain ⟨y0, y1, y2, rfl⟩ := m2.nk.sl
  have Hwa : Hid (Lf w wa [] [] [(.slice y0 y1 y2, k256y), (.slice x0 x1 x2, k256x)]) := (((H0.out.below hB).res m1).res m2)
  clear m1 m2 hB
  have HB0 : Hid (Lf w (wa.alloc (.cells #[.slice x0 x1 x2, .slice y0 y1 y2, .bool false] 45)) [(wa.heap.size, [.slice x0 x1 x2, .slice y0 y1 y2, .bool false])] [] [(.slice y0 y1 y2, k256y), (.slice x0 x1 x2, k256x)]) := Hwa.out.box [.slice x0 x1 x2, .slice y0 y1 y2, .bool false]
  have k0_0 : (wa.alloc (.cells #[.slice x0 x1 x2, .slice y0 y1 y2, .bool false] 45)).cell? ⟨wa.heap.size, 0, none⟩ = some (.slice x0 x1 x2) := HB0.out.cell 0 0 (Nat.le_of_ble_eq_true rfl) (Nat.le_of_ble_eq_true rfl)
  have k0_1 : (wa.alloc (.cells #[.slice x0 x1 x2, .slice y0 y1 y2, .bool false] 45)).cell? ⟨wa.heap.size, 1, none⟩ = some (.slice y0 y1 y2) := HB0.out.cell 0 1 (Nat.le_of_ble_eq_true rfl) (Nat.le_of_ble_eq_true rfl)
  have k0_2 : (wa.alloc (.cells #[.slice x0 x1 x2, .slice y0 y1 y2, .bool false] 45)).cell? ⟨wa.heap.size, 2, none⟩ = some (.bool false) := HB0.out.cell 0 2 (Nat.le_of_ble_eq_true rfl) (Nat.le_of_ble_eq_true rfl)
  go_wp2_with fail
  clear k0_0 k0_1 k0_2
  generalize (wa.alloc (.cells #[.slice x0 x1 x2, .slice y0 y1 y2, .bool false] 45)) = wv2 at *
  refine (add_ok Kv.k1 _ _ _ _ k256x k256y k256x k256y false false _ (HB0.out.got 1 (Nat.le_of_ble_eq_true rfl)).nk.1 (HB0.out.got 0 (Nat.le_of_ble_eq_true rfl)).nk.1 (HB0.out.got 1 (Nat.le_of_ble_eq_true rfl)).nk.1 (HB0.out.got 0 (Nat.le_of_ble_eq_true rfl)).nk.1 hon hon).mono ?_
  rintro e wb ⟨r, rfl, hPa⟩
  rw [show ptO k256x k256y false = .A k256x k256y from rfl, twoG] at hPa
  obtain ⟨⟨uv, vv, rfl, m1, m2, _⟩, hB⟩ := hPa
  obtain ⟨u0, u1, u2, rfl⟩ := m1.nk.sl
  obtain ⟨v0, v1, v2, rfl⟩ := m2.nk.sl
  have Hwb : Hid (Lf w wb [(wa.heap.size, [.slice x0 x1 x2, .slice y0 y1 y2, .bool false])] [] [(.slice v0 v1 v2, k2y), (.slice u0 u1 u2, k2x), (.slice y0 y1 y2, k256y), (.slice x0 x1 x2, k256x)]) := (((HB0.out.below hB).res m1).res m2)
  clear m1 m2 hB
  have HB1 : Hid (Lf w (wb.alloc (.cells #[.slice u0 u1 u2, .slice v0 v1 v2, .bool false] 45)) [(wb.heap.size, [.slice u0 u1 u2, .slice v0 v1 v2, .bool false]), (wa.heap.size, [.slice x0 x1 x2, .slice y0 y1 y2, .bool false])] [] [(.slice v0 v1 v2, k2y), (.slice u0 u1 u2, k2x), (.slice y0 y1 y2, k256y), (.slice x0 x1 x2, k256x)]) := Hwb.out.box [.slice u0 u1 u2, .slice v0 v1 v2, .bool false]
  have HR2 : Hid (Lf w ((wb.alloc (.cells #[.slice u0 u1 u2, .slice v0 v1 v2, .bool false] 45)).alloc (.cells #[.int .u32 2] 65)) [(wb.heap.size, [.slice u0 u1 u2, .slice v0 v1 v2, .bool false]), (wa.heap.size, [.slice x0 x1 x2, .slice y0 y1 y2, .bool false])] [] [(.slice v0 v1 v2, k2y), (.slice u0 u1 u2, k2x), (.slice y0 y1 y2, k256y), (.slice x0 x1 x2, k256x)]) := HB1.out.below (alloc_below _ _)
  have hsz2 : (wb.alloc (.cells #[.slice u0 u1 u2, .slice v0 v1 v2, .bool false] 45)).heap.size = wb.heap.size + 1 := World.size_alloc _ _
  have HTw : Hid (Nu ((wb.alloc (.cells #[.slice u0 u1 u2, .slice v0 v1 v2, .bool false] 45)).alloc (.cells #[.int .u32 2] 65)) (.slice (some ⟨wb.heap.size + 1, 0, none⟩) 1 1) 2) := by
    have h := (alloc_bl (wb.alloc (.cells #[.slice u0 u1 u2, .slice v0 v1 v2, .bool false] 45)) [.int .u32 2] 65 : Bl 65 _ _ ([2].map U))
    rw [hsz2] at h
    exact ⟨[2], ⟨_, _, rfl, Nat.le_refl _, h.rn, fun y hy => by simp at hy; subst hy; decide⟩, by decide, by decide⟩
  clear hsz2
  have k0_0 : ((wb.alloc (.cells #[.slice u0 u1 u2, .slice v0 v1 v2, .bool false] 45)).alloc (.cells #[.int .u32 2] 65)).cell? ⟨wa.heap.size, 0, none⟩ = some (.slice x0 x1 x2) := HR2.out.cell 1 0 (Nat.le_of_ble_eq_true rfl) (Nat.le_of_ble_eq_true rfl)
  have k0_1 : ((wb.alloc (.cells #[.slice u0 u1 u2, .slice v0 v1 v2, .bool false] 45)).alloc (.cells #[.int .u32 2] 65)).cell? ⟨wa.heap.size, 1, none⟩ = some (.slice y0 y1 y2) := HR2.out.cell 1 1 (Nat.le_of_ble_eq_true rfl) (Nat.le_of_ble_eq_true rfl)
  have k0_2 : ((wb.alloc (.cells #[.slice u0 u1 u2, .slice v0 v1 v2, .bool false] 45)).alloc (.cells #[.int .u32 2] 65)).cell? ⟨wa.heap.size, 2, none⟩ = some (.bool false) := HR2.out.cell 1 2 (Nat.le_of_ble_eq_true rfl) (Nat.le_of_ble_eq_true rfl)
  go_wp2_with fail
  clear k0_0 k0_1 k0_2
  generalize ((wb.alloc (.cells #[.slice u0 u1 u2, .slice v0 v1 v2, .bool false] 45)).alloc (.cells #[.int .u32 2] 65)) = wv4 at *
  refine (mul_ok Kv.k1 _ _ _ 2 k256x k256y false _ HTw.out (HR2.out.got 3 (Nat.le_of_ble_eq_true rfl)).nk.1 (HR2.out.got 2 (Nat.le_of_ble_eq_true rfl)).nk.1 hon (by decide)).mono ?_
  rintro e wc ⟨r, rfl, hPa⟩
  rw [show ml k256p (2 % k256n) (ptO k256x k256y false) = .A k2x k2y from twoMl] at hPa
  obtain ⟨⟨sv, tv, rfl, m1, m2, _⟩, hB⟩ := hPa
  obtain ⟨s0, s1, s2, rfl⟩ := m1.nk.sl
  obtain ⟨t0, t1, t2, rfl⟩ := m2.nk.sl
  have Hwc : Hid (Lf w wc [(wb.heap.size, [.slice u0 u1 u2, .slice v0 v1 v2, .bool false]), (wa.heap.size, [.slice x0 x1 x2, .slice y0 y1 y2, .bool false])] [] [(.slice t0 t1 t2, k2y), (.slice s0 s1 s2, k2x), (.slice v0 v1 v2, k2y), (.slice u0 u1 u2, k2x), (.slice y0 y1 y2, k256y), (.slice x0 x1 x2, k256x)]) := (((HR2.out.below hB).res m1).res m2)
  clear m1 m2 hB
  have HB2 : Hid (Lf w (wc.alloc (.cells #[.slice s0 s1 s2, .slice t0 t1 t2, .bool false] 45)) [(wc.heap.size, [.slice s0 s1 s2, .slice t0 t1 t2, .bool false]), (wb.heap.size, [.slice u0 u1 u2, .slice v0 v1 v2, .bool false]), (wa.heap.size, [.slice x0 x1 x2, .slice y0 y1 y2, .bool false])] [] [(.slice t0 t1 t2, k2y), (.slice s0 s1 s2, k2x), (.slice v0 v1 v2, k2y), (.slice u0 u1 u2, k2x), (.slice y0 y1 y2, k256y), (.slice x0 x1 x2, k256x)]) := Hwc.out.box [.slice s0 s1 s2, .slice t0 t1 t2, .bool false]
  have k0_0 : (wc.alloc (.cells #[.slice s0 s1 s2, .slice t0 t1 t2, .bool false] 45)).cell? ⟨wa.heap.size, 0, none⟩ = some (.slice x0 x1 x2) := HB2.out.cell 2 0 (Nat.le_of_ble_eq_true rfl) (Nat.le_of_ble_eq_true rfl)
  have k0_1 : (wc.alloc (.cells #[.slice s0 s1 s2, .slice t0 t1 t2, .bool false] 45)).cell? ⟨wa.heap.size, 1, none⟩ = some (.slice y0 y1 y2) := HB2.out.cell 2 1 (Nat.le_of_ble_eq_true rfl) (Nat.le_of_ble_eq_true rfl)
  have k0_2 : (wc.alloc (.cells #[.slice s0 s1 s2, .slice t0 t1 t2, .bool false] 45)).cell? ⟨wa.heap.size, 2, none⟩ = some (.bool false) := HB2.out.cell 2 2 (Nat.le_of_ble_eq_true rfl) (Nat.le_of_ble_eq_true rfl)
  go_wp2_with fail
  clear k0_0 k0_1 k0_2
  generalize (wc.alloc (.cells #[.slice s0 s1 s2, .slice t0 t1 t2, .bool false] 45)) = wv6 at *
  refine (add_bad2 Kv.k1 _ _ _ _ k256x k256y 0 0 false false _ (HB2.out.got 5 (Nat.le_of_ble_eq_true rfl)).nk.1 (HB2.out.got 4 (Nat.le_of_ble_eq_true rfl)).nk.1 (Nk.none _ 384).1 (Nk.none _ 384).1 hon hon0).mono ?_
  rintro e wd ⟨rfl, hB⟩
  have Hwd : Hid (Lf w wd [(wc.heap.size, [.slice s0 s1 s2, .slice t0 t1 t2, .bool false]), (wb.heap.size, [.slice u0 u1 u2, .slice v0 v1 v2, .bool false]), (wa.heap.size, [.slice x0 x1 x2, .slice y0 y1 y2, .bool false])] [] [(.slice t0 t1 t2, k2y), (.slice s0 s1 s2, k2x), (.slice v0 v1 v2, k2y), (.slice u0 u1 u2, k2x), (.slice y0 y1 y2, k256y), (.slice x0 x1 x2, k256x)]) := (HB2.out.below hB)
  clear hB
  have HB3 : Hid (Lf w (wd.alloc (.cells #[.slice none 0 0, .slice none 0 0, .bool false] 45)) [(wd.heap.size, [.slice none 0 0, .slice none 0 0, .bool false]), (wc.heap.size, [.slice s0 s1 s2, .slice t0 t1 t2, .bool false]), (wb.heap.size, [.slice u0 u1 u2, .slice v0 v1 v2, .bool false]), (wa.heap.size, [.slice x0 x1 x2, .slice y0 y1 y2, .bool false])] [] [(.slice t0 t1 t2, k2y), (.slice s0 s1 s2, k2x), (.slice v0 v1 v2, k2y), (.slice u0 u1 u2, k2x), (.slice y0 y1 y2, k256y), (.slice x0 x1 x2, k256x)]) := Hwd.out.box [.slice none 0 0, .slice none 0 0, .bool false]
  have k1_0 : (wd.alloc (.cells #[.slice none 0 0, .slice none 0 0, .bool false] 45)).cell? ⟨wb.heap.size, 0, none⟩ = some (.slice u0 u1 u2) := HB3.out.cell 2 0 (Nat.le_of_ble_eq_true rfl) (Nat.le_of_ble_eq_true rfl)
  have k1_1 : (wd.alloc (.cells #[.slice none 0 0, .slice none 0 0, .bool false] 45)).cell? ⟨wb.heap.size, 1, none⟩ = some (.slice v0 v1 v2) := HB3.out.cell 2 1 (Nat.le_of_ble_eq_true rfl) (Nat.le_of_ble_eq_true rfl)
  have k1_2 : (wd.alloc (.cells #[.slice none 0 0, .slice none 0 0, .bool false] 45)).cell? ⟨wb.heap.size, 2, none⟩ = some (.bool false) := HB3.out.cell 2 2 (Nat.le_of_ble_eq_true rfl) (Nat.le_of_ble_eq_true rfl)
  have k2_0 : (wd.alloc (.cells #[.slice none 0 0, .slice none 0 0, .bool false] 45)).cell? ⟨wc.heap.size, 0, none⟩ = some (.slice s0 s1 s2) := HB3.out.cell 1 0 (Nat.le_of_ble_eq_true rfl) (Nat.le_of_ble_eq_true rfl)
  have k2_1 : (wd.alloc (.cells #[.slice none 0 0, .slice none 0 0, .bool false] 45)).cell? ⟨wc.heap.size, 1, none⟩ = some (.slice t0 t1 t2) := HB3.out.cell 1 1 (Nat.le_of_ble_eq_true rfl) (Nat.le_of_ble_eq_true rfl)
  have k2_2 : (wd.alloc (.cells #[.slice none 0 0, .slice none 0 0, .bool false] 45)).cell? ⟨wc.heap.size, 2, none⟩ = some (.bool false) := HB3.out.cell 1 2 (Nat.le_of_ble_eq_true rfl) (Nat.le_of_ble_eq_true rfl)
  go_wp2_with fail
  clear k1_0 k1_1 k1_2 k2_0 k2_1 k2_2
  generalize (wd.alloc (.cells #[.slice none 0 0, .slice none 0 0, .bool false] 45)) = wv8 at *
  refine (same_v _ _ _ _ k2x k2y false _ (HB3.out.got 3 (Nat.le_of_ble_eq_true rfl)).nm (HB3.out.got 2 (Nat.le_of_ble_eq_true rfl)).nm (HB3.out.got 1 (Nat.le_of_ble_eq_true rfl)).nm (HB3.out.got 0 (Nat.le_of_ble_eq_true rfl)).nm (by decide +kernel) (by decide +kernel)).mono ?_
  rintro e we ⟨rfl, hB⟩
  have Hwe : Hid (Lf w we [(wd.heap.size, [.slice none 0 0, .slice none 0 0, .bool false]), (wc.heap.size, [.slice s0 s1 s2, .slice t0 t1 t2, .bool false]), (wb.heap.size, [.slice u0 u1 u2, .slice v0 v1 v2, .bool false]), (wa.heap.size, [.slice x0 x1 x2, .slice y0 y1 y2, .bool false])] [] [(.slice t0 t1 t2, k2y), (.slice s0 s1 s2, k2x), (.slice v0 v1 v2, k2y), (.slice u0 u1 u2, k2x), (.slice y0 y1 y2, k256y), (.slice x0 x1 x2, k256x)]) := (HB3.out.below hB)
  clear hB
  obtain ⟨gu, cu, eu, ku⟩ := Row.first (V := k2x) (Hwe.out.got 3 (Nat.le_of_ble_eq_true rfl)) (by decide +kernel)
  obtain ⟨gv, cv, ev, kv⟩ := Row.first (V := k2y) (Hwe.out.got 2 (Nat.le_of_ble_eq_true rfl)) (by decide +kernel)
  cases eu
  cases ev
  rw [show (dg Bs k2x).getD 0 0 = 1197906296 by decide +kernel] at ku
  rw [show (dg Bs k2y).getD 0 0 = 578319313 by decide +kernel] at kv
  have k1_0 : we.cell? ⟨wb.heap.size, 0, none⟩ = some (.slice (some ⟨gu, 0, none⟩) 8 u2) := Hwe.out.cell 2 0 (Nat.le_of_ble_eq_true rfl) (Nat.le_of_ble_eq_true rfl)
  have k1_1 : we.cell? ⟨wb.heap.size, 1, none⟩ = some (.slice (some ⟨gv, 0, none⟩) 8 v2) := Hwe.out.cell 2 1 (Nat.le_of_ble_eq_true rfl) (Nat.le_of_ble_eq_true rfl)
  have k1_2 : we.cell? ⟨wb.heap.size, 2, none⟩ = some (.bool false) := Hwe.out.cell 2 2 (Nat.le_of_ble_eq_true rfl) (Nat.le_of_ble_eq_true rfl)
  go_wp2_with fail
  clear k1_0 k1_1 k1_2
  clear ku kv
  refine (on_v Kv.k1 _ _ k2x k2y false _ (Hwe.out.got 3 (Nat.le_of_ble_eq_true rfl)).nk.1 (Hwe.out.got 2 (Nat.le_of_ble_eq_true rfl)).nk.1).mono ?_
  rw [hon2]
  rintro e wf ⟨rfl, hB⟩
  have Hwf : Hid (Lf w wf [(wd.heap.size, [.slice none 0 0, .slice none 0 0, .bool false]), (wc.heap.size, [.slice s0 s1 s2, .slice t0 t1 t2, .bool false]), (wb.heap.size, [.slice (some ⟨gu, 0, none⟩) 8 u2, .slice (some ⟨gv, 0, none⟩) 8 v2, .bool false]), (wa.heap.size, [.slice x0 x1 x2, .slice y0 y1 y2, .bool false])] [] [(.slice t0 t1 t2, k2y), (.slice s0 s1 s2, k2x), (.slice (some ⟨gv, 0, none⟩) 8 v2, k2y), (.slice (some ⟨gu, 0, none⟩) 8 u2, k2x), (.slice y0 y1 y2, k256y), (.slice x0 x1 x2, k256x)]) := (Hwe.out.below hB)
  clear hB
  go_wp2_with fail
  refine (base_v Kv.k2 wf).mono ?_
  rintro e wg ⟨r, rfl, hPa⟩
  obtain ⟨⟨xv, yv, rfl, m1, m2, _⟩, hB⟩ := hPa
  have Hwg : Hid (Lf w wg [(wd.heap.size, [.slice none 0 0, .slice none 0 0, .bool false]), (wc.heap.size, [.slice s0 s1 s2, .slice t0 t1 t2, .bool false]), (wb.heap.size, [.slice (some ⟨gu, 0, none⟩) 8 u2, .slice (some ⟨gv, 0, none⟩) 8 v2, .bool false]), (wa.heap.size, [.slice x0 x1 x2, .slice y0 y1 y2, .bool false])] [] [(yv, k384y), (xv, k384x), (.slice t0 t1 t2, k2y), (.slice s0 s1 s2, k2x), (.slice (some ⟨gv, 0, none⟩) 8 v2, k2y), (.slice (some ⟨gu, 0, none⟩) 8 u2, k2x), (.slice y0 y1 y2, k256y), (.slice x0 x1 x2, k256x)]) := (((Hwf.out.below hB).res m1).res m2)
  clear m1 m2 hB
  go_wp2_with fail
  refine (on_v Kv.k2 _ _ k384x k384y false _ (Hwg.out.got 1 (Nat.le_of_ble_eq_true rfl)).nk.1 (Hwg.out.got 0 (Nat.le_of_ble_eq_true rfl)).nk.1).mono ?_
  rw [Kv.k2.base_on]
  rintro e wh ⟨rfl, hB⟩
  have Hwh : Hid (Lf w wh [(wd.heap.size, [.slice none 0 0, .slice none 0 0, .bool false]), (wc.heap.size, [.slice s0 s1 s2, .slice t0 t1 t2, .bool false]), (wb.heap.size, [.slice (some ⟨gu, 0, none⟩) 8 u2, .slice (some ⟨gv, 0, none⟩) 8 v2, .bool false]), (wa.heap.size, [.slice x0 x1 x2, .slice y0 y1 y2, .bool false])] [] [(yv, k384y), (xv, k384x), (.slice t0 t1 t2, k2y), (.slice s0 s1 s2, k2x), (.slice (some ⟨gv, 0, none⟩) 8 v2, k2y), (.slice (some ⟨gu, 0, none⟩) 8 u2, k2x), (.slice y0 y1 y2, k256y), (.slice x0 x1 x2, k256x)]) := (Hwg.out.below hB)
  clear hB
  go_wp2
  go_ret
  exact ⟨rfl, Hwh.out.bel⟩
end Go.Proofs.YtnifjhmjpbihoaaGreatDoor
