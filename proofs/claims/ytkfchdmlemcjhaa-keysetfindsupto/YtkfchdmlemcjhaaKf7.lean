import Derived.Test.YtkfchdmlemcjhaaKf6
namespace Go.Proofs.Ytkfchdmlemcjhaa
open Go.RowKit Go.Shelf
set_option maxRecDepth 100000

theorem MX.setr {B : Nat} {w : World} {x : Ex} {b : Nat} {cs : List Value} {a : Array Value} (h : MX B w x) (hb : Bl 28 w b cs) : MX B (w.setRow b a) x := by
  obtain ⟨gv, ga, e1, e2, h1, h2⟩ := h
  exact ⟨gv, ga, e1, e2, own_setr h1 hb (by decide), own_setr h2 hb (by decide)⟩
theorem ansE_eq {k : List UInt8} {G l : List Ex} (he : G.map Ex.e = l.map Ex.e) : ansE k (es G) = ansE k (es l) := by unfold es; rw [he]
/-- What stands in the law. -/
structure FJ (w : World) (bX bY n : Nat) (v : Value) (G : List Ex) (wx : World) : Prop where
  bel : Below w.heap.size w wx
  bx : ∃ cs : List Value, cs.length = 10 ∧ Bl 28 wx bX cs
  by_ : ∃ cs : List Value, cs.length = 10 ∧ Bl 28 wx bY cs
  lo : LO w.heap.size wx v G
  mx : ∀ x ∈ G, MX w.heap.size wx x
  bd : ∀ x ∈ G, x.e.val.length ≤ 100000000 ∧ x.e.ops.length ≤ 100000000
  ln : G.length = n
  ap : (∀ g, v.ownBlock = some g → g ≠ bX ∧ g ≠ bY) ∧ bX ≠ bY ∧ w.heap.size ≤ bX ∧ w.heap.size ≤ bY
theorem FJ.below {w wx : World} {bX bY n : Nat} {v : Value} {G : List Ex} {wy : World} (h : FJ w bX bY n v G wx) (hb : Below wx.heap.size wx wy) : FJ w bX bY n v G wy :=
  ⟨h.bel.trans (hb.mono h.bel.size), h.bx.elim fun cs hc => ⟨cs, hc.1, hc.2.below hb hc.2.lt⟩, h.by_.elim fun cs hc => ⟨cs, hc.1, hc.2.below hb hc.2.lt⟩, own_below h.lo hb (Nat.le_refl _), fun x hx => (h.mx x hx).below hb, h.bd, h.ln, h.ap⟩
theorem FJ.setX {w wx : World} {bX bY n : Nat} {v : Value} {G : List Ex} (h : FJ w bX bY n v G wx) (x : Ex) : FJ w bX bY n v G (wx.setRow bX (xC x).toArray) ∧ Bl 28 (wx.setRow bX (xC x).toArray) bX (xC x) := by
  obtain ⟨cs, hc, hb⟩ := h.bx
  have h2 : Bl 28 (wx.setRow bX (xC x).toArray) bX (xC x) := set_bl2 hb
  exact ⟨⟨setRow_below2 _ h.bel h.ap.2.2.1, ⟨_, rfl, h2⟩, h.by_.elim fun ds hd => ⟨ds, hd.1, bl_otherF hd.2 h.ap.2.1.symm⟩, own_keep h.lo fun g hg => setRow_other _ _ _ _ (h.ap.1 g hg).1, fun y hy => (h.mx y hy).setr hb, h.bd, h.ln, h.ap⟩, h2⟩
theorem FJ.setY {w wx : World} {bX bY n : Nat} {v : Value} {G : List Ex} (h : FJ w bX bY n v G wx) (x : Ex) : FJ w bX bY n v G (wx.setRow bY (xC x).toArray) ∧ Bl 28 (wx.setRow bY (xC x).toArray) bY (xC x) := by
  obtain ⟨cs, hc, hb⟩ := h.by_
  have h2 : Bl 28 (wx.setRow bY (xC x).toArray) bY (xC x) := set_bl2 hb
  exact ⟨⟨setRow_below2 _ h.bel h.ap.2.2.2, h.bx.elim fun ds hd => ⟨ds, hd.1, bl_otherF hd.2 h.ap.2.1⟩, ⟨_, rfl, h2⟩, own_keep h.lo fun g hg => setRow_other _ _ _ _ (h.ap.1 g hg).2, fun y hy => (h.mx y hy).setr hb, h.bd, h.ln, h.ap⟩, h2⟩
/-- An entry of the row is written over by another one of it. -/
theorem FJ.shift {w wx : World} {bX bY n g c : Nat} {G : List Ex} (h : FJ w bX bY n (.slice (some ⟨g, 0, none⟩) n c) G wx) (k : Nat) (x : Ex) (hk : k < n) (hx : x ∈ G) : FJ w bX bY n (.slice (some ⟨g, 0, none⟩) n c) (G.set k x) (wx.setCells g (k * 10) (xC x)) ∧ wx.there g (k * 10) 10 := by
  have hO := h.lo
  have hN2 := h.lo
  unfold LO at hN2
  rw [h.ln] at hN2
  obtain ⟨z, hz⟩ : ∃ z, G[k]? = some z := ⟨_, List.getElem?_eq_getElem (by rw [h.ln]; exact hk)⟩
  have hd : G.drop k = z :: G.drop (k + 1) := by
    rw [List.drop_eq_getElem_cons (by rw [h.ln]; exact hk)]
    rw [List.getElem?_eq_getElem (by rw [h.ln]; exact hk)] at hz
    rw [Option.some.inj hz]
  have hYk : G = G.take k ++ (z :: G.drop (k + 1)) := by rw [← hd, List.take_append_drop]
  have hs := own_setCells (xC x) _ (k * 10) wx hN2
  have hsn := xCs_set (G.take k) z x (G.drop (k + 1))
  rw [List.length_take_of_le (by rw [h.ln]; omega), ← hYk] at hsn
  rw [hsn] at hs
  have hset : G.set k x = G.take k ++ (x :: G.drop (k + 1)) := by rw [List.set_eq_take_append_cons_drop, if_pos (by rw [h.ln]; exact hk)]
  have hln : (G.set k x).length = n := by rw [List.length_set, h.ln]
  have hg2 := h.ap.1 g rfl
  have hmem : ∀ y ∈ G.set k x, y ∈ G := fun y hy => by
    rcases List.mem_or_eq_of_mem_set hy with h1 | h1
    · exact h1
    · rw [h1]; exact hx
  refine ⟨⟨h.bel.grown hs.2 h.bel.size (fun j hj => by cases hj; exact (hO.lt g rfl).1), h.bx.elim fun cs hc => ⟨cs, hc.1, bl_grown' hc.2 hs.2 (fun e => hg2.1 (Option.some.inj e))⟩, h.by_.elim fun cs hc => ⟨cs, hc.1, bl_grown' hc.2 hs.2 (fun e => hg2.2 (Option.some.inj e))⟩, ?_, fun y hy => (h.mx y (hmem y hy)).grown (v := .slice (some ⟨g, 0, none⟩) n c) hs.2 hO, fun y hy => h.bd y (hmem y hy), hln, h.ap⟩, own_there hN2 (by rw [xCs_length, h.ln]; omega)⟩
  unfold LO
  rw [hln, hset]
  exact hs.1
theorem FJ.lr {w wx : World} {bX bY n c : Nat} {a : Option Addr} {G : List Ex} (h : FJ w bX bY n (.slice a n c) G wx) : LR wx a c G := by
  obtain ⟨a1, c1, e, h1, _⟩ := h.lo.lr (fun x hx => (h.mx x hx).rd)
  injection e with e1 e2 e3
  subst e1
  subst e3
  exact h1

set_option maxHeartbeats 64000000 in
/-- The law. -/
theorem finds16_any (ao : Option Addr) (cap : Nat) (l : List Ex) (k : List UInt8) (w : World) (h : LR w ao cap l) (hl : l.length ≤ 10000000) (hb : ∀ x ∈ l, x.e.val.length ≤ 100000000 ∧ x.e.ops.length ≤ 100000000) :
    Calls Try.prog 3 #[.slice ao l.length cap, .string ⟨k.toArray⟩] w fun r w' => r = .returned (.bool true) ∧ Below w.heap.size w w' := by
  have CT := twin16_any ao cap l w h (by omega) hb
  have H : Hid (∀ wq, Below w.heap.size w wq → LR wq ao cap l) := fun wq hq => h.below hq
  have HBd : Hid (∀ x ∈ l, x.e.val.length ≤ 100000000 ∧ x.e.ops.length ≤ 100000000) := hb
  have hgi : (Try.prog.info? 28).map (·.size) = some 10 := by kernel_rfl
  obtain ⟨A, hA⟩ : ∃ A, ansE k (es l) = A := ⟨_, rfl⟩
  obtain ⟨AE, Ac⟩ := A
  have HA : Hid (ansE k (es l) = (AE, Ac)) := hA
  have qA : ((Ac : Int) != Ac) = false := by simp
  clear h hb hA
  go_enter Try.func3, Try.ntmps3
  go_wp2_with fail
  refine CT.mono ?_
  clear CT
  rintro r w1 ⟨⟨v, G, rfl, hlo, hge, hmx⟩, hb1⟩
  obtain ⟨aG, cG, e1, _, _⟩ := own_slice hlo
  have e1' : v = .slice aG G.length cG := e1
  subst e1'
  have hGl : G.length = l.length := by have := congrArg List.length hge; simpa using this
  have hGb : ∀ x ∈ G, x.e.val.length ≤ 100000000 ∧ x.e.ops.length ≤ 100000000 := fun x hx => by
    have h1 : x.e ∈ l.map Ex.e := by rw [← hge]; exact List.mem_map.2 ⟨x, hx, rfl⟩
    obtain ⟨y, hy, e⟩ := List.mem_map.1 h1
    have := HBd.out y hy
    rw [e] at this
    exact this
  have hLR : LR w1 aG cG G := by
    obtain ⟨a, c, e, h1, _⟩ := hlo.lr (fun x hx => (hmx x hx).rd)
    cases e
    exact h1
  have CF := find_any aG cG G k w1 hLR (by omega) (fun x hx => by have := hGb x hx; omega)
  rw [ansE_eq hge, HA.out] at CF
  have HLO : Hid (LO w.heap.size w1 (.slice aG G.length cG) G) := hlo
  have HMX : Hid (∀ x ∈ G, MX w.heap.size w1 x) := hmx
  have HGE : Hid (G.map Ex.e = l.map Ex.e) := hge
  have HGB : Hid (∀ x ∈ G, x.e.val.length ≤ 100000000 ∧ x.e.ops.length ≤ 100000000) := hGb
  have HGL : Hid (G.length = l.length) := hGl
  have HB1 : Hid (Below w.heap.size w w1) := hb1
  have HGlt : Hid (∀ g, (Value.slice aG G.length cG).ownBlock = some g → g < w1.heap.size) := fun g hg => (hlo.lt g hg).2
  clear hlo hmx hge hGb hGl hb1 hLR e1
  go_wp2_with fail
  refine CF.mono ?_
  clear CF
  rintro r w2 ⟨⟨xp, rfl, hxe, ⟨_, hxn⟩, _, hxt⟩, hb2⟩
  have hxr := xr_of hxn hxt
  unfold xC
  (try dsimp only)
  obtain ⟨w3, hw3⟩ : ∃ y, w2.alloc (.cells #[.slice xp.va xp.e.val.length xp.vc, .int .i64 xp.e.kty, .string ⟨xp.e.kid.toArray⟩, .bool xp.e.hKid, .string ⟨xp.e.use.toArray⟩, .bool xp.e.hUse, .string ⟨xp.e.alg.toArray⟩, .bool xp.e.hAlg, .slice xp.aa xp.e.ops.length xp.ac, .bool xp.e.hOps] 28) = y := ⟨_, rfl⟩
  have hA3 := alloc_below w2 (.cells #[.slice xp.va xp.e.val.length xp.vc, .int .i64 xp.e.kty, .string ⟨xp.e.kid.toArray⟩, .bool xp.e.hKid, .string ⟨xp.e.use.toArray⟩, .bool xp.e.hUse, .string ⟨xp.e.alg.toArray⟩, .bool xp.e.hAlg, .slice xp.aa xp.e.ops.length xp.ac, .bool xp.e.hOps] 28)
  have hb3 : Bl 28 (w2.alloc (.cells #[.slice xp.va xp.e.val.length xp.vc, .int .i64 xp.e.kty, .string ⟨xp.e.kid.toArray⟩, .bool xp.e.hKid, .string ⟨xp.e.use.toArray⟩, .bool xp.e.hUse, .string ⟨xp.e.alg.toArray⟩, .bool xp.e.hAlg, .slice xp.aa xp.e.ops.length xp.ac, .bool xp.e.hOps] 28)) w2.heap.size (xC xp) := alloc_bl _ _ _
  rw [hw3] at hA3 hb3
  obtain ⟨bX, hbX⟩ : ∃ b, w2.heap.size = b := ⟨_, rfl⟩
  rw [hbX] at hb3
  have hB13 : Below w1.heap.size w1 w3 := hb2.trans (hA3.mono hb2.size)
  have HB3 : Hid (Below w1.heap.size w1 w3) := hB13
  have HbX : Hid (Bl 28 w3 bX (xC xp)) := hb3
  have HXL : Hid (w1.heap.size ≤ bX) := by show _ ≤ _; rw [← hbX]; exact hb2.size
  have HXR : Hid (XR w3 xp) := hxr.below hA3
  have HXE : Hid (xp.e = AE) := hxe
  have HW3 : Hid (w2.alloc (.cells #[.slice xp.va xp.e.val.length xp.vc, .int .i64 xp.e.kty, .string ⟨xp.e.kid.toArray⟩, .bool xp.e.hKid, .string ⟨xp.e.use.toArray⟩, .bool xp.e.hUse, .string ⟨xp.e.alg.toArray⟩, .bool xp.e.hAlg, .slice xp.aa xp.e.ops.length xp.ac, .bool xp.e.hOps] 28) = w3) := hw3
  have HBX : Hid (w2.heap.size = bX) := hbX
  have HBw3 : Hid (Below w.heap.size w w3) := HB1.out.trans (hB13.mono HB1.out.size)
  have CF := rfind_any ao cap l k w3 (H.out w3 HBw3.out) (by omega)
  rw [HA.out] at CF
  clear hw3 hA3 hb3 hbX hB13 hxr hxe hb2 hxn hxt
  go_upto_region 3 with fail
  rw [HBX.out, HW3.out]
  clear HBX HW3
  go_wp2_with fail
  refine CF.mono ?_
  clear CF
  rintro r w4 ⟨⟨xq, rfl, hxe, hxr, _⟩, hb4⟩
  unfold xC
  (try dsimp only)
  obtain ⟨w5, hw5⟩ : ∃ y, w4.alloc (.cells #[.slice xq.va xq.e.val.length xq.vc, .int .i64 xq.e.kty, .string ⟨xq.e.kid.toArray⟩, .bool xq.e.hKid, .string ⟨xq.e.use.toArray⟩, .bool xq.e.hUse, .string ⟨xq.e.alg.toArray⟩, .bool xq.e.hAlg, .slice xq.aa xq.e.ops.length xq.ac, .bool xq.e.hOps] 28) = y := ⟨_, rfl⟩
  have hA5 := alloc_below w4 (.cells #[.slice xq.va xq.e.val.length xq.vc, .int .i64 xq.e.kty, .string ⟨xq.e.kid.toArray⟩, .bool xq.e.hKid, .string ⟨xq.e.use.toArray⟩, .bool xq.e.hUse, .string ⟨xq.e.alg.toArray⟩, .bool xq.e.hAlg, .slice xq.aa xq.e.ops.length xq.ac, .bool xq.e.hOps] 28)
  have hb5 : Bl 28 (w4.alloc (.cells #[.slice xq.va xq.e.val.length xq.vc, .int .i64 xq.e.kty, .string ⟨xq.e.kid.toArray⟩, .bool xq.e.hKid, .string ⟨xq.e.use.toArray⟩, .bool xq.e.hUse, .string ⟨xq.e.alg.toArray⟩, .bool xq.e.hAlg, .slice xq.aa xq.e.ops.length xq.ac, .bool xq.e.hOps] 28)) w4.heap.size (xC xq) := alloc_bl _ _ _
  rw [hw5] at hA5 hb5
  obtain ⟨bY, hbY⟩ : ∃ b, w4.heap.size = b := ⟨_, rfl⟩
  rw [hbY] at hb5
  have hB35 : Below w3.heap.size w3 w5 := hb4.trans (hA5.mono hb4.size)
  have hB15 : Below w1.heap.size w1 w5 := HB3.out.trans (hB35.mono HB3.out.size)
  have hXYl : bX < bY := by
    have h1 := HbX.out.lt
    have h2 := hb4.size
    rw [← hbY]
    omega
  have HFJ : Hid (FJ w bX bY G.length (.slice aG G.length cG) G w5) := ⟨HB1.out.trans (hB15.mono HB1.out.size), ⟨_, rfl, HbX.out.below hB35 HbX.out.lt⟩, ⟨_, rfl, hb5⟩, own_below HLO.out hB15 (Nat.le_refl _), fun x hx => (HMX.out x hx).below hB15, HGB.out, rfl, fun g hg => by
    have h1 := HGlt.out g hg
    have h2 := HXL.out
    exact ⟨by omega, by omega⟩, by omega, by have h1 := HB1.out.size; have h2 := HXL.out; omega, by have h1 := HB1.out.size; have h2 := HXL.out; omega⟩
  have hbx5 : Bl 28 w5 bX (xC xp) := HbX.out.below hB35 HbX.out.lt
  have HKX : Hid (∀ wq, Below w5.heap.size w5 wq → Bl 28 wq bX (xC xp) ∧ Bl 28 wq bY (xC xq) ∧ XR wq xp ∧ XR wq xq) := fun wq hq => ⟨hbx5.below hq hbx5.lt, hb5.below hq hb5.lt, (HXR.out.below hB35).below hq, (hxr.below hA5).below hq⟩
  have HXY : Hid (xp.e = xq.e) := by show _ = _; rw [HXE.out, hxe]
  have HW5 : Hid (w4.alloc (.cells #[.slice xq.va xq.e.val.length xq.vc, .int .i64 xq.e.kty, .string ⟨xq.e.kid.toArray⟩, .bool xq.e.hKid, .string ⟨xq.e.use.toArray⟩, .bool xq.e.hUse, .string ⟨xq.e.alg.toArray⟩, .bool xq.e.hAlg, .slice xq.aa xq.e.ops.length xq.ac, .bool xq.e.hOps] 28) = w5) := hw5
  have HBY : Hid (w4.heap.size = bY) := hbY
  have HXB : Hid (xp.e.val.length ≤ 1000000000 ∧ xp.e.ops.length ≤ 1000000000) := by
    show _ ∧ _
    rw [HXE.out]
    have h1 : (ansE k (es l)).1 = AE := by rw [HA.out]
    rw [← h1]
    exact ansE_bd 1000000000 k l (fun x hx => by have := HBd.out x hx; omega)
  have CL := left16_any w.heap.size aG cG G ao cap l w5 HFJ.out.lo HFJ.out.mx (H.out w5 HFJ.out.bel) HGE.out (by omega) HBd.out
  clear hw5 hA5 hb5 hbY hB35 hB15 hXYl hbx5 hxr hxe hb4 HbX HXR HXL HB3 HBw3 HMX HLO
  go_upto_region 4 with fail
  rw [HBY.out, HW5.out]
  clear HBY HW5
  go_wp2_with fail
  refine CL.mono ?_
  clear CL
  rintro r w6 ⟨rfl, hb6⟩
  have HFJ6 : Hid (FJ w bX bY G.length (.slice aG G.length cG) G w6) := HFJ.out.below hb6
  have px := bl_rng2 (HKX.out w6 hb6).1
  have pq := bl_rng2 (HKX.out w6 hb6).2.1
  have CS : Calls Try.prog 8 #[.agg (xC xp).toArray, .agg (xC xq).toArray] w6 fun r w' => r = .returned (.bool true) ∧ Below w6.heap.size w6 w' := by
    obtain ⟨e, va1, vc1, aa1, ac1⟩ := xp
    obtain ⟨e2, va2, vc2, aa2, ac2⟩ := xq
    have h1 := HXY.out
    dsimp only at h1
    subst h1
    exact esame_eq e va1 vc1 aa1 ac1 va2 vc2 aa2 ac2 w6 (HKX.out w6 hb6).2.2.1 (HKX.out w6 hb6).2.2.2 HXB.out.1 (Nat.le_trans HXB.out.2 (by decide))
  unfold xC at CS px pq
  (try dsimp only at CS)
  clear hb6 HFJ
  go_wp2_with (first | (refine wpList_load_midG rfl 28 (.tmp 6) rfl bX 0 rfl [.slice xp.va xp.e.val.length xp.vc, .int .i64 xp.e.kty, .string ⟨xp.e.kid.toArray⟩, .bool xp.e.hKid, .string ⟨xp.e.use.toArray⟩, .bool xp.e.hUse, .string ⟨xp.e.alg.toArray⟩, .bool xp.e.hAlg, .slice xp.aa xp.e.ops.length xp.ac, .bool xp.e.hOps] _ px Try.underlying28 rfl hgi ?_) | (refine wpList_load_midG rfl 28 (.tmp 8) rfl bY 0 rfl [.slice xq.va xq.e.val.length xq.vc, .int .i64 xq.e.kty, .string ⟨xq.e.kid.toArray⟩, .bool xq.e.hKid, .string ⟨xq.e.use.toArray⟩, .bool xq.e.hUse, .string ⟨xq.e.alg.toArray⟩, .bool xq.e.hAlg, .slice xq.aa xq.e.ops.length xq.ac, .bool xq.e.hOps] _ pq Try.underlying28 rfl hgi ?_) | fail)
  refine CS.mono ?_
  clear CS px pq
  rintro r w7 ⟨rfl, hb7⟩
  have HFJ : Hid (FJ w bX bY G.length (.slice aG G.length cG) G w7) := HFJ6.out.below hb7
  clear hb7 HFJ6 HKX HXE HXY HXB HGlt HB1 HGE HBd H qA HA
  go_wp2
  have HGS : Hid (G.length ≤ 100000000) := by show _ ≤ _; have := HGL.out; omega
  clear HGL
  go_loopw [10] (fun s10 wx => ∃ i : Nat, s10 = .int .i64 i ∧ i ≤ G.length ∧ ∃ G2 : List Ex, Hid (FJ w bX bY G.length (.slice aG G.length cG) G2 wx)) (fun s _ => G.length - (intOf s).toNat)
  case atStart => exact ⟨0, rfl, Nat.zero_le _, G, HFJ⟩
  case round =>
    clear HFJ
    obtain ⟨i, rfl, hi, G2, HI⟩ := hrel
    have hgs := HGS.out
    by_cases hlt : i + 1 < G.length
    · have q0 : decide ((i : Int) + 1 < (G.length : Int)) = true := decide_eq_true (by omega)
      have q1 : (i : Int) + 1 < (G.length : Int) := by omega
      have q2 : (i : Int) < (G.length : Int) := by omega
      obtain ⟨g, rfl⟩ : ∃ g, aG = some ⟨g, 0, none⟩ := by
        obtain ⟨a, c, e, _, hg⟩ := own_slice HI.out.lo
        injection e with e1 e2 e3
        subst e1
        exact hg (by rw [HI.out.ln]; omega)
      obtain ⟨x, hx⟩ : ∃ x, G2[i + 1]? = some x := ⟨_, List.getElem?_eq_getElem (by rw [HI.out.ln]; exact hlt)⟩
      obtain ⟨p0, p1, p2, p3, p4, p5, p6, p7, p8, p9⟩ := HI.out.lo.cells HI.out.ln hx ((i + 1) * 10) rfl
      have hs := HI.out.shift i x (by omega) (List.mem_of_getElem? hx)
      obtain ⟨wn, hwn⟩ : ∃ y, wr.setCells g (i * 10) (xC x) = y := ⟨_, rfl⟩
      rw [hwn] at hs
      have HSn : Hid (FJ w bX bY G.length (.slice (some ⟨g, 0, none⟩) G.length cG) (G2.set i x) wn) := hs.1
      have HTh : Hid (wr.there g (i * 10) 10) := hs.2
      have HW : Hid (wr.setCells g (i * 10) (#[.slice x.va x.e.val.length x.vc, .int .i64 x.e.kty, .string ⟨x.e.kid.toArray⟩, .bool x.e.hKid, .string ⟨x.e.use.toArray⟩, .bool x.e.hUse, .string ⟨x.e.alg.toArray⟩, .bool x.e.hAlg, .slice x.aa x.e.ops.length x.ac, .bool x.e.hOps] : Array Value).toList = wn) := hwn
      clear hx hs hwn HI
      go_wp2_with (refine wpList_store_mid rfl 28 (.tmp 54) (.tmp 53) rfl g (i * 10) #[.slice x.va x.e.val.length x.vc, .int .i64 x.e.kty, .string ⟨x.e.kid.toArray⟩, .bool x.e.hKid, .string ⟨x.e.use.toArray⟩, .bool x.e.hUse, .string ⟨x.e.alg.toArray⟩, .bool x.e.hAlg, .slice x.aa x.e.ops.length x.ac, .bool x.e.hOps] rfl (by first | rfl | simp) HTh.out hgi (by simp [Value.oneCell']) ?_; rw [HW.out]; clear HW HTh)
      go_roundw
      case rel => exact ⟨i + 1, by go_num, by omega, _, HSn⟩
      case measure => simp [intOf]; omega
    · have q0 : decide ((i : Int) + 1 < (G.length : Int)) = false := decide_eq_false (by omega)
      obtain ⟨A2, hA2⟩ : ∃ A, ansE k (es G2) = A := ⟨_, rfl⟩
      obtain ⟨AE2, Ac2⟩ := A2
      have C := rfind_any aG cG G2 k wr HI.out.lr (by rw [HI.out.ln]; omega)
      rw [HI.out.ln, hA2] at C
      have HA2 : Hid (ansE k (es G2) = (AE2, Ac2)) := hA2
      have qA2 : ((Ac2 : Int) == Ac2) = true := by simp
      have HEB : Hid (AE2.val.length ≤ 100000000 ∧ AE2.ops.length ≤ 100000000) := by
        have h := ansE_bd 100000000 k G2 HI.out.bd
        rw [hA2] at h
        exact h
      clear hA2
      go_wp2_with fail
      refine C.mono ?_
      clear C
      rintro r w9 ⟨⟨xy, rfl, hye, hyr, hmem⟩, hb9⟩
      unfold xC
      (try dsimp only)
      have hF9 := HI.out.below hb9
      obtain ⟨cs, hcs, hbo⟩ := hF9.by_
      obtain ⟨wz, hwz⟩ : ∃ y, w9.setRow bY (xC xy).toArray = y := ⟨_, rfl⟩
      have hS := hF9.setY xy
      rw [hwz] at hS
      have HFz : Hid (FJ w bX bY G.length (.slice aG G.length cG) G2 wz) := hS.1
      have hbz := hS.2
      have HRz : Hid (XR wz xy) := by
        rcases hmem with h | h
        · exact (hS.1.mx xy h).rd
        · rw [h]; exact zeroX_rd _
      have HYE : Hid (xy.e = AE2) := hye
      have HBO : Hid (Bl 28 w9 bY cs) := hbo
      have HCS : Hid (cs.toArray.size = (xC xy).toArray.size) := by show _ = _; rw [List.size_toArray, hcs]; rfl
      have HWz : Hid (w9.setRow bY (xC xy).toArray = wz) := hwz
      have pz := bl_rng2 hbz
      unfold xC at pz
      obtain ⟨w11, hw11⟩ : ∃ y, wz.alloc (.cells #[.slice xy.va xy.e.val.length xy.vc, .int .i64 xy.e.kty, .string ⟨xy.e.kid.toArray⟩, .bool xy.e.hKid, .string ⟨xy.e.use.toArray⟩, .bool xy.e.hUse, .string ⟨xy.e.alg.toArray⟩, .bool xy.e.hAlg, .slice xy.aa xy.e.ops.length xy.ac, .bool xy.e.hOps] 28) = y := ⟨_, rfl⟩
      have hA11 := alloc_below wz (.cells #[.slice xy.va xy.e.val.length xy.vc, .int .i64 xy.e.kty, .string ⟨xy.e.kid.toArray⟩, .bool xy.e.hKid, .string ⟨xy.e.use.toArray⟩, .bool xy.e.hUse, .string ⟨xy.e.alg.toArray⟩, .bool xy.e.hAlg, .slice xy.aa xy.e.ops.length xy.ac, .bool xy.e.hOps] 28)
      have hb11 : Bl 28 (wz.alloc (.cells #[.slice xy.va xy.e.val.length xy.vc, .int .i64 xy.e.kty, .string ⟨xy.e.kid.toArray⟩, .bool xy.e.hKid, .string ⟨xy.e.use.toArray⟩, .bool xy.e.hUse, .string ⟨xy.e.alg.toArray⟩, .bool xy.e.hAlg, .slice xy.aa xy.e.ops.length xy.ac, .bool xy.e.hOps] 28)) wz.heap.size (xC xy) := alloc_bl _ _ _
      rw [hw11] at hA11 hb11
      have HF11 : Hid (FJ w bX bY G.length (.slice aG G.length cG) G2 w11) := HFz.out.below hA11
      have hLR : LR w11 (some ⟨wz.heap.size, 0, none⟩) 1 [xy] := ⟨Nat.le_refl _, .inr ⟨wz.heap.size, 0, rfl, hb11.lt, fun n x hx => by
        match n, hx with
        | 0, hx =>
          cases hx
          exact ⟨hb11.cell 0 (Nat.le_of_ble_eq_true rfl), hb11.cell 1 (Nat.le_of_ble_eq_true rfl), hb11.cell 2 (Nat.le_of_ble_eq_true rfl), hb11.cell 3 (Nat.le_of_ble_eq_true rfl), hb11.cell 4 (Nat.le_of_ble_eq_true rfl), hb11.cell 5 (Nat.le_of_ble_eq_true rfl), hb11.cell 6 (Nat.le_of_ble_eq_true rfl), hb11.cell 7 (Nat.le_of_ble_eq_true rfl), hb11.cell 8 (Nat.le_of_ble_eq_true rfl), hb11.cell 9 (Nat.le_of_ble_eq_true rfl)⟩⟩, fun x hx => by
        rw [List.mem_singleton.1 hx]
        exact HRz.out.below hA11⟩
      have CT := twin16_any (some ⟨wz.heap.size, 0, none⟩) 1 [xy] w11 hLR (Nat.le_of_ble_eq_true rfl) (fun x hx => by
        rw [List.mem_singleton.1 hx, HYE.out]
        exact HEB.out)
      have HW11 : Hid (wz.alloc (.cells #[.slice xy.va xy.e.val.length xy.vc, .int .i64 xy.e.kty, .string ⟨xy.e.kid.toArray⟩, .bool xy.e.hKid, .string ⟨xy.e.use.toArray⟩, .bool xy.e.hUse, .string ⟨xy.e.alg.toArray⟩, .bool xy.e.hAlg, .slice xy.aa xy.e.ops.length xy.ac, .bool xy.e.hOps] 28) = w11) := hw11
      clear hF9 hcs hbo hwz hS hbz hw11 hA11 hb11 hLR hye hyr hmem hb9 HI HFz HRz
      go_upto_region 11 with (refine wpList_store_row rfl 28 (.tmp 8) (.tmp 59) rfl bY (xC xy).toArray rfl rfl 28 cs.toArray HBO.out hgi HCS.out (by simp [xC, Value.oneCell']) ?_; rw [HWz.out]; clear HWz HBO HCS)
      go_wp2_with (first | (refine wpList_load_mid rfl 28 (.tmp 8) rfl bY 0 rfl [.slice xy.va xy.e.val.length xy.vc, .int .i64 xy.e.kty, .string ⟨xy.e.kid.toArray⟩, .bool xy.e.hKid, .string ⟨xy.e.use.toArray⟩, .bool xy.e.hUse, .string ⟨xy.e.alg.toArray⟩, .bool xy.e.hAlg, .slice xy.aa xy.e.ops.length xy.ac, .bool xy.e.hOps] _ pz Try.underlying28 rfl hgi ?_) | fail)
      rw [HW11.out]
      clear HW11
      refine CT.mono ?_
      clear CT pz
      rintro r w12 ⟨⟨v3, G3, rfl, hlo3, hge3, hmx3⟩, hb12⟩
      obtain ⟨yt, rfl⟩ : ∃ y, G3 = [y] := by
        have h1 := congrArg List.length hge3
        rw [List.length_map, List.length_map] at h1
        exact List.length_eq_one_iff.1 h1
      have hye : yt.e = xy.e := by
        have h1 := hge3
        simp only [List.map_cons, List.map_nil, List.cons.injEq, and_true] at h1
        exact h1
      have hmy := hmx3 yt (List.mem_singleton_self _)
      obtain ⟨a3, c3, e3, _, hg3⟩ := own_slice hlo3
      obtain ⟨g3, rfl⟩ := hg3 (Nat.le_of_ble_eq_true rfl)
      subst e3
      obtain ⟨r0, r1, r2, r3, r4, r5, r6, r7, r8, r9⟩ := hlo3.cells rfl (show [yt][0]? = some yt from rfl) 0 rfl
      simp only [Nat.zero_add] at r1 r2 r3 r4 r5 r6 r7 r8 r9
      have hF12 := HF11.out.below hb12
      obtain ⟨cs, hcs, hbo⟩ := hF12.by_
      obtain ⟨w13, hw13⟩ : ∃ y, w12.setRow bY (xC yt).toArray = y := ⟨_, rfl⟩
      have hS := hF12.setY yt
      have hm13 := hmy.setr (a := (xC yt).toArray) hbo
      rw [hw13] at hS hm13
      have HF13 : Hid (FJ w bX bY G.length (.slice aG G.length cG) G2 w13) := hS.1
      have HBY : Hid (∀ wq, Below w13.heap.size w13 wq → Bl 28 wq bY (xC yt) ∧ XR wq yt) := fun wq hq => ⟨hS.2.below hq hS.2.lt, hm13.rd.below hq⟩
      have HMT : Hid (∃ B, MX B w13 yt) := ⟨_, hm13⟩
      have HBO : Hid (Bl 28 w12 bY cs) := hbo
      have HCS : Hid (cs.toArray.size = (xC yt).toArray.size) := by show _ = _; rw [List.size_toArray, hcs]; rfl
      have HW13 : Hid (w12.setRow bY (xC yt).toArray = w13) := hw13
      have HYT : Hid (yt.e = AE2) := by show _ = _; rw [hye, HYE.out]
      have C := find_any aG cG G2 k w13 HF13.out.lr (by rw [HF13.out.ln]; omega) (fun x hx => by have := HF13.out.bd x hx; omega)
      rw [HF13.out.ln, HA2.out] at C
      clear hge3 hmx3 hlo3 hg3 hmy hF12 hcs hbo hS hm13 hw13 hb12 hye HF11 HYE
      go_upto_region 12 with (refine wpList_store_row rfl 28 (.tmp 8) (.tmp 65) rfl bY (xC yt).toArray rfl rfl 28 cs.toArray HBO.out hgi HCS.out (by simp [xC, Value.oneCell']) ?_; rw [HW13.out]; clear HW13 HBO HCS)
      clear r0 r1 r2 r3 r4 r5 r6 r7 r8 r9
      go_wp2_with fail
      refine C.mono ?_
      clear C
      rintro r w14 ⟨⟨xt, rfl, hxe, ⟨B1, hxn⟩, B2, hxt⟩, hb14⟩
      unfold xC
      (try dsimp only)
      have hF14 := HF13.out.below hb14
      obtain ⟨cs, hcs, hbo⟩ := hF14.bx
      obtain ⟨w15, hw15⟩ : ∃ y, w14.setRow bX (xC xt).toArray = y := ⟨_, rfl⟩
      have hS := hF14.setX xt
      have hn15 := own_setr (x := (xC xt).toArray) hxn hbo (by decide)
      have ht15 := own_setr (x := (xC xt).toArray) hxt hbo (by decide)
      obtain ⟨B3, hmt⟩ := HMT.out
      have hm15 := (hmt.below hb14).setr (a := (xC xt).toArray) hbo
      have hbY15 := bl_otherF (new := (xC xt).toArray) (HBY.out w14 hb14).1 hF14.ap.2.1.symm
      rw [hw15] at hS hn15 ht15 hm15 hbY15
      have hXR : XR w15 xt := xr_of hn15 ht15
      have hYR := hm15.rd
      have HBZ : Hid (Below w.heap.size w w15) := hS.1.bel
      have px := bl_rng2 hS.2
      have pq := bl_rng2 hbY15
      have CS : Calls Try.prog 8 #[.agg (xC xt).toArray, .agg (xC yt).toArray] w15 fun r w' => r = .returned (.bool true) ∧ Below w15.heap.size w15 w' := by
        have hbd := HEB.out
        have h1 : xt.e = yt.e := by rw [hxe, HYT.out]
        rw [← hxe] at hbd
        clear hn15 ht15 hxn hxt hm15 hS hbY15 px pq hmt HMT HBY HYT hxe
        obtain ⟨e, va1, vc1, aa1, ac1⟩ := xt
        obtain ⟨e2, va2, vc2, aa2, ac2⟩ := yt
        dsimp only at h1 hbd
        subst h1
        exact esame_eq e va1 vc1 aa1 ac1 va2 vc2 aa2 ac2 w15 hXR hYR (by omega) (by omega)
      have HBO : Hid (Bl 28 w14 bX cs) := hbo
      have HCS : Hid (cs.toArray.size = (xC xt).toArray.size) := by show _ = _; rw [List.size_toArray, hcs]; rfl
      have HW15 : Hid (w14.setRow bX (xC xt).toArray = w15) := hw15
      unfold xC at CS px pq
      (try dsimp only at CS)
      clear hF14 hcs hbo hS hn15 ht15 hmt hm15 hbY15 hw15 hXR hYR hxn hxt hxe hb14 HF13 HBY HMT HYT HEB
      go_upto_region 13 with (refine wpList_store_row rfl 28 (.tmp 6) (.tmp 70) rfl bX (xC xt).toArray rfl rfl 28 cs.toArray HBO.out hgi HCS.out (by simp [xC, Value.oneCell']) ?_; rw [HW15.out]; clear HW15 HBO HCS)
      go_wp2_with (first | (refine wpList_load_midG rfl 28 (.tmp 6) rfl bX 0 rfl [.slice xt.va xt.e.val.length xt.vc, .int .i64 xt.e.kty, .string ⟨xt.e.kid.toArray⟩, .bool xt.e.hKid, .string ⟨xt.e.use.toArray⟩, .bool xt.e.hUse, .string ⟨xt.e.alg.toArray⟩, .bool xt.e.hAlg, .slice xt.aa xt.e.ops.length xt.ac, .bool xt.e.hOps] _ px Try.underlying28 rfl hgi ?_) | (refine wpList_load_midG rfl 28 (.tmp 8) rfl bY 0 rfl [.slice yt.va yt.e.val.length yt.vc, .int .i64 yt.e.kty, .string ⟨yt.e.kid.toArray⟩, .bool yt.e.hKid, .string ⟨yt.e.use.toArray⟩, .bool yt.e.hUse, .string ⟨yt.e.alg.toArray⟩, .bool yt.e.hAlg, .slice yt.aa yt.e.ops.length yt.ac, .bool yt.e.hOps] _ pq Try.underlying28 rfl hgi ?_) | fail)
      refine CS.mono ?_
      clear CS px pq
      rintro r w16 ⟨rfl, hb16⟩
      have HBW : Hid (Below w.heap.size w w16) := HBZ.out.trans (hb16.mono HBZ.out.size)
      clear hb16 HBZ
      go_wp2
      go_ret
      exact ⟨rfl, HBW.out⟩

end Go.Proofs.Ytkfchdmlemcjhaa
