import Derived.Test.YtkfchdmlemcjhaaDoorKfY
import Derived.Test.YtkfchdmlemcjhaaDoorMaZ
namespace Go.Proofs.YtkfchdmlemcjhaaDoor
open Go.RowKit Go.Shelf
set_option maxRecDepth 100000

/-- An entry with marks behind its lists. -/
def MX (B : Nat) (w : World) (x : Ex) : Prop := ∃ gv ga : Nat, x.va = some ⟨gv, 0, none⟩ ∧ x.aa = some ⟨ga, 0, none⟩ ∧ NO B w (.slice (some ⟨gv, 0, none⟩) (x.e.val.length + 2) x.vc) (x.e.val ++ [mkN, mkN]) ∧ OT B w (.slice (some ⟨ga, 0, none⟩) (x.e.ops.length + 2) x.ac) (x.e.ops ++ [mkT, mkT])
theorem MX.below {B : Nat} {w w' : World} {x : Ex} (h : MX B w x) (hb : Below w.heap.size w w') : MX B w' x := by
  obtain ⟨gv, ga, e1, e2, h1, h2⟩ := h
  exact ⟨gv, ga, e1, e2, own_below h1 hb (Nat.le_refl _), own_below h2 hb (Nat.le_refl _)⟩
theorem MX.grown {B B2 : Nat} {w w' : World} {x : Ex} {v : Value} {G : List Ex} (h : MX B w x) (hg : w.grownBy w' v.ownBlock) (hO : LO B2 w v G) : MX B w' x := by
  obtain ⟨gv, ga, e1, e2, h1, h2⟩ := h
  exact ⟨gv, ga, e1, e2, own_keep h1 fun g hg1 => hg.block g (h1.lt g hg1).2 (fun e => kinds_apart h1 hO (by decide) hg1 e.symm), own_keep h2 fun g hg1 => hg.block g (h2.lt g hg1).2 (fun e => kinds_apart h2 hO (by decide) hg1 e.symm)⟩
theorem MX.rd {B : Nat} {w : World} {x : Ex} (h : MX B w x) : XR w x := by
  obtain ⟨gv, ga, e1, e2, h1, h2⟩ := h
  have t1 := nr_pre h1
  have t2 := tr_pre h2
  rw [← e1] at t1
  rw [← e2] at t2
  exact ⟨t1, t2, (fun e => by rw [e1] at e; cases e), (fun e => by rw [e2] at e; cases e)⟩

set_option maxHeartbeats 32000000 in
/-- twin: copies with marks behind their lists. -/
theorem twin16_any (ao : Option Addr) (cap : Nat) (l : List Ex) (w : World) (h : LR w ao cap l) (hl : l.length ≤ 100000000) (hb : ∀ x ∈ l, x.e.val.length ≤ 100000000 ∧ x.e.ops.length ≤ 100000000) :
    Calls Tryd.prog 5 #[.slice ao l.length cap] w fun r w' => (∃ (v : Value) (G : List Ex), r = .returned v ∧ LO w.heap.size w' v G ∧ G.map Ex.e = l.map Ex.e ∧ ∀ x ∈ G, MX w.heap.size w' x) ∧ Below w.heap.size w w' := by
  have H : Hid (∀ wq, Below w.heap.size w wq → LR wq ao cap l) := fun wq hq => h.below hq
  have HBd : Hid (∀ x ∈ l, x.e.val.length ≤ 100000000 ∧ x.e.ops.length ≤ 100000000) := hb
  have hgi : (Tryd.prog.info? 26).map (·.size) = some 10 := by kernel_rfl
  clear h hb
  go_enter Tryd.func5, Tryd.ntmps5
  go_wp2
  go_loopw [3, 4] (fun s3 s4 wx => ∃ k : Nat, s4 = .int .i64 k ∧ k ≤ l.length ∧ ∃ G : List Ex, Hid (LO w.heap.size wx s3 G ∧ G.map Ex.e = (l.take (k)).map Ex.e ∧ (∀ x ∈ G, MX w.heap.size wx x) ∧ Below w.heap.size w wx)) (fun _ s _ => l.length - (intOf s).toNat)
  case atStart => exact ⟨0, rfl, Nat.zero_le _, [], World.ownsRow_nil _ _ _ _, rfl, fun x hx => by simp at hx, Below.refl _ _⟩
  case round =>
    obtain ⟨k, rfl, hk, G, HI⟩ := hrel
    obtain ⟨a3, c3, e3, _, _⟩ := own_slice HI.out.1
    subst e3
    by_cases hlt : k < l.length
    · have q0 : decide ((k : Int) < (l.length : Int)) = true := decide_eq_true (by omega)
      have q1 : (k : Int) < (l.length : Int) := by omega
      obtain ⟨x, hx⟩ : ∃ x, l[k]? = some x := ⟨_, List.getElem?_eq_getElem hlt⟩
      have hxm := List.mem_of_getElem? hx
      have HXB : Hid (x.e.val.length ≤ 100000000 ∧ x.e.ops.length ≤ 100000000) := HBd.out x hxm
      have HGL : Hid (G.length = k) := by
        have h1 := congrArg List.length HI.out.2.1
        rw [List.length_map, List.length_map, List.length_take] at h1
        show _ = _
        omega
      have HTK : Hid ((l.take (k + 1)).map Ex.e = (l.take k).map Ex.e ++ [x.e]) := by
        show _ = _
        rw [List.take_add_one, hx, List.map_append]
        rfl
      obtain ⟨g1, o1, rfl, p0, p1, p2, p3, p4, p5, p6, p7, p8, p9⟩ := (H.out wr HI.out.2.2.2).at hx
      have HEC : Hid (∀ wq, Below wr.heap.size wr wq → wq.cell? ⟨g1, o1 + k * 10, none⟩ = some (.slice x.va x.e.val.length x.vc) ∧ wq.cell? ⟨g1, o1 + k * 10 + 8, none⟩ = some (.slice x.aa x.e.ops.length x.ac) ∧ XR wq x) := fun wq hq => by
        have hR := H.out wq (HI.out.2.2.2.trans (hq.mono HI.out.2.2.2.size))
        obtain ⟨g2, o2, e2, r0, r1, r2, r3, r4, r5, r6, r7, r8, r9⟩ := hR.at hx
        cases e2
        exact ⟨r0, r8, hR.rd x hxm⟩
      obtain ⟨wA, hwA⟩ : ∃ y, wr.alloc (.cells #[.slice x.va x.e.val.length x.vc, .int .i64 x.e.kty, .string ⟨x.e.kid.toArray⟩, .bool x.e.hKid, .string ⟨x.e.use.toArray⟩, .bool x.e.hUse, .string ⟨x.e.alg.toArray⟩, .bool x.e.hAlg, .slice x.aa x.e.ops.length x.ac, .bool x.e.hOps] 26) = y := ⟨_, rfl⟩
      have hA : Below wr.heap.size wr wA := by rw [← hwA]; exact alloc_below _ _
      have HbA : Hid (Bl 26 wA wr.heap.size [.slice x.va x.e.val.length x.vc, .int .i64 x.e.kty, .string ⟨x.e.kid.toArray⟩, .bool x.e.hKid, .string ⟨x.e.use.toArray⟩, .bool x.e.hUse, .string ⟨x.e.alg.toArray⟩, .bool x.e.hAlg, .slice x.aa x.e.ops.length x.ac, .bool x.e.hOps]) := by rw [← hwA]; exact alloc_bl _ _ _
      have HA : Hid (Below wr.heap.size wr wA) := hA
      have HWA : Hid (wr.alloc (.cells #[.slice x.va x.e.val.length x.vc, .int .i64 x.e.kty, .string ⟨x.e.kid.toArray⟩, .bool x.e.hKid, .string ⟨x.e.use.toArray⟩, .bool x.e.hUse, .string ⟨x.e.alg.toArray⟩, .bool x.e.hAlg, .slice x.aa x.e.ops.length x.ac, .bool x.e.hOps] 26) = wA) := hwA
      clear hx hxm hA hwA
      go_upto_region 6 with fail
      rw [HWA.out]
      clear HWA p0 p1 p2 p3 p4 p5 p6 p7 p8 p9
      obtain ⟨p0, p8, RX⟩ := HEC.out wA HA.out
      go_upto_region 8 with (at_builtin; refine append_nds rfl (.tmp 18) (.tmp 23) rfl wr.heap.size (.slice none 0 0) [] rfl (World.ownsRow_nil _ _ _ _) x.va x.vc x.e.val rfl RX.nr RX.vn (by have := HXB.out.1; simp only [List.length_nil]; omega) HA.out.size ?_; intro v1 w1 ho1 hg1)
      have hO0 : NO wr.heap.size wA (.slice none 0 0) [] := World.ownsRow_nil _ _ _ _
      have HB1 : Hid (Below wr.heap.size wr w1) := HA.out.grown hg1 HA.out.size (own_block hO0)
      have Hb1 : Hid (Bl 26 w1 wr.heap.size [.slice x.va x.e.val.length x.vc, .int .i64 x.e.kty, .string ⟨x.e.kid.toArray⟩, .bool x.e.hKid, .string ⟨x.e.use.toArray⟩, .bool x.e.hUse, .string ⟨x.e.alg.toArray⟩, .bool x.e.hAlg, .slice x.aa x.e.ops.length x.ac, .bool x.e.hOps]) := bl_grown' HbA.out hg1 (block_apart hO0 HbA.out (by decide))
      have HO1 : Hid (NO wr.heap.size w1 v1 x.e.val) := ho1
      obtain ⟨a1, c1, e1, _, _⟩ := own_slice ho1
      have e1' : v1 = .slice a1 x.e.val.length c1 := e1
      subst e1'
      clear ho1 hg1 hO0 HA HbA p0 p8 RX e1
      obtain ⟨wB, hwB⟩ : ∃ y, w1.alloc (.cells #[.int .i64 0, .string ⟨#[]⟩, .string ⟨#[109, 97, 114, 107]⟩, .bool false, .int .i64 0, .int .i64 0, .int .i64 0, .string ⟨#[]⟩, .string ⟨#[109, 97, 114, 107]⟩, .bool false, .int .i64 0, .int .i64 0] 36) = y := ⟨_, rfl⟩
      have hA := alloc_below w1 (.cells #[.int .i64 0, .string ⟨#[]⟩, .string ⟨#[109, 97, 114, 107]⟩, .bool false, .int .i64 0, .int .i64 0, .int .i64 0, .string ⟨#[]⟩, .string ⟨#[109, 97, 114, 107]⟩, .bool false, .int .i64 0, .int .i64 0] 36)
      rw [hwB] at hA
      have hL : NO w1.heap.size wB (.slice (some ⟨w1.heap.size, 0, none⟩) 2 2) ([mkN, mkN] ++ []) := by rw [← hwB]; exact World.ownsRow_lit w1 #[.int .i64 0, .string ⟨#[]⟩, .string ⟨#[109, 97, 114, 107]⟩, .bool false, .int .i64 0, .int .i64 0, .int .i64 0, .string ⟨#[]⟩, .string ⟨#[109, 97, 114, 107]⟩, .bool false, .int .i64 0, .int .i64 0] 2 (Nat.le_refl _) (by decide) rfl
      have hR := nr_pre hL
      have HO2 : Hid (NO wr.heap.size wB (.slice a1 x.e.val.length c1) x.e.val) := own_below HO1.out hA (Nat.le_refl _)
      have HB2 : Hid (Below wr.heap.size wr wB) := HB1.out.trans (hA.mono HB1.out.size)
      have Hb2 : Hid (Bl 26 wB wr.heap.size [.slice x.va x.e.val.length x.vc, .int .i64 x.e.kty, .string ⟨x.e.kid.toArray⟩, .bool x.e.hKid, .string ⟨x.e.use.toArray⟩, .bool x.e.hUse, .string ⟨x.e.alg.toArray⟩, .bool x.e.hAlg, .slice x.aa x.e.ops.length x.ac, .bool x.e.hOps]) := Hb1.out.below hA Hb1.out.lt
      have HWB : Hid (w1.alloc (.cells #[.int .i64 0, .string ⟨#[]⟩, .string ⟨#[109, 97, 114, 107]⟩, .bool false, .int .i64 0, .int .i64 0, .int .i64 0, .string ⟨#[]⟩, .string ⟨#[109, 97, 114, 107]⟩, .bool false, .int .i64 0, .int .i64 0] 36) = wB) := hwB
      clear hwB hA hL HO1 HB1 Hb1
      go_upto_region 9 with (at_builtin; rw [HWB.out]; clear HWB; refine append_nds rfl (.tmp 25) (.tmp 28) rfl wr.heap.size (.slice a1 x.e.val.length c1) x.e.val rfl HO2.out (some ⟨w1.heap.size, 0, none⟩) 2 [mkN, mkN] rfl hR (fun h => by cases h) (by have := HXB.out.1; simp only [List.length_cons, List.length_nil]; omega) HB2.out.size ?_; intro v2 w2 ho2 hg2)
      have HB3 : Hid (Below wr.heap.size wr w2) := HB2.out.grown hg2 HB2.out.size (own_block HO2.out)
      have Hb3 : Hid (Bl 26 w2 wr.heap.size [.slice x.va x.e.val.length x.vc, .int .i64 x.e.kty, .string ⟨x.e.kid.toArray⟩, .bool x.e.hKid, .string ⟨x.e.use.toArray⟩, .bool x.e.hUse, .string ⟨x.e.alg.toArray⟩, .bool x.e.hAlg, .slice x.aa x.e.ops.length x.ac, .bool x.e.hOps]) := bl_grown' Hb2.out hg2 (block_apart HO2.out Hb2.out (by decide))
      have ho3 : NO wr.heap.size w2 v2 (x.e.val ++ [mkN, mkN]) := ho2
      obtain ⟨a2, cv, e2, hcv, hgv⟩ := own_slice ho2
      obtain ⟨gv, e2b⟩ := hgv (by rw [List.length_append]; exact Nat.lt_of_lt_of_le (by decide : 0 < 2) (Nat.le_add_left _ _))
      subst e2b
      subst e2
      rw [show (x.e.val ++ [mkN, mkN]).length = x.e.val.length + 2 from by rw [List.length_append]; rfl] at ho3 hcv
      have HN3 : Hid (NO wr.heap.size w2 (.slice (some ⟨gv, 0, none⟩) (x.e.val.length + 2) cv) (x.e.val ++ [mkN, mkN])) := ho3
      have HCV : Hid (x.e.val.length + 2 ≤ cv) := hcv
      clear ho2 hg2 HO2 HB2 Hb2 hR ho3 hcv hgv
      obtain ⟨p0, p8, RX⟩ := HEC.out w2 HB3.out
      go_upto_region 11 with (at_builtin; refine append_txt rfl (.tmp 30) (.tmp 35) rfl wr.heap.size (.slice none 0 0) [] rfl (World.ownsRow_nil _ _ _ _) x.aa x.ac x.e.ops rfl RX.tr RX.an (by have := HXB.out.2; simp only [List.length_nil]; omega) HB3.out.size ?_; intro v4 w4 ho4 hg4)
      have hO0 : OT wr.heap.size w2 (.slice none 0 0) [] := World.ownsRow_nil _ _ _ _
      have HB4 : Hid (Below wr.heap.size wr w4) := HB3.out.grown hg4 HB3.out.size (own_block hO0)
      have Hb4 : Hid (Bl 26 w4 wr.heap.size [.slice x.va x.e.val.length x.vc, .int .i64 x.e.kty, .string ⟨x.e.kid.toArray⟩, .bool x.e.hKid, .string ⟨x.e.use.toArray⟩, .bool x.e.hUse, .string ⟨x.e.alg.toArray⟩, .bool x.e.hAlg, .slice x.aa x.e.ops.length x.ac, .bool x.e.hOps]) := bl_grown' Hb3.out hg4 (block_apart hO0 Hb3.out (by decide))
      have HN4 : Hid (NO wr.heap.size w4 (.slice (some ⟨gv, 0, none⟩) (x.e.val.length + 2) cv) (x.e.val ++ [mkN, mkN])) := own_keep HN3.out fun g hg => hg4.block g (HN3.out.lt g hg).2 (fun e => by cases e)
      have HO4 : Hid (OT wr.heap.size w4 v4 x.e.ops) := ho4
      obtain ⟨a4, c4, e4, _, _⟩ := own_slice ho4
      have e4' : v4 = .slice a4 x.e.ops.length c4 := e4
      subst e4'
      clear ho4 hg4 hO0 HB3 Hb3 HN3 p0 p8 RX e4
      obtain ⟨wC, hwC⟩ : ∃ y, w4.alloc (.cells #[.string ⟨#[109, 97, 114, 107]⟩, .string ⟨#[109, 97, 114, 107]⟩] 9) = y := ⟨_, rfl⟩
      have hA := alloc_below w4 (.cells #[.string ⟨#[109, 97, 114, 107]⟩, .string ⟨#[109, 97, 114, 107]⟩] 9)
      rw [hwC] at hA
      have hL : OT w4.heap.size wC (.slice (some ⟨w4.heap.size, 0, none⟩) 2 2) ([mkT, mkT] ++ []) := by rw [← hwC]; exact World.ownsRow_lit w4 #[.string ⟨#[109, 97, 114, 107]⟩, .string ⟨#[109, 97, 114, 107]⟩] 2 (Nat.le_refl _) (by decide) rfl
      have hR := tr_pre hL
      have HO5 : Hid (OT wr.heap.size wC (.slice a4 x.e.ops.length c4) x.e.ops) := own_below HO4.out hA (Nat.le_refl _)
      have HN5 : Hid (NO wr.heap.size wC (.slice (some ⟨gv, 0, none⟩) (x.e.val.length + 2) cv) (x.e.val ++ [mkN, mkN])) := own_below HN4.out hA (Nat.le_refl _)
      have HB5 : Hid (Below wr.heap.size wr wC) := HB4.out.trans (hA.mono HB4.out.size)
      have Hb5 : Hid (Bl 26 wC wr.heap.size [.slice x.va x.e.val.length x.vc, .int .i64 x.e.kty, .string ⟨x.e.kid.toArray⟩, .bool x.e.hKid, .string ⟨x.e.use.toArray⟩, .bool x.e.hUse, .string ⟨x.e.alg.toArray⟩, .bool x.e.hAlg, .slice x.aa x.e.ops.length x.ac, .bool x.e.hOps]) := Hb4.out.below hA Hb4.out.lt
      have HWC : Hid (w4.alloc (.cells #[.string ⟨#[109, 97, 114, 107]⟩, .string ⟨#[109, 97, 114, 107]⟩] 9) = wC) := hwC
      clear hwC hA hL HO4 HB4 Hb4 HN4
      go_upto_region 12 with (at_builtin; rw [HWC.out]; clear HWC; refine append_txt rfl (.tmp 37) (.tmp 38) rfl wr.heap.size (.slice a4 x.e.ops.length c4) x.e.ops rfl HO5.out (some ⟨w4.heap.size, 0, none⟩) 2 [mkT, mkT] rfl hR (fun h => by cases h) (by have := HXB.out.2; simp only [List.length_cons, List.length_nil]; omega) HB5.out.size ?_; intro v6 w6 ho6 hg6)
      have hB6 : Below wr.heap.size wr w6 := HB5.out.grown hg6 HB5.out.size (own_block HO5.out)
      have hb6 : Bl 26 w6 wr.heap.size [.slice x.va x.e.val.length x.vc, .int .i64 x.e.kty, .string ⟨x.e.kid.toArray⟩, .bool x.e.hKid, .string ⟨x.e.use.toArray⟩, .bool x.e.hUse, .string ⟨x.e.alg.toArray⟩, .bool x.e.hAlg, .slice x.aa x.e.ops.length x.ac, .bool x.e.hOps] := bl_grown' Hb5.out hg6 (block_apart HO5.out Hb5.out (by decide))
      have hN6 : NO wr.heap.size w6 (.slice (some ⟨gv, 0, none⟩) (x.e.val.length + 2) cv) (x.e.val ++ [mkN, mkN]) := own_keep HN5.out fun g hg => hg6.block g (HN5.out.lt g hg).2 (fun e => kinds_apart HN5.out HO5.out (by decide) hg e.symm)
      have ho7 : OT wr.heap.size w6 v6 (x.e.ops ++ [mkT, mkT]) := ho6
      obtain ⟨a6, ca, e6, hca, hga⟩ := own_slice ho6
      obtain ⟨ga, e6b⟩ := hga (by rw [List.length_append]; exact Nat.lt_of_lt_of_le (by decide : 0 < 2) (Nat.le_add_left _ _))
      subst e6b
      subst e6
      rw [show (x.e.ops ++ [mkT, mkT]).length = x.e.ops.length + 2 from by rw [List.length_append]; rfl] at ho7 hca
      obtain ⟨p0, _, _⟩ := HEC.out w6 hB6
      have kf0 : w6.frozen? ⟨wr.heap.size, 0, none⟩ = false := hb6.frozen 0
      have km0 : w6.cell? ⟨wr.heap.size, 0, none⟩ = some (.slice x.va x.e.val.length x.vc) := hb6.cell 0 (Nat.le_of_ble_eq_true rfl)
      obtain ⟨w7, hw7⟩ : ∃ y, w6.setCell ⟨wr.heap.size, 0, none⟩ (.slice (some ⟨gv, 0, none⟩) x.e.val.length cv) = y := ⟨_, rfl⟩
      have hb7 : Bl 26 w7 wr.heap.size [.slice (some ⟨gv, 0, none⟩) x.e.val.length cv, .int .i64 x.e.kty, .string ⟨x.e.kid.toArray⟩, .bool x.e.hKid, .string ⟨x.e.use.toArray⟩, .bool x.e.hUse, .string ⟨x.e.alg.toArray⟩, .bool x.e.hAlg, .slice x.aa x.e.ops.length x.ac, .bool x.e.hOps] := by rw [← hw7]; exact hb6.set 0 _
      have hN7 : NO wr.heap.size w7 (.slice (some ⟨gv, 0, none⟩) (x.e.val.length + 2) cv) (x.e.val ++ [mkN, mkN]) := by rw [← hw7]; exact own_set hN6 hb6 (by decide)
      have hT7 : OT wr.heap.size w7 (.slice (some ⟨ga, 0, none⟩) (x.e.ops.length + 2) ca) (x.e.ops ++ [mkT, mkT]) := by rw [← hw7]; exact own_set ho7 hb6 (by decide)
      have hB7 : Below wr.heap.size wr w7 := by rw [← hw7]; exact hB6.setCell (Nat.le_refl _) _
      obtain ⟨_, p8, _⟩ := HEC.out w7 hB7
      have kf8 : w7.frozen? ⟨wr.heap.size, 8, none⟩ = false := hb7.frozen 8
      have km8 : w7.cell? ⟨wr.heap.size, 8, none⟩ = some (.slice x.aa x.e.ops.length x.ac) := hb7.cell 8 (Nat.le_of_ble_eq_true rfl)
      obtain ⟨w8, hw8⟩ : ∃ y, w7.setCell ⟨wr.heap.size, 8, none⟩ (.slice (some ⟨ga, 0, none⟩) x.e.ops.length ca) = y := ⟨_, rfl⟩
      have hb8 : Bl 26 w8 wr.heap.size [.slice (some ⟨gv, 0, none⟩) x.e.val.length cv, .int .i64 x.e.kty, .string ⟨x.e.kid.toArray⟩, .bool x.e.hKid, .string ⟨x.e.use.toArray⟩, .bool x.e.hUse, .string ⟨x.e.alg.toArray⟩, .bool x.e.hAlg, .slice (some ⟨ga, 0, none⟩) x.e.ops.length ca, .bool x.e.hOps] := by rw [← hw8]; exact hb7.set 8 _
      have hN8 : NO wr.heap.size w8 (.slice (some ⟨gv, 0, none⟩) (x.e.val.length + 2) cv) (x.e.val ++ [mkN, mkN]) := by rw [← hw8]; exact own_set hN7 hb7 (by decide)
      have hT8 : OT wr.heap.size w8 (.slice (some ⟨ga, 0, none⟩) (x.e.ops.length + 2) ca) (x.e.ops ++ [mkT, mkT]) := by rw [← hw8]; exact own_set hT7 hb7 (by decide)
      have hB8 : Below wr.heap.size wr w8 := by rw [← hw8]; exact hB7.setCell (Nat.le_refl _) _
      have HX7 : Hid (w6.setCell ⟨wr.heap.size, 0, none⟩ (.slice (some ⟨gv, 0, none⟩) x.e.val.length cv) = w7) := hw7
      have HX8 : Hid (w7.setCell ⟨wr.heap.size, 8, none⟩ (.slice (some ⟨ga, 0, none⟩) x.e.ops.length ca) = w8) := hw8
      have hcv0 : x.e.val.length ≤ cv := by have := HCV.out; omega
      have hcvI : (x.e.val.length : Int) ≤ (cv : Int) := by omega
      have hca0 : x.e.ops.length ≤ ca := by omega
      have hcaI : (x.e.ops.length : Int) ≤ (ca : Int) := by omega
      have hws : w.heap.size ≤ wr.heap.size := HI.out.2.2.2.size
      have hMY : MX w.heap.size w8 ⟨x.e, some ⟨gv, 0, none⟩, cv, some ⟨ga, 0, none⟩, ca⟩ := ⟨gv, ga, rfl, rfl, own_mono2 hN8 hws, own_mono2 hT8 hws⟩
      have HI8 : Hid (LO w.heap.size w8 (.slice a3 G.length c3) G ∧ G.map Ex.e = (l.take k).map Ex.e ∧ (∀ x ∈ G, MX w.heap.size w8 x) ∧ Below w.heap.size w w8) := ⟨own_below HI.out.1 hB8 (Nat.le_refl _), HI.out.2.1, fun y hy => (HI.out.2.2.1 y hy).below hB8, HI.out.2.2.2.trans (hB8.mono hws)⟩
      have HMY : Hid (MX w.heap.size w8 ⟨x.e, some ⟨gv, 0, none⟩, cv, some ⟨ga, 0, none⟩, ca⟩) := hMY
      have p1 := bl_rng2 hb8
      clear hw7 hw8 hb7 hN7 hT7 hB7 hb8 hN8 hT8 hB8 hb6 hN6 hB6 ho6 ho7 hg6 hMY HO5 HN5 HB5 Hb5 hR HI HEC hga hca HCV
      go_upto_region 13 with fail
      rw [HX7.out]
      clear HX7 kf0 km0 p0
      go_upto_region 14 with fail
      rw [HX8.out]
      clear HX8 kf8 km8 p8 hcv0 hcvI hca0 hcaI
      obtain ⟨w9, hw9⟩ : ∃ y, w8.alloc (.cells #[.slice (some ⟨gv, 0, none⟩) x.e.val.length cv, .int .i64 x.e.kty, .string ⟨x.e.kid.toArray⟩, .bool x.e.hKid, .string ⟨x.e.use.toArray⟩, .bool x.e.hUse, .string ⟨x.e.alg.toArray⟩, .bool x.e.hAlg, .slice (some ⟨ga, 0, none⟩) x.e.ops.length ca, .bool x.e.hOps] 26) = y := ⟨_, rfl⟩
      have hA9 := alloc_below w8 (.cells #[.slice (some ⟨gv, 0, none⟩) x.e.val.length cv, .int .i64 x.e.kty, .string ⟨x.e.kid.toArray⟩, .bool x.e.hKid, .string ⟨x.e.use.toArray⟩, .bool x.e.hUse, .string ⟨x.e.alg.toArray⟩, .bool x.e.hAlg, .slice (some ⟨ga, 0, none⟩) x.e.ops.length ca, .bool x.e.hOps] 26)
      rw [hw9] at hA9
      have hb9 : Bl 26 w9 w8.heap.size (xC ⟨x.e, some ⟨gv, 0, none⟩, cv, some ⟨ga, 0, none⟩, ca⟩) := by rw [← hw9]; exact alloc_bl _ _ _
      have HR9 : Hid (∀ j u, (xC ⟨x.e, some ⟨gv, 0, none⟩, cv, some ⟨ga, 0, none⟩, ca⟩)[j]? = some u → w9.cell? ((⟨w8.heap.size, 0, none⟩ : Addr).add j) = some u) := fun j u hu => by
        obtain ⟨hj, e⟩ := List.getElem?_eq_some_iff.1 hu
        rw [Addr.add_mid, Nat.zero_add, ← e]
        exact hb9.cell j hj
      have HI9 : Hid (LO w.heap.size w9 (.slice a3 G.length c3) G ∧ (∀ x ∈ G, MX w.heap.size w9 x) ∧ MX w.heap.size w9 ⟨x.e, some ⟨gv, 0, none⟩, cv, some ⟨ga, 0, none⟩, ca⟩ ∧ Below w.heap.size w w9) := ⟨own_below HI8.out.1 hA9 (Nat.le_refl _), fun y hy => (HI8.out.2.2.1 y hy).below hA9, HMY.out.below hA9, HI8.out.2.2.2.trans (hA9.mono HI8.out.2.2.2.size)⟩
      have HW9 : Hid (w8.alloc (.cells #[.slice (some ⟨gv, 0, none⟩) x.e.val.length cv, .int .i64 x.e.kty, .string ⟨x.e.kid.toArray⟩, .bool x.e.hKid, .string ⟨x.e.use.toArray⟩, .bool x.e.hUse, .string ⟨x.e.alg.toArray⟩, .bool x.e.hAlg, .slice (some ⟨ga, 0, none⟩) x.e.ops.length ca, .bool x.e.hOps] 26) = w9) := hw9
      have HGE : Hid (G.map Ex.e = (l.take k).map Ex.e) := HI8.out.2.1
      clear hw9 hA9 hb9 HI8 HMY
      go_upto_region 4 with (first | (refine wpList_load_mid rfl 26 (.tmp 5) rfl wr.heap.size 0 rfl [.slice (some ⟨gv, 0, none⟩) x.e.val.length cv, .int .i64 x.e.kty, .string ⟨x.e.kid.toArray⟩, .bool x.e.hKid, .string ⟨x.e.use.toArray⟩, .bool x.e.hUse, .string ⟨x.e.alg.toArray⟩, .bool x.e.hAlg, .slice (some ⟨ga, 0, none⟩) x.e.ops.length ca, .bool x.e.hOps] _ p1 Tryd.underlying26 rfl hgi ?_) | (at_builtin; rw [HW9.out]; clear HW9; refine append_en16 rfl (.tmp 58) (.tmp 60) rfl w.heap.size (.slice a3 G.length c3) G rfl HI9.out.1 ⟨w8.heap.size, 0, none⟩ 1 ⟨x.e, some ⟨gv, 0, none⟩, cv, some ⟨ga, 0, none⟩, ca⟩ rfl HR9.out (by have := HGL.out; omega) HI9.out.2.2.2.size ?_; intro vZ wZ hoZ hgZ) | fail)
      have HIZ : Hid (LO w.heap.size wZ vZ (G ++ [⟨x.e, some ⟨gv, 0, none⟩, cv, some ⟨ga, 0, none⟩, ca⟩]) ∧ (G ++ [(⟨x.e, some ⟨gv, 0, none⟩, cv, some ⟨ga, 0, none⟩, ca⟩ : Ex)]).map Ex.e = (l.take (k + 1)).map Ex.e ∧ (∀ z ∈ G ++ [(⟨x.e, some ⟨gv, 0, none⟩, cv, some ⟨ga, 0, none⟩, ca⟩ : Ex)], MX w.heap.size wZ z) ∧ Below w.heap.size w wZ) := by
        refine ⟨hoZ, ?_, fun y hy => ?_, HI9.out.2.2.2.grown hgZ HI9.out.2.2.2.size (own_block HI9.out.1)⟩
        · rw [List.map_append, HGE.out, HTK.out]; rfl
        · rcases List.mem_append.1 hy with hy | hy
          · exact (HI9.out.2.1 y hy).grown hgZ HI9.out.1
          · rw [List.mem_singleton.1 hy]; exact HI9.out.2.2.1.grown hgZ HI9.out.1
      clear hoZ hgZ HI9 HGE HTK p1 HR9
      go_wp2
      go_roundw
      case rel => exact ⟨k + 1, by go_num, by omega, _, HIZ⟩
      case measure => simp [intOf]; omega
    · have q0 : decide ((k : Int) < (l.length : Int)) = false := decide_eq_false (by omega)
      obtain rfl : k = l.length := by omega
      have HI2 : Hid (LO w.heap.size wr (.slice a3 G.length c3) G ∧ G.map Ex.e = l.map Ex.e ∧ (∀ x ∈ G, MX w.heap.size wr x) ∧ Below w.heap.size w wr) := by
        have h := HI.out
        rw [List.take_length] at h
        exact h
      clear HI
      go_wp2
      go_ret
      exact ⟨⟨_, G, rfl, HI2.out.1, HI2.out.2.1, HI2.out.2.2.1⟩, HI2.out.2.2.2⟩

end Go.Proofs.YtkfchdmlemcjhaaDoor
