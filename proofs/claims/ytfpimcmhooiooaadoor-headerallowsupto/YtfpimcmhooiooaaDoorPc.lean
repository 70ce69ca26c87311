import Derived.Test.YtfpimcmhooiooaaDoorPb
import Derived.Deep.Onto
import Derived.Deep.CutRange
namespace Go.Proofs.YtfpimcmhooiooaaDoor
open Go.RowKit

theorem Bl.rangeP {t : TypeId} {w : World} {b : Nat} {vs : List Value} (h : Bl t w b vs) : w.rangeAt b 0 vs := fun j v hv => by
  obtain ⟨hj, e⟩ := List.getElem?_eq_some_iff.1 hv
  rw [Nat.zero_add, ← e]
  exact h.cell j hj
theorem OT.front {B : Nat} {w : World} {g c : Nat} {a b : List (List UInt8)} {n : Nat} (h : OT B w (.slice (some ⟨g, 0, none⟩) n c) (a ++ b)) : TR w (.slice (some ⟨g, 0, none⟩) a.length c) a (some ⟨g, 0, none⟩) c := by
  obtain ⟨x, c', e, hc, _⟩ := own_slice h
  cases e
  rw [List.length_append] at hc
  refine ⟨rfl, by omega, .inr ⟨g, 0, rfl, (h.lt g rfl).2, fun j hj => ?_⟩⟩
  rw [Nat.zero_add]
  refine (own_cell h j _ ?_).1
  rw [List.getElem?_map, List.getElem?_append_left hj, List.getElem?_eq_getElem hj, List.getD_eq_getElem?_getD, List.getElem?_eq_getElem hj]
  rfl
theorem OT.zero {B : Nat} {w : World} {v : Value} {l : List (List UInt8)} (h : OT B w v l) : OT 0 w v l := World.ownsRow.mono h (Nat.zero_le _)
theorem OT.low {B n : Nat} {w w' : World} {v : Value} {l : List (List UInt8)} (h : OT B w v l) (hb : Below n w w') (hn : w.heap.size ≤ n) : OT B w' v l := own_below h hb hn
theorem OT.set {B b : Nat} {w : World} {v : Value} {l : List (List UInt8)} (h : OT B w v l) (hne : v.ownBlock ≠ some b) (j : Nat) (u : Value) : OT B (w.setCell ⟨b, j, none⟩ u) v l :=
  own_keep h fun g hg => heap_setCell_other w _ g _ (fun e => hne (by rw [hg]; exact congrArg some e))
abbrev esT : List UInt8 := [69, 83, 50, 53, 54]
def esL (l : List (List UInt8)) (k : Nat) : List (List UInt8) := List.replicate k esT ++ (l.drop k ++ List.replicate 20 mkT)
theorem esL_len {l : List (List UInt8)} {k : Nat} (hk : k ≤ l.length) : (esL l k).length = l.length + 20 := by
  unfold esL
  simp
  omega
theorem esL_set {l : List (List UInt8)} {k : Nat} (hk : k < l.length) : ((esL l k).map tV).set k (tV esT) = (esL l (k + 1)).map tV := by
  rw [← List.map_set]
  congr 1
  unfold esL
  have e : l.drop k = l[k] :: l.drop (k + 1) := List.drop_eq_getElem_cons hk
  rw [List.set_append_right _ _ (by simp), List.length_replicate, Nat.sub_self, e, List.cons_append, List.set_cons_zero, List.replicate_succ' (n := k), List.append_assoc]
  rfl

set_option maxRecDepth 100000 in
set_option maxHeartbeats 32000000 in
theorem allows_any (ao : Option Addr) (cap : Nat) (l : List (List UInt8)) (iss : ByteArray) (hi : Bool) (aud : ByteArray) (ha : Bool) (ty : List UInt8) (wt : Bool) (lee : Int) (na : Option Addr) (nc : Nat) (nl : List (List UInt8)) (h : Hd) (w : World)
    (hR : TR w (.slice ao l.length cap) l ao cap) (hN : TR w (.slice na nl.length nc) nl na nc) (hl : l.length ≤ 9000000) (hnl : nl.length ≤ 9000000) (hA : Alg w) :
    Calls Tryd.prog 3 #[plV (.slice ao l.length cap) iss hi aud ha ty wt lee (.slice na nl.length nc), hdV h] w fun e w' => e = .returned (.bool true) ∧ Below w.heap.size w w' := by
  have HAq : Hid (∀ wq, Below w.heap.size w wq → Alg wq) := fun wq hq => hA.bel hq (Nat.le_refl _)
  have HTR : Hid (∀ wq, Below w.heap.size w wq → TR wq (.slice ao l.length cap) l ao cap) := fun wq hq => hR.below hq (Nat.le_refl _)
  have HTN : Hid (∀ wq, Below w.heap.size w wq → TR wq (.slice na nl.length nc) nl na nc) := fun wq hq => hN.below hq (Nat.le_refl _)
  have HAL : Hid (∀ (bo : Option Addr) (bc : Nat) (m : List (List UInt8)) (need : Value) wq, Below w.heap.size w wq → TR wq (.slice bo m.length bc) m bo bc → m.length ≤ 9000000 → Calls Tryd.prog 6 #[plV (.slice bo m.length bc) iss hi aud ha ty wt lee need, hdV h] wq fun e w' => e = .returned (.int .i64 (allowF m wt ty h : Nat)) ∧ Below wq.heap.size wq w') := fun bo bc m need wq hq hr hm => allow_any bo bc m iss hi aud ha ty wt lee need h wq hr (by omega) (HAq.out wq hq)
  have HRL : Hid (∀ (bo : Option Addr) (bc : Nat) (m : List (List UInt8)) (need : Value) wq, TR wq (.slice bo m.length bc) m bo bc → m.length ≤ 9000000 → Calls Tryd.prog 7 #[plV (.slice bo m.length bc) iss hi aud ha ty wt lee need, hdV h] wq fun e w' => e = .returned (.int .i64 (allowF m wt ty h : Nat)) ∧ Below wq.heap.size wq w') := fun bo bc m need wq hr hm => rallow_any bo bc m iss hi aud ha ty wt lee need h wq hr (by omega)
  obtain ⟨alg, kid, typ, has⟩ := h
  unfold plV hdV at HAL HRL
  unfold plV hdV
  dsimp only at HAL HRL ⊢
  obtain ⟨W, hW⟩ : ∃ W : World, W = (w.alloc (.cells (([.slice ao l.length cap, .string iss, .bool hi, .string aud, .bool ha, .string ⟨ty.toArray⟩, .bool wt, .int .i64 lee, .slice na nl.length nc] : List Value).toArray) 24)).alloc (.cells (([.int .i64 alg, .string ⟨kid.toArray⟩, .string ⟨typ.toArray⟩, .bool has] : List Value).toArray) 27) := ⟨_, rfl⟩
  have hB : Below w.heap.size w W := by rw [hW]; exact ((alloc_below _ _).mono (Nat.le_refl _)).trans ((alloc_below _ _).mono (by simp))
  have b1 : Bl 24 W w.heap.size [.slice ao l.length cap, .string iss, .bool hi, .string aud, .bool ha, .string ⟨ty.toArray⟩, .bool wt, .int .i64 lee, .slice na nl.length nc] := by
    rw [hW]
    exact (alloc_bl w _ _).below (alloc_below _ _) (by simp)
  have b2 : Bl 27 W (w.heap.size + 1) [.int .i64 alg, .string ⟨kid.toArray⟩, .string ⟨typ.toArray⟩, .bool has] := by
    have := alloc_bl (w.alloc (.cells (([.slice ao l.length cap, .string iss, .bool hi, .string aud, .bool ha, .string ⟨ty.toArray⟩, .bool wt, .int .i64 lee, .slice na nl.length nc] : List Value).toArray) 24)) [.int .i64 alg, .string ⟨kid.toArray⟩, .string ⟨typ.toArray⟩, .bool has] 27
    rw [hW]
    simpa using this
  have hs1 : w.heap.size < W.heap.size := b1.lt
  have hs2 : w.heap.size + 1 < W.heap.size := b2.lt
  have HP : Hid (∀ wq, Below W.heap.size W wq → Bl 24 wq w.heap.size [.slice ao l.length cap, .string iss, .bool hi, .string aud, .bool ha, .string ⟨ty.toArray⟩, .bool wt, .int .i64 lee, .slice na nl.length nc]) := fun wq hq => b1.below hq hs1
  have HH : Hid (∀ wq, Below W.heap.size W wq → Bl 27 wq (w.heap.size + 1) [.int .i64 alg, .string ⟨kid.toArray⟩, .string ⟨typ.toArray⟩, .bool has]) := fun wq hq => b2.below hq hs2
  have HB : Hid (∀ wq, Below W.heap.size W wq → Below w.heap.size w wq) := fun wq hq => hB.trans (hq.mono (Nat.le_of_lt hs1))
  have hcp : (Tryd.prog.info? 24).map (·.size) = some ([.slice ao l.length cap, .string iss, .bool hi, .string aud, .bool ha, .string ⟨ty.toArray⟩, .bool wt, .int .i64 lee, .slice na nl.length nc] : List Value).length := by kernel_rfl
  have hch : (Tryd.prog.info? 27).map (·.size) = some ([.int .i64 alg, .string ⟨kid.toArray⟩, .string ⟨typ.toArray⟩, .bool has] : List Value).length := by kernel_rfl
  have p0 := b1.rangeP
  obtain ⟨w1, hw1⟩ : ∃ w1 : World, W.alloc (.cells (([.slice ao l.length cap, .string iss, .bool hi, .string aud, .bool ha, .string ⟨ty.toArray⟩, .bool wt, .int .i64 lee, .slice na nl.length nc] : List Value).toArray) 24) = w1 := ⟨_, rfl⟩
  obtain ⟨qb, hqb⟩ : ∃ qb, W.heap.size = qb := ⟨_, rfl⟩
  have HQ1 : Hid (Bl 24 w1 qb [.slice ao l.length cap, .string iss, .bool hi, .string aud, .bool ha, .string ⟨ty.toArray⟩, .bool wt, .int .i64 lee, .slice na nl.length nc]) := by rw [← hw1, ← hqb]; exact alloc_bl _ _ _
  have HB1 : Hid (Below W.heap.size W w1) := by rw [← hw1]; exact alloc_below _ _
  have c0 : w1.cell? ⟨w.heap.size, 0, none⟩ = some (.slice ao l.length cap) := (HP.out w1 HB1.out).cell 0 (by simp)
  have C1 := lent_any ao cap l w1 (HTR.out w1 (HB.out w1 HB1.out)) (by omega)
  have HWe : Hid (W = (w.alloc (.cells (([.slice ao l.length cap, .string iss, .bool hi, .string aud, .bool ha, .string ⟨ty.toArray⟩, .bool wt, .int .i64 lee, .slice na nl.length nc] : List Value).toArray) 24)).alloc (.cells (([.int .i64 alg, .string ⟨kid.toArray⟩, .string ⟨typ.toArray⟩, .bool has] : List Value).toArray) 27)) := hW
  have HW1 : Hid (W.alloc (.cells (([.slice ao l.length cap, .string iss, .bool hi, .string aud, .bool ha, .string ⟨ty.toArray⟩, .bool wt, .int .i64 lee, .slice na nl.length nc] : List Value).toArray) 24) = w1) := hw1
  clear b1 b2 hB hs1 hs2 hA hR hN hW hw1
  go_enter Tryd.func3, Tryd.ntmps3
  go_upto_region 1 with fail
  rw [← HWe.out]
  clear HWe
  go_upto_region 2 with (refine wpList_load_mid rfl 24 (.tmp 2) rfl w.heap.size 0 rfl [.slice ao l.length cap, .string iss, .bool hi, .string aud, .bool ha, .string ⟨ty.toArray⟩, .bool wt, .int .i64 lee, .slice na nl.length nc] _ p0 Tryd.underlying24 rfl hcp ?_)
  rw [HW1.out]
  clear HW1 p0
  go_wp2_with fail
  refine C1.mono ?_
  clear C1
  rintro e w2 ⟨hB2, g1, c1, rfl, ho1⟩
  have hq1 : qb < w1.heap.size := HQ1.out.lt
  have hg1 : w1.heap.size ≤ g1 := (World.ownsRow.lt ho1 g1 rfl).1
  have HQ2 : Hid (Bl 24 w2 qb [.slice ao l.length cap, .string iss, .bool hi, .string aud, .bool ha, .string ⟨ty.toArray⟩, .bool wt, .int .i64 lee, .slice na nl.length nc]) := HQ1.out.below hB2 hq1
  have s2 : w2.cell? ⟨qb, 0, none⟩ = some (.slice ao l.length cap) := HQ2.out.cell 0 (by simp)
  have f2 := HQ2.out.frozen 0
  have HB2 : Hid (Below W.heap.size W w2) := HB1.out.trans (hB2.mono HB1.out.size)
  have HO2 : Hid (OT 0 w2 (.slice (some ⟨g1, 0, none⟩) (l.length + 20) c1) (l ++ List.replicate 20 mkT)) := OT.zero ho1
  clear hB2 ho1
  go_upto_region 3 with fail
  obtain ⟨w3, hw3⟩ : ∃ w3 : World, w2.setCell ⟨qb, 0, none⟩ (.slice (some ⟨g1, 0, none⟩) l.length c1) = w3 := ⟨_, rfl⟩
  rw [hw3]
  have HQ3 : Hid (Bl 24 w3 qb [.slice (some ⟨g1, 0, none⟩) l.length c1, .string iss, .bool hi, .string aud, .bool ha, .string ⟨ty.toArray⟩, .bool wt, .int .i64 lee, .slice na nl.length nc]) := by rw [← hw3]; exact HQ2.out.set 0 _
  have HB3 : Hid (Below W.heap.size W w3) := by rw [← hw3]; exact Below.setCell HB2.out (Nat.le_of_eq hqb) _
  have HO3 : Hid (OT 0 w3 (.slice (some ⟨g1, 0, none⟩) (l.length + 20) c1) (l ++ List.replicate 20 mkT)) := by rw [← hw3]; exact HO2.out.set (fun e => by have : g1 = qb := Option.some.inj e; omega) _ _
  have c8 : w3.cell? ⟨w.heap.size, 8, none⟩ = some (.slice na nl.length nc) := (HP.out w3 HB3.out).cell 8 (by simp)
  have C3 := lent_any na nc nl w3 (HTN.out w3 (HB.out w3 HB3.out)) (by omega)
  clear hw3 HQ2 HB2 HO2 s2 f2 c0
  go_wp2_with fail
  refine C3.mono ?_
  clear C3
  rintro e w4 ⟨hB4, g2, c2, rfl, ho2⟩
  have hq3 : qb < w3.heap.size := HQ3.out.lt
  have hg2 : w3.heap.size ≤ g2 := (World.ownsRow.lt ho2 g2 rfl).1
  have HQ4 : Hid (Bl 24 w4 qb [.slice (some ⟨g1, 0, none⟩) l.length c1, .string iss, .bool hi, .string aud, .bool ha, .string ⟨ty.toArray⟩, .bool wt, .int .i64 lee, .slice na nl.length nc]) := HQ3.out.below hB4 hq3
  have s4 : w4.cell? ⟨qb, 8, none⟩ = some (.slice na nl.length nc) := HQ4.out.cell 8 (by simp)
  have f4 := HQ4.out.frozen 8
  have HB4 : Hid (Below W.heap.size W w4) := HB3.out.trans (hB4.mono HB3.out.size)
  have HO4 : Hid (OT 0 w4 (.slice (some ⟨g1, 0, none⟩) (l.length + 20) c1) (l ++ List.replicate 20 mkT)) := HO3.out.low hB4 (Nat.le_refl _)
  have HN4 : Hid (OT 0 w4 (.slice (some ⟨g2, 0, none⟩) (nl.length + 20) c2) (nl ++ List.replicate 20 mkT)) := OT.zero ho2
  clear hB4 ho2 HQ3 HB3 HO3
  go_upto_region 4 with fail
  obtain ⟨w5, hw5⟩ : ∃ w5 : World, w4.setCell ⟨qb, 8, none⟩ (.slice (some ⟨g2, 0, none⟩) nl.length c2) = w5 := ⟨_, rfl⟩
  rw [hw5]
  have HQ5 : Hid (Bl 24 w5 qb [.slice (some ⟨g1, 0, none⟩) l.length c1, .string iss, .bool hi, .string aud, .bool ha, .string ⟨ty.toArray⟩, .bool wt, .int .i64 lee, .slice (some ⟨g2, 0, none⟩) nl.length c2]) := by rw [← hw5]; exact HQ4.out.set 8 _
  have HB5 : Hid (Below W.heap.size W w5) := by rw [← hw5]; exact Below.setCell HB4.out (Nat.le_of_eq hqb) _
  have HO5 : Hid (OT 0 w5 (.slice (some ⟨g1, 0, none⟩) (l.length + 20) c1) (l ++ List.replicate 20 mkT)) := by rw [← hw5]; exact HO4.out.set (fun e => by have : g1 = qb := Option.some.inj e; omega) _ _
  have HN5 : Hid (OT 0 w5 (.slice (some ⟨g2, 0, none⟩) (nl.length + 20) c2) (nl ++ List.replicate 20 mkT)) := by rw [← hw5]; exact HN4.out.set (fun e => by have : g2 = qb := Option.some.inj e; omega) _ _
  obtain ⟨E, hE⟩ : ∃ E, allowF l wt ty ⟨alg, kid, typ, has⟩ = E := ⟨_, rfl⟩
  have C5 := HAL.out (some ⟨g1, 0, none⟩) c1 l (.slice (some ⟨g2, 0, none⟩) nl.length c2) w5 (HB.out w5 HB5.out) HO5.out.front hl
  have r5 := HQ5.out.rangeP
  have h5 := (HH.out w5 HB5.out).rangeP
  have hc5 : (Tryd.prog.info? 24).map (·.size) = some ([.slice (some ⟨g1, 0, none⟩) l.length c1, .string iss, .bool hi, .string aud, .bool ha, .string ⟨ty.toArray⟩, .bool wt, .int .i64 lee, .slice (some ⟨g2, 0, none⟩) nl.length c2] : List Value).length := by kernel_rfl
  rw [hE] at C5
  clear hw5 HQ4 HB4 HO4 HN4 s4 f4 c8
  go_wp2_with (first | (refine wpList_load_mid rfl 24 (.tmp 5) rfl qb 0 rfl [.slice (some ⟨g1, 0, none⟩) l.length c1, .string iss, .bool hi, .string aud, .bool ha, .string ⟨ty.toArray⟩, .bool wt, .int .i64 lee, .slice (some ⟨g2, 0, none⟩) nl.length c2] _ r5 Tryd.underlying24 rfl hc5 ?_) | (refine wpList_load_mid rfl 27 (.tmp 3) rfl (w.heap.size + 1) 0 rfl [.int .i64 alg, .string ⟨kid.toArray⟩, .string ⟨typ.toArray⟩, .bool has] _ h5 Tryd.underlying27 rfl hch ?_))
  refine C5.mono ?_
  clear C5 r5 h5
  rintro e w6 ⟨rfl, hw6⟩
  have HB6 : Hid (Below W.heap.size W w6) := HB5.out.trans (hw6.mono HB5.out.size)
  have C6 := HRL.out ao cap l (.slice na nl.length nc) w6 (HTR.out w6 (HB.out w6 HB6.out)) hl
  rw [hE] at C6
  have p6 := (HP.out w6 HB6.out).rangeP
  have h6 := (HH.out w6 HB6.out).rangeP
  have hV6 : Below w5.heap.size w5 w6 := hw6
  have HV6 : Hid (Below w5.heap.size w5 w6) := hV6
  clear hw6 hV6 hE
  go_wp2_with (first | (refine wpList_load_mid rfl 24 (.tmp 2) rfl w.heap.size 0 rfl [.slice ao l.length cap, .string iss, .bool hi, .string aud, .bool ha, .string ⟨ty.toArray⟩, .bool wt, .int .i64 lee, .slice na nl.length nc] _ p6 Tryd.underlying24 rfl hcp ?_) | (refine wpList_load_mid rfl 27 (.tmp 3) rfl (w.heap.size + 1) 0 rfl [.int .i64 alg, .string ⟨kid.toArray⟩, .string ⟨typ.toArray⟩, .bool has] _ h6 Tryd.underlying27 rfl hch ?_))
  refine C6.mono ?_
  clear C6 p6 h6
  rintro e w7 ⟨rfl, hw7⟩
  have HV7 : Hid (Below w5.heap.size w5 w7) := HV6.out.trans (hw7.mono HV6.out.size)
  have HB7 : Hid (Below W.heap.size W w7) := HB6.out.trans (hw7.mono HB6.out.size)
  have HQ7 : Hid (Bl 24 w7 qb [.slice (some ⟨g1, 0, none⟩) l.length c1, .string iss, .bool hi, .string aud, .bool ha, .string ⟨ty.toArray⟩, .bool wt, .int .i64 lee, .slice (some ⟨g2, 0, none⟩) nl.length c2]) := HQ5.out.below HV7.out HQ5.out.lt
  have HO7 : Hid (OT 0 w7 (.slice (some ⟨g1, 0, none⟩) (l.length + 20) c1) (l ++ List.replicate 20 mkT)) := HO5.out.low HV7.out (Nat.le_refl _)
  have HN7 : Hid (OT 0 w7 (.slice (some ⟨g2, 0, none⟩) (nl.length + 20) c2) (nl ++ List.replicate 20 mkT)) := HN5.out.low HV7.out (Nat.le_refl _)
  have s70 : w7.cell? ⟨qb, 0, none⟩ = some (.slice (some ⟨g1, 0, none⟩) l.length c1) := HQ7.out.cell 0 (by simp)
  have s78 : w7.cell? ⟨qb, 8, none⟩ = some (.slice (some ⟨g2, 0, none⟩) nl.length c2) := HQ7.out.cell 8 (by simp)
  have c70 : w7.cell? ⟨w.heap.size, 0, none⟩ = some (.slice ao l.length cap) := (HP.out w7 HB7.out).cell 0 (by simp)
  have c78 : w7.cell? ⟨w.heap.size, 8, none⟩ = some (.slice na nl.length nc) := (HP.out w7 HB7.out).cell 8 (by simp)
  have C7 := whole_any g1 c1 ao cap l w7 HO7.out (HTR.out w7 (HB.out w7 HB7.out)) (by omega)
  have HC8 : Hid (∀ q, Calls Tryd.prog 8 #[.slice (some ⟨g2, 0, none⟩) nl.length c2, .slice na nl.length nc] (w7.drewN q) fun e w' => e = .returned (.bool true) ∧ ∃ q', w' = (w7.drewN q).drewN q') := fun q => whole_any g2 c2 na nc nl (w7.drewN q) HN7.out ((HTN.out w7 (HB.out w7 HB7.out)).below (below_drewN (Below.refl _ _) q) (Nat.le_refl _)) (by omega)
  have qE : ((E : Int) != (E : Int)) = false := by simp
  clear hw7 HQ5 HO5 HN5 HB5 HB6 HV6 HV7
  go_wp2_with fail
  refine C7.mono ?_
  clear C7
  rintro e w8 ⟨rfl, q, rfl⟩
  have s88 : (w7.drewN q).cell? ⟨qb, 8, none⟩ = some (.slice (some ⟨g2, 0, none⟩) nl.length c2) := s78
  have c88 : (w7.drewN q).cell? ⟨w.heap.size, 8, none⟩ = some (.slice na nl.length nc) := c78
  have C8 := HC8.out q
  clear HC8
  go_wp2_with fail
  refine C8.mono ?_
  clear C8
  rintro e w9 ⟨rfl, q', rfl⟩
  clear s70 s78 c70 c78 s88 c88
  have HO9 : Hid (OT 0 ((w7.drewN q).drewN q') (.slice (some ⟨g1, 0, none⟩) (l.length + 20) c1) (esL l 0)) := HO7.out
  have HQ9 : Hid (Bl 24 ((w7.drewN q).drewN q') qb [.slice (some ⟨g1, 0, none⟩) l.length c1, .string iss, .bool hi, .string aud, .bool ha, .string ⟨ty.toArray⟩, .bool wt, .int .i64 lee, .slice (some ⟨g2, 0, none⟩) nl.length c2]) := HQ7.out
  have HB9 : Hid (Below W.heap.size W ((w7.drewN q).drewN q')) := below_drewN (below_drewN HB7.out q) q'
  generalize (w7.drewN q).drewN q' = w9 at *
  clear HO7 HQ7 HB7 HN7
  go_wp2
  go_loopw [7] (fun s7 wx => ∃ k : Nat, s7 = .int .i64 k ∧ k ≤ l.length ∧ OT 0 wx (.slice (some ⟨g1, 0, none⟩) (l.length + 20) c1) (esL l k) ∧ Bl 24 wx qb [.slice (some ⟨g1, 0, none⟩) l.length c1, .string iss, .bool hi, .string aud, .bool ha, .string ⟨ty.toArray⟩, .bool wt, .int .i64 lee, .slice (some ⟨g2, 0, none⟩) nl.length c2] ∧ Below W.heap.size W wx) (fun x _ => l.length - (intOf x).toNat)
  case atStart => exact ⟨0, rfl, Nat.zero_le _, HO9.out, HQ9.out, HB9.out⟩
  case round =>
    obtain ⟨k, rfl, hk, hot, hbq, hBr⟩ := hrel
    have s0 : wr.cell? ⟨qb, 0, none⟩ = some (.slice (some ⟨g1, 0, none⟩) l.length c1) := hbq.cell 0 (by simp)
    have HO : Hid (OT 0 wr (.slice (some ⟨g1, 0, none⟩) (l.length + 20) c1) (esL l k)) := hot
    have HQ : Hid (Bl 24 wr qb [.slice (some ⟨g1, 0, none⟩) l.length c1, .string iss, .bool hi, .string aud, .bool ha, .string ⟨ty.toArray⟩, .bool wt, .int .i64 lee, .slice (some ⟨g2, 0, none⟩) nl.length c2]) := hbq
    have HBr : Hid (Below W.heap.size W wr) := hBr
    clear hot hbq hBr HO9 HQ9 HB9
    by_cases hlt : k < l.length
    · have q0 : decide ((k : Int) < (l.length : Int)) = true := decide_eq_true (by omega)
      have hk0 : (0 : Int) ≤ (k : Int) := by omega
      have hki : (k : Int) < (l.length : Int) := by omega
      have hOr : wr.ownsRow 0 9 1 (.slice (some ⟨g1, 0, none⟩) (l.length + 20) c1) (l.length + 20) ((esL l k).map tV) := by have := HO.out; unfold OT at this; rwa [esL_len hk] at this
      obtain ⟨y, hy⟩ : ∃ y, ((esL l k).map tV)[k]? = some (tV y) := by
        rw [List.getElem?_map, List.getElem?_eq_getElem (by rw [esL_len hk]; omega)]
        exact ⟨_, rfl⟩
      have e0 := (own_cell hOr k _ hy).1
      have e1 := (own_cell hOr k _ hy).2
      unfold tV at e0
      have hst := World.ownsRow.stored hOr k (tV esT)
      have HO2 : Hid (OT 0 (wr.setCell ⟨g1, k, none⟩ (.string { data := #[69, 83, 50, 53, 54] })) (.slice (some ⟨g1, 0, none⟩) (l.length + 20) c1) (esL l (k + 1))) := by
        show World.ownsRow _ _ _ _ _ _ _
        rw [esL_len (by omega), ← esL_set hlt]
        exact hst.1
      have HQ2 : Hid (Bl 24 (wr.setCell ⟨g1, k, none⟩ (.string { data := #[69, 83, 50, 53, 54] })) qb [.slice (some ⟨g1, 0, none⟩) l.length c1, .string iss, .bool hi, .string aud, .bool ha, .string ⟨ty.toArray⟩, .bool wt, .int .i64 lee, .slice (some ⟨g2, 0, none⟩) nl.length c2]) := HQ.out.but ((But.refl _ _).set k _) (by omega)
      have HB2 : Hid (Below W.heap.size W (wr.setCell ⟨g1, k, none⟩ (.string { data := #[69, 83, 50, 53, 54] }))) := Below.setCell HBr.out (by show W.heap.size ≤ g1; omega) _
      clear hOr hst hy
      go_wp2
      go_roundw
      case rel => exact ⟨k + 1, by go_num, by omega, HO2.out, HQ2.out, HB2.out⟩
      case measure => simp [intOf]; omega
    · have q0 : decide ((k : Int) < (l.length : Int)) = false := decide_eq_false (by omega)
      obtain rfl : k = l.length := by omega
      obtain ⟨L, hL⟩ : ∃ L, List.replicate l.length esT = L := ⟨_, rfl⟩
      have hLl : L.length = l.length := by rw [← hL]; simp
      have HOL : Hid (OT 0 wr (.slice (some ⟨g1, 0, none⟩) (l.length + 20) c1) (L ++ List.replicate 20 mkT)) := by
        have := HO.out
        unfold esL at this
        rw [List.drop_eq_nil_of_le (Nat.le_refl _), List.nil_append, hL] at this
        exact this
      have p9 := (HP.out wr HBr.out).rangeP
      obtain ⟨w10, hw10⟩ : ∃ w10 : World, wr.alloc (.cells (([.slice ao l.length cap, .string iss, .bool hi, .string aud, .bool ha, .string ⟨ty.toArray⟩, .bool wt, .int .i64 lee, .slice na nl.length nc] : List Value).toArray) 24) = w10 := ⟨_, rfl⟩
      obtain ⟨rb, hrb⟩ : ∃ rb, wr.heap.size = rb := ⟨_, rfl⟩
      have hB10 : Below wr.heap.size wr w10 := by rw [← hw10]; exact alloc_below _ _
      have HR10 : Hid (Bl 24 w10 rb [.slice ao l.length cap, .string iss, .bool hi, .string aud, .bool ha, .string ⟨ty.toArray⟩, .bool wt, .int .i64 lee, .slice na nl.length nc]) := by rw [← hw10, ← hrb]; exact alloc_bl _ _ _
      have HB10 : Hid (Below W.heap.size W w10) := HBr.out.trans (hB10.mono HBr.out.size)
      have HQ10 : Hid (Bl 24 w10 qb [.slice (some ⟨g1, 0, none⟩) l.length c1, .string iss, .bool hi, .string aud, .bool ha, .string ⟨ty.toArray⟩, .bool wt, .int .i64 lee, .slice (some ⟨g2, 0, none⟩) nl.length c2]) := HQ.out.below hB10 HQ.out.lt
      have HO10 : Hid (OT 0 w10 (.slice (some ⟨g1, 0, none⟩) (l.length + 20) c1) (L ++ List.replicate 20 mkT)) := HOL.out.low hB10 (Nat.le_refl _)
      have hqr : qb < rb := by have := HQ.out.lt; omega
      have hgr : g1 < rb := by have := (World.ownsRow.lt HO.out g1 rfl).2; omega
      have s10 : w10.cell? ⟨qb, 0, none⟩ = some (.slice (some ⟨g1, 0, none⟩) l.length c1) := HQ10.out.cell 0 (by simp)
      have C10 := lent_any (some ⟨g1, 0, none⟩) c1 L w10 HO10.out.front (by omega)
      rw [hLl] at C10
      have HW10 : Hid (wr.alloc (.cells (([.slice ao l.length cap, .string iss, .bool hi, .string aud, .bool ha, .string ⟨ty.toArray⟩, .bool wt, .int .i64 lee, .slice na nl.length nc] : List Value).toArray) 24) = w10) := hw10
      clear hw10 hB10 HO HOL
      go_upto_region 12 with (refine wpList_load_mid rfl 24 (.tmp 2) rfl w.heap.size 0 rfl [.slice ao l.length cap, .string iss, .bool hi, .string aud, .bool ha, .string ⟨ty.toArray⟩, .bool wt, .int .i64 lee, .slice na nl.length nc] _ p9 Tryd.underlying24 rfl hcp ?_)
      rw [HW10.out]
      clear HW10 p9
      go_wp2_with fail
      refine C10.mono ?_
      clear C10
      rintro e w11 ⟨hB11, g3, c3, rfl, ho3⟩
      have hr10 : rb < w10.heap.size := HR10.out.lt
      have hg3 : w10.heap.size ≤ g3 := (World.ownsRow.lt ho3 g3 rfl).1
      have HR11 : Hid (Bl 24 w11 rb [.slice ao l.length cap, .string iss, .bool hi, .string aud, .bool ha, .string ⟨ty.toArray⟩, .bool wt, .int .i64 lee, .slice na nl.length nc]) := HR10.out.below hB11 hr10
      have s11 : w11.cell? ⟨rb, 0, none⟩ = some (.slice ao l.length cap) := HR11.out.cell 0 (by simp)
      have f11 := HR11.out.frozen 0
      have HB11 : Hid (Below W.heap.size W w11) := HB10.out.trans (hB11.mono HB10.out.size)
      have HQ11 : Hid (Bl 24 w11 qb [.slice (some ⟨g1, 0, none⟩) l.length c1, .string iss, .bool hi, .string aud, .bool ha, .string ⟨ty.toArray⟩, .bool wt, .int .i64 lee, .slice (some ⟨g2, 0, none⟩) nl.length c2]) := HQ10.out.below hB11 HQ10.out.lt
      have HO11 : Hid (OT 0 w11 (.slice (some ⟨g1, 0, none⟩) (l.length + 20) c1) (L ++ List.replicate 20 mkT)) := HO10.out.low hB11 (Nat.le_refl _)
      have HP11 : Hid (OT 0 w11 (.slice (some ⟨g3, 0, none⟩) (l.length + 20) c3) (L ++ List.replicate 20 mkT)) := OT.zero ho3
      clear hB11 ho3 HR10 HB10 HQ10 HO10 s10
      go_upto_region 13 with fail
      obtain ⟨w12, hw12⟩ : ∃ w12 : World, w11.setCell ⟨rb, 0, none⟩ (.slice (some ⟨g3, 0, none⟩) l.length c3) = w12 := ⟨_, rfl⟩
      rw [hw12]
      have HR12 : Hid (Bl 24 w12 rb [.slice (some ⟨g3, 0, none⟩) l.length c3, .string iss, .bool hi, .string aud, .bool ha, .string ⟨ty.toArray⟩, .bool wt, .int .i64 lee, .slice na nl.length nc]) := by rw [← hw12]; exact HR11.out.set 0 _
      have HBW12 : Hid (Below W.heap.size W w12) := by rw [← hw12]; exact Below.setCell HB11.out (by show W.heap.size ≤ rb; omega) _
      have HQ12 : Hid (Bl 24 w12 qb [.slice (some ⟨g1, 0, none⟩) l.length c1, .string iss, .bool hi, .string aud, .bool ha, .string ⟨ty.toArray⟩, .bool wt, .int .i64 lee, .slice (some ⟨g2, 0, none⟩) nl.length c2]) := by rw [← hw12]; exact HQ11.out.but ((But.refl _ _).set 0 _) (by omega)
      have HO12 : Hid (OT 0 w12 (.slice (some ⟨g1, 0, none⟩) (l.length + 20) c1) (L ++ List.replicate 20 mkT)) := by rw [← hw12]; exact HO11.out.set (fun e => by have : g1 = rb := Option.some.inj e; omega) _ _
      have HP12 : Hid (OT 0 w12 (.slice (some ⟨g3, 0, none⟩) (l.length + 20) c3) (L ++ List.replicate 20 mkT)) := by rw [← hw12]; exact HP11.out.set (fun e => by have : g3 = rb := Option.some.inj e; omega) _ _
      have HB12 : Hid (Below w.heap.size w w12) := HB.out w12 HBW12.out
      have HQz : Hid (∀ wq, Below w12.heap.size w12 wq → Bl 24 wq qb [.slice (some ⟨g1, 0, none⟩) l.length c1, .string iss, .bool hi, .string aud, .bool ha, .string ⟨ty.toArray⟩, .bool wt, .int .i64 lee, .slice (some ⟨g2, 0, none⟩) nl.length c2]) := fun wq hq => HQ12.out.below hq HQ12.out.lt
      have HRz : Hid (∀ wq, Below w12.heap.size w12 wq → Bl 24 wq rb [.slice (some ⟨g3, 0, none⟩) l.length c3, .string iss, .bool hi, .string aud, .bool ha, .string ⟨ty.toArray⟩, .bool wt, .int .i64 lee, .slice na nl.length nc]) := fun wq hq => HR12.out.below hq HR12.out.lt
      have HHz : Hid (∀ wq, Below w12.heap.size w12 wq → Bl 27 wq (w.heap.size + 1) [.int .i64 alg, .string ⟨kid.toArray⟩, .string ⟨typ.toArray⟩, .bool has]) := fun wq hq => HH.out wq (HBW12.out.trans (hq.mono HBW12.out.size))
      have HSS : Hid (∀ wq, Below w12.heap.size w12 wq → (fun (w' : World) => w'.cell? ⟨qb, 0, none⟩ = some (.slice (some ⟨g1, 0, none⟩) l.length c1) ∧ w'.cell? ⟨qb, 1, none⟩ = some (.string iss) ∧ w'.cell? ⟨qb, 2, none⟩ = some (.bool hi) ∧ w'.cell? ⟨qb, 3, none⟩ = some (.string aud) ∧ w'.cell? ⟨qb, 4, none⟩ = some (.bool ha) ∧ w'.cell? ⟨qb, 5, none⟩ = some (.string ⟨ty.toArray⟩) ∧ w'.cell? ⟨qb, 6, none⟩ = some (.bool wt) ∧ w'.cell? ⟨qb, 7, none⟩ = some (.int .i64 lee) ∧ w'.cell? ⟨qb, 8, none⟩ = some (.slice (some ⟨g2, 0, none⟩) nl.length c2) ∧ w'.cell? ⟨(w.heap.size + 1), 0, none⟩ = some (.int .i64 alg) ∧ w'.cell? ⟨(w.heap.size + 1), 1, none⟩ = some (.string ⟨kid.toArray⟩) ∧ w'.cell? ⟨(w.heap.size + 1), 2, none⟩ = some (.string ⟨typ.toArray⟩) ∧ w'.cell? ⟨(w.heap.size + 1), 3, none⟩ = some (.bool has) ∧ w'.cell? ⟨rb, 0, none⟩ = some (.slice (some ⟨g3, 0, none⟩) l.length c3) ∧ w'.cell? ⟨rb, 1, none⟩ = some (.string iss) ∧ w'.cell? ⟨rb, 2, none⟩ = some (.bool hi) ∧ w'.cell? ⟨rb, 3, none⟩ = some (.string aud) ∧ w'.cell? ⟨rb, 4, none⟩ = some (.bool ha) ∧ w'.cell? ⟨rb, 5, none⟩ = some (.string ⟨ty.toArray⟩) ∧ w'.cell? ⟨rb, 6, none⟩ = some (.bool wt) ∧ w'.cell? ⟨rb, 7, none⟩ = some (.int .i64 lee) ∧ w'.cell? ⟨rb, 8, none⟩ = some (.slice na nl.length nc)) wq) := fun wq hq => ⟨(HQz.out wq hq).cell 0 (by simp), (HQz.out wq hq).cell 1 (by simp), (HQz.out wq hq).cell 2 (by simp), (HQz.out wq hq).cell 3 (by simp), (HQz.out wq hq).cell 4 (by simp), (HQz.out wq hq).cell 5 (by simp), (HQz.out wq hq).cell 6 (by simp), (HQz.out wq hq).cell 7 (by simp), (HQz.out wq hq).cell 8 (by simp), (HHz.out wq hq).cell 0 (by simp), (HHz.out wq hq).cell 1 (by simp), (HHz.out wq hq).cell 2 (by simp), (HHz.out wq hq).cell 3 (by simp), (HRz.out wq hq).cell 0 (by simp), (HRz.out wq hq).cell 1 (by simp), (HRz.out wq hq).cell 2 (by simp), (HRz.out wq hq).cell 3 (by simp), (HRz.out wq hq).cell 4 (by simp), (HRz.out wq hq).cell 5 (by simp), (HRz.out wq hq).cell 6 (by simp), (HRz.out wq hq).cell 7 (by simp), (HRz.out wq hq).cell 8 (by simp)⟩
      obtain ⟨X, hX⟩ : ∃ X, allowF L wt ty ⟨alg, kid, typ, has⟩ = X := ⟨_, rfl⟩
      have CQ : Hid (∀ wq, Below w12.heap.size w12 wq → Calls Tryd.prog 6 #[.agg (([.slice (some ⟨g1, 0, none⟩) l.length c1, .string iss, .bool hi, .string aud, .bool ha, .string ⟨ty.toArray⟩, .bool wt, .int .i64 lee, .slice (some ⟨g2, 0, none⟩) nl.length c2] : List Value).toArray), .agg (([.int .i64 alg, .string ⟨kid.toArray⟩, .string ⟨typ.toArray⟩, .bool has] : List Value).toArray)] wq fun e w' => e = .returned (.int .i64 (X : Nat)) ∧ Below wq.heap.size wq w') := fun wq hq => by
        have := HAL.out (some ⟨g1, 0, none⟩) c1 L (.slice (some ⟨g2, 0, none⟩) nl.length c2) wq (HB12.out.trans (hq.mono HB12.out.size)) (HO12.out.low hq (Nat.le_refl _)).front (by omega)
        rw [hX, hLl] at this
        exact this
      have CRr : Hid (∀ wq, Below w12.heap.size w12 wq → Calls Tryd.prog 7 #[.agg (([.slice (some ⟨g3, 0, none⟩) l.length c3, .string iss, .bool hi, .string aud, .bool ha, .string ⟨ty.toArray⟩, .bool wt, .int .i64 lee, .slice na nl.length nc] : List Value).toArray), .agg (([.int .i64 alg, .string ⟨kid.toArray⟩, .string ⟨typ.toArray⟩, .bool has] : List Value).toArray)] wq fun e w' => e = .returned (.int .i64 (X : Nat)) ∧ Below wq.heap.size wq w') := fun wq hq => by
        have := HRL.out (some ⟨g3, 0, none⟩) c3 L (.slice na nl.length nc) wq (HP12.out.low hq (Nat.le_refl _)).front (by omega)
        rw [hX, hLl] at this
        exact this
      have qX : ((X : Int) == (X : Int)) = true := by simp
      clear hw12 HR11 HB11 HQ11 HO11 HP11 s11 f11 HQ12 HR12 HO12 HP12 HBW12 HQz HRz HHz hX HAL HRL
      refine wp_region_K 5 (fun (w' : World) => w'.cell? ⟨qb, 0, none⟩ = some (.slice (some ⟨g1, 0, none⟩) l.length c1) ∧ w'.cell? ⟨qb, 1, none⟩ = some (.string iss) ∧ w'.cell? ⟨qb, 2, none⟩ = some (.bool hi) ∧ w'.cell? ⟨qb, 3, none⟩ = some (.string aud) ∧ w'.cell? ⟨qb, 4, none⟩ = some (.bool ha) ∧ w'.cell? ⟨qb, 5, none⟩ = some (.string ⟨ty.toArray⟩) ∧ w'.cell? ⟨qb, 6, none⟩ = some (.bool wt) ∧ w'.cell? ⟨qb, 7, none⟩ = some (.int .i64 lee) ∧ w'.cell? ⟨qb, 8, none⟩ = some (.slice (some ⟨g2, 0, none⟩) nl.length c2) ∧ w'.cell? ⟨(w.heap.size + 1), 0, none⟩ = some (.int .i64 alg) ∧ w'.cell? ⟨(w.heap.size + 1), 1, none⟩ = some (.string ⟨kid.toArray⟩) ∧ w'.cell? ⟨(w.heap.size + 1), 2, none⟩ = some (.string ⟨typ.toArray⟩) ∧ w'.cell? ⟨(w.heap.size + 1), 3, none⟩ = some (.bool has) ∧ w'.cell? ⟨rb, 0, none⟩ = some (.slice (some ⟨g3, 0, none⟩) l.length c3) ∧ w'.cell? ⟨rb, 1, none⟩ = some (.string iss) ∧ w'.cell? ⟨rb, 2, none⟩ = some (.bool hi) ∧ w'.cell? ⟨rb, 3, none⟩ = some (.string aud) ∧ w'.cell? ⟨rb, 4, none⟩ = some (.bool ha) ∧ w'.cell? ⟨rb, 5, none⟩ = some (.string ⟨ty.toArray⟩) ∧ w'.cell? ⟨rb, 6, none⟩ = some (.bool wt) ∧ w'.cell? ⟨rb, 7, none⟩ = some (.int .i64 lee) ∧ w'.cell? ⟨rb, 8, none⟩ = some (.slice na nl.length nc)) (by kernel_rfl) ?_
      have hHeld : ((fun (w' : World) => w'.cell? ⟨qb, 0, none⟩ = some (.slice (some ⟨g1, 0, none⟩) l.length c1) ∧ w'.cell? ⟨qb, 1, none⟩ = some (.string iss) ∧ w'.cell? ⟨qb, 2, none⟩ = some (.bool hi) ∧ w'.cell? ⟨qb, 3, none⟩ = some (.string aud) ∧ w'.cell? ⟨qb, 4, none⟩ = some (.bool ha) ∧ w'.cell? ⟨qb, 5, none⟩ = some (.string ⟨ty.toArray⟩) ∧ w'.cell? ⟨qb, 6, none⟩ = some (.bool wt) ∧ w'.cell? ⟨qb, 7, none⟩ = some (.int .i64 lee) ∧ w'.cell? ⟨qb, 8, none⟩ = some (.slice (some ⟨g2, 0, none⟩) nl.length c2) ∧ w'.cell? ⟨(w.heap.size + 1), 0, none⟩ = some (.int .i64 alg) ∧ w'.cell? ⟨(w.heap.size + 1), 1, none⟩ = some (.string ⟨kid.toArray⟩) ∧ w'.cell? ⟨(w.heap.size + 1), 2, none⟩ = some (.string ⟨typ.toArray⟩) ∧ w'.cell? ⟨(w.heap.size + 1), 3, none⟩ = some (.bool has) ∧ w'.cell? ⟨rb, 0, none⟩ = some (.slice (some ⟨g3, 0, none⟩) l.length c3) ∧ w'.cell? ⟨rb, 1, none⟩ = some (.string iss) ∧ w'.cell? ⟨rb, 2, none⟩ = some (.bool hi) ∧ w'.cell? ⟨rb, 3, none⟩ = some (.string aud) ∧ w'.cell? ⟨rb, 4, none⟩ = some (.bool ha) ∧ w'.cell? ⟨rb, 5, none⟩ = some (.string ⟨ty.toArray⟩) ∧ w'.cell? ⟨rb, 6, none⟩ = some (.bool wt) ∧ w'.cell? ⟨rb, 7, none⟩ = some (.int .i64 lee) ∧ w'.cell? ⟨rb, 8, none⟩ = some (.slice na nl.length nc))) (World.drew _) := HSS.out _ (below_drewN (Below.refl _ _) 1)
      refine wpAnyK_take 0 [2, 5] (v := ?v1) rfl (by kernel_rfl) (fun _ _ _ h => h) (Or.inl ⟨by rfl, ?hy1⟩) hHeld ?_
      case hy1 => (intro w hSw; (try dsimp only at hSw); go_simp; try with_reducible rfl)
      try simp only [Act.put, List.setIfInBounds_toArray, List.set_cons_zero, List.set_cons_succ]
      refine wpAnyK_take 1 [2, 5] (v := ?v2) rfl (by kernel_rfl) (fun _ _ _ h => h) (Or.inl ⟨by rfl, ?hy2⟩) hHeld ?_
      case hy2 => (intro w hSw; (try dsimp only at hSw); go_simp; try with_reducible rfl)
      try simp only [Act.put, List.setIfInBounds_toArray, List.set_cons_zero, List.set_cons_succ]
      refine wpAnyK_take 3 [5] (v := ?v3) rfl (by kernel_rfl) (fun _ _ _ h => h) (Or.inl ⟨by rfl, ?hy3⟩) hHeld ?_
      case hy3 => (intro w hSw; (try dsimp only at hSw); go_simp; try with_reducible rfl)
      try simp only [Act.put, List.setIfInBounds_toArray, List.set_cons_zero, List.set_cons_succ]
      refine wpAnyK_take 4 [5] (v := ?v4) rfl (by kernel_rfl) (fun _ _ _ h => h) (Or.inl ⟨by rfl, ?hy4⟩) hHeld ?_
      case hy4 => (intro w hSw; (try dsimp only at hSw); go_simp; try with_reducible rfl)
      try simp only [Act.put, List.setIfInBounds_toArray, List.set_cons_zero, List.set_cons_succ]
      refine wpAnyK_step 2 rfl (by kernel_rfl) (fun K hK => ?_)
      go_simp
      refine (CQ.out _ (below_drewN (Below.refl _ _) 1)).mono ?_
      rintro e y1 ⟨rfl, hy1⟩
      have HY1 : Hid (Below w12.heap.size w12 y1) := (below_drewN (Below.refl _ _) 1).trans (hy1.mono (Nat.le_refl _))
      clear hy1
      dsimp only
      refine hK.out _ _ ?hk5 ?_
      case hk5 => exact fun _ => HSS.out _ HY1.out
      have hHeld : ((fun (w' : World) => w'.cell? ⟨qb, 0, none⟩ = some (.slice (some ⟨g1, 0, none⟩) l.length c1) ∧ w'.cell? ⟨qb, 1, none⟩ = some (.string iss) ∧ w'.cell? ⟨qb, 2, none⟩ = some (.bool hi) ∧ w'.cell? ⟨qb, 3, none⟩ = some (.string aud) ∧ w'.cell? ⟨qb, 4, none⟩ = some (.bool ha) ∧ w'.cell? ⟨qb, 5, none⟩ = some (.string ⟨ty.toArray⟩) ∧ w'.cell? ⟨qb, 6, none⟩ = some (.bool wt) ∧ w'.cell? ⟨qb, 7, none⟩ = some (.int .i64 lee) ∧ w'.cell? ⟨qb, 8, none⟩ = some (.slice (some ⟨g2, 0, none⟩) nl.length c2) ∧ w'.cell? ⟨(w.heap.size + 1), 0, none⟩ = some (.int .i64 alg) ∧ w'.cell? ⟨(w.heap.size + 1), 1, none⟩ = some (.string ⟨kid.toArray⟩) ∧ w'.cell? ⟨(w.heap.size + 1), 2, none⟩ = some (.string ⟨typ.toArray⟩) ∧ w'.cell? ⟨(w.heap.size + 1), 3, none⟩ = some (.bool has) ∧ w'.cell? ⟨rb, 0, none⟩ = some (.slice (some ⟨g3, 0, none⟩) l.length c3) ∧ w'.cell? ⟨rb, 1, none⟩ = some (.string iss) ∧ w'.cell? ⟨rb, 2, none⟩ = some (.bool hi) ∧ w'.cell? ⟨rb, 3, none⟩ = some (.string aud) ∧ w'.cell? ⟨rb, 4, none⟩ = some (.bool ha) ∧ w'.cell? ⟨rb, 5, none⟩ = some (.string ⟨ty.toArray⟩) ∧ w'.cell? ⟨rb, 6, none⟩ = some (.bool wt) ∧ w'.cell? ⟨rb, 7, none⟩ = some (.int .i64 lee) ∧ w'.cell? ⟨rb, 8, none⟩ = some (.slice na nl.length nc))) _ := HSS.out _ HY1.out
      clear hK K
      try simp only [Act.put, List.setIfInBounds_toArray, List.set_cons_zero, List.set_cons_succ]
      refine wpAnyK_step 5 rfl (by kernel_rfl) (fun K hK => ?_)
      go_simp
      refine (CRr.out _ HY1.out).mono ?_
      rintro e y2 ⟨rfl, hy2⟩
      have HY2 : Hid (Below w.heap.size w y2) := HB12.out.trans ((HY1.out.trans (hy2.mono HY1.out.size)).mono HB12.out.size)
      clear hy2
      dsimp only
      refine hK.out _ _ ?hk6 ?_
      case hk6 => exact (fun h => nomatch (h.symm.trans (show _ = true by kernel_rfl)))
      clear hK K
      try simp only [Act.put, List.setIfInBounds_toArray, List.set_cons_zero, List.set_cons_succ]
      refine wpAnyK_take0 6 (v := ?v7) rfl (by kernel_rfl) (fun _ _ _ h => h) (Or.inl ⟨by rfl, ?hy7⟩) (fun h => nomatch (h.symm.trans (show _ = true by kernel_rfl))) ?_
      case hy7 => (intro w hSw; go_simp; try with_reducible rfl)
      try simp only [Act.put, List.setIfInBounds_toArray, List.set_cons_zero, List.set_cons_succ]
      refine wpAnyK_take0 7 (v := ?v8) rfl (by kernel_rfl) (fun _ _ _ h => h) (Or.inl ⟨by rfl, ?hy8⟩) (fun h => nomatch (h.symm.trans (show _ = true by kernel_rfl))) ?_
      case hy8 => (intro w hSw; go_simp; try with_reducible rfl)
      try simp only [Act.put, List.setIfInBounds_toArray, List.set_cons_zero, List.set_cons_succ]
      refine wpAnyK_done (by kernel_rfl) ?_ _
      go_wp2
      go_ret
      exact ⟨rfl, HY2.out⟩

end Go.Proofs.YtfpimcmhooiooaaDoor
