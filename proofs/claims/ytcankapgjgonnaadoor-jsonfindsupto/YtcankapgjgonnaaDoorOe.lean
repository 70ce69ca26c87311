import Derived.Test.YtcankapgjgonnaaDoorOd
namespace Go.Proofs.YtcankapgjgonnaaDoor
open Go.RowKit Go.Shelf

theorem nCs_set (P : List Nd) (n m : Nd) (R : List Nd) (j : Nat) (v : Value) (hj : j < 6) (hm : (nC n).set j v = nC m) : (nCs (P ++ n :: R)).set (P.length * 6 + j) v = nCs (P ++ m :: R) := by
  have e1 : ∀ x : Nd, nCs (P ++ x :: R) = nCs P ++ (nC x ++ nCs R) := fun x => by rw [nCs_append]; rfl
  rw [e1, e1, List.set_append_right _ _ (by rw [nCs_length]; omega), nCs_length, show P.length * 6 + j - P.length * 6 = j by omega, List.set_append_left _ _ (by rw [nC_length]; exact hj), hm]
/-- One cell of a node is written over. -/
theorem no_cell {B : Nat} {w : World} {g n cap : Nat} {Y : List Nd} (h : NO B w (.slice (some ⟨g, 0, none⟩) n cap) Y) (hn : Y.length = n) (k j : Nat) (v : Value) (y : Nd) (hk : k < n) (hj : j < 6) (hy : (nC (Y.getD k (nd0 0))).set j v = nC y) :
    NO B (w.setCell ⟨g, k * 6 + j, none⟩ v) (.slice (some ⟨g, 0, none⟩) n cap) (Y.set k y) ∧ w.grownBy (w.setCell ⟨g, k * 6 + j, none⟩ v) (some g) := by
  have hN2 := h
  unfold NO at hN2
  rw [hn] at hN2
  have hYk : Y = Y.take k ++ (Y.getD k (nd0 0) :: Y.drop (k + 1)) := by rw [← dropN (by omega), List.take_append_drop]
  have hs := World.ownsRow.stored hN2 (k * 6 + j) v
  have hsn := nCs_set (Y.take k) (Y.getD k (nd0 0)) y (Y.drop (k + 1)) j v hj hy
  rw [List.length_take_of_le (by omega), ← hYk] at hsn
  rw [hsn] at hs
  refine ⟨?_, hs.2⟩
  unfold NO
  rw [List.length_set, hn, List.set_eq_take_append_cons_drop, if_pos (by omega)]
  exact hs.1
theorem no_at {B : Nat} {w : World} {g n cap : Nat} {Y : List Nd} (h : NO B w (.slice (some ⟨g, 0, none⟩) n cap) Y) (hn : Y.length = n) (k j : Nat) (v : Value) (hk : k < n) (hj : (nC (Y.getD k (nd0 0)))[j]? = some v) : w.cell? ⟨g, k * 6 + j, none⟩ = some v ∧ w.frozen? ⟨g, k * 6 + j, none⟩ = false := by
  have hN2 := h
  unfold NO at hN2
  rw [hn] at hN2
  have hj6 : j < 6 := (List.getElem?_eq_some_iff.1 hj).1
  have hYk : Y = Y.take k ++ (Y.getD k (nd0 0) :: Y.drop (k + 1)) := by rw [← dropN (by omega), List.take_append_drop]
  refine own_cell hN2 (k * 6 + j) v ?_
  have e1 : nCs Y = nCs (Y.take k) ++ (nC (Y.getD k (nd0 0)) ++ nCs (Y.drop (k + 1))) := by
    conv => lhs; rw [hYk]
    rw [nCs_append]
    rfl
  rw [e1, List.getElem?_append_right (by rw [nCs_length, List.length_take_of_le (by omega)]; omega), nCs_length, List.length_take_of_le (by omega), show k * 6 + j - k * 6 = j by omega, List.getElem?_append_left (by rw [nC_length]; exact hj6)]
  exact hj

/-- What stands while the list is written over. -/
structure GS (w : World) (g c n : Nat) (v1 v2 : Value) (L : List Nat) (N : Nat) (wx : World) : Prop where
  bel : Below w.heap.size w wx
  ib : wx.ownsRow w.heap.size 3 1 v1 L.length (L.map iV)
  il : wx.ownsRow w.heap.size 3 1 v2 L.length (L.map iV)
  k : ∃ X : List Nd, (X.length = n ∧ ∀ x ∈ X, x.text.length ≤ N ∧ x.key.length ≤ N) ∧ NO w.heap.size wx (.slice (some ⟨g, 0, none⟩) (n + 2) c) (X ++ [m91, m92])
theorem GS.below {w : World} {g c n : Nat} {v1 v2 : Value} {L : List Nat} {N : Nat} {wx wy : World} (h : GS w g c n v1 v2 L N wx) (hb : Below wx.heap.size wx wy) : GS w g c n v1 v2 L N wy :=
  ⟨h.bel.trans (hb.mono h.bel.size), own_below h.ib hb (Nat.le_refl _), own_below h.il hb (Nat.le_refl _), h.k.elim fun X hX => ⟨X, hX.1, own_below hX.2 hb (Nat.le_refl _)⟩⟩
theorem GS.mono {w : World} {g c n : Nat} {v1 v2 : Value} {L : List Nat} {N M : Nat} {wx : World} (h : GS w g c n v1 v2 L N wx) (hM : N ≤ M) : GS w g c n v1 v2 L M wx :=
  ⟨h.bel, h.ib, h.il, h.k.elim fun X hX => ⟨X, ⟨hX.1.1, fun x hx => by have := hX.1.2 x hx; omega⟩, hX.2⟩⟩
/-- The node at i, and how one of its cells is written over. -/
theorem GS.node {w : World} {g c n : Nat} {v1 v2 : Value} {L : List Nat} {N : Nat} {wx : World} (h : GS w g c n v1 v2 L N wx) (hg : w.heap.size ≤ g) {i : Nat} (hi : i < n) : ∃ x : Nd, (x.text.length ≤ N ∧ x.key.length ≤ N) ∧
    (∀ j v, (nC x)[j]? = some v → wx.cell? ⟨g, i * 6 + j, none⟩ = some v ∧ wx.frozen? ⟨g, i * 6 + j, none⟩ = false) ∧
    ∀ j v (y : Nd) (M : Nat), j < 6 → (nC x).set j v = nC y → N ≤ M → y.text.length ≤ M → y.key.length ≤ M → GS w g c n v1 v2 L M (wx.setCell ⟨g, i * 6 + j, none⟩ v) := by
  obtain ⟨X, ⟨hX, hXl⟩, hO⟩ := h.k
  have hlen : (X ++ [m91, m92]).length = n + 2 := by simp [hX]
  have hg2 : (X ++ [m91, m92]).getD i (nd0 0) = X.getD i (nd0 0) := by
    rw [List.getD_eq_getElem?_getD, List.getD_eq_getElem?_getD, List.getElem?_append_left (by omega)]
  have hm : X.getD i (nd0 0) ∈ X := by rw [List.getD_eq_getElem?_getD, List.getElem?_eq_getElem (by omega)]; exact List.getElem_mem _
  refine ⟨X.getD i (nd0 0), hXl _ hm, fun j v hj => no_at hO hlen i j v (by omega) (by rw [hg2]; exact hj), fun j v y M hj hy hM h1 h2 => ?_⟩
  have hs := no_cell hO hlen i j v y (by omega) hj (by rw [hg2]; exact hy)
  rw [List.set_append_left _ _ (by omega)] at hs
  refine ⟨h.bel.setCell hg _, own_keep h.ib fun b hb => hs.2.block b (h.ib.lt b hb).2 (fun e => kinds_apart h.ib hO (by decide) hb e.symm), own_keep h.il fun b hb => hs.2.block b (h.il.lt b hb).2 (fun e => kinds_apart h.il hO (by decide) hb e.symm), X.set i y, ⟨by rw [List.length_set]; exact hX, fun x hx => ?_⟩, hs.1⟩
  rcases List.mem_or_eq_of_mem_set hx with hx | rfl
  · have := hXl x hx
    omega
  · exact ⟨h1, h2⟩

/-- What stands behind the list's second form. -/
structure HX (w : World) (g c n : Nat) (v1 v2 : Value) (L : List Nat) (X : List Nd) (gt ct : Nat) (wx : World) : Prop where
  bel : Below w.heap.size w wx
  ib : wx.ownsRow w.heap.size 3 1 v1 L.length (L.map iV)
  il : wx.ownsRow w.heap.size 3 1 v2 L.length (L.map iV)
  k : NO w.heap.size wx (.slice (some ⟨g, 0, none⟩) (n + 2) c) (X ++ [m91, m92])
  t : NO w.heap.size wx (.slice (some ⟨gt, 0, none⟩) n ct) X
theorem HX.below {w : World} {g c n : Nat} {v1 v2 : Value} {L : List Nat} {X : List Nd} {gt ct : Nat} {wx wy : World} (h : HX w g c n v1 v2 L X gt ct wx) (hb : Below wx.heap.size wx wy) : HX w g c n v1 v2 L X gt ct wy :=
  ⟨h.bel.trans (hb.mono h.bel.size), own_below h.ib hb (Nat.le_refl _), own_below h.il hb (Nat.le_refl _), own_below h.k hb (Nat.le_refl _), own_below h.t hb (Nat.le_refl _)⟩

set_option maxRecDepth 100000 in
set_option maxHeartbeats 16000000 in
theorem finds_any (l : List Nd) (va : Option Addr) (vc : Nat) (a : Int) (key : List UInt8) (D : Nat → List UInt8) (w : World) (h : NR w (.slice va l.length vc) l va vc) (hvn : va = none → vc = 0) (hl : l.length ≤ 1048576) (ht : ∀ x ∈ l, x.text.length ≤ 1048576 ∧ x.key.length ≤ 1048576) (hkl : key.length ≤ 1048576) (hD : ∀ i, (D i).length ≤ 100)
    (HI : ∀ (i : Nat) (wq : World), i ≤ 100000000 → Below w.heap.size w wq → Calls Tryd.prog 31 #[.int .i64 (i : Int)] wq fun e w' => e = .returned (.string ⟨(D i).toArray⟩) ∧ Below wq.heap.size wq w') :
    Calls Tryd.prog 3 #[.slice va l.length vc, .int .i64 a, .string ⟨key.toArray⟩] w fun e w' => e = .returned (.bool true) ∧ Below w.heap.size w w' := by
  have HIq : Hid (∀ (i : Nat) (wq : World), i ≤ 100000000 → Below w.heap.size w wq → Calls Tryd.prog 31 #[.int .i64 (i : Int)] wq fun e w' => e = .returned (.string ⟨(D i).toArray⟩) ∧ Below wq.heap.size wq w') := HI
  have HD : Hid (∀ i, (D i).length ≤ 100) := hD
  have HV : Hid (∀ wq, Below w.heap.size w wq → NR wq (.slice va l.length vc) l va vc) := fun wq hq => h.below hq (Nat.le_refl _)
  have HVN : Hid (va = none → vc = 0) := hvn
  have HT : Hid (∀ x ∈ l, x.text.length ≤ 1048576 ∧ x.key.length ≤ 1048576) := ht
  have HTS : Hid (TS l) := ts_all ht (by omega)
  have CB := beyond_any _ l va vc w h (by omega)
  clear HI hD h hvn ht
  go_enter Tryd.func3, Tryd.ntmps3
  go_wp2_with fail
  refine CB.mono ?_
  clear CB
  rintro e w1 ⟨hb1, by_, rfl⟩
  have HB1 : Hid (Below w.heap.size w w1) := hb1
  clear hb1
  cases by_
  case true =>
    clear HIq HD HV HVN HT HTS
    go_wp2
    go_ret
    exact ⟨rfl, HB1.out⟩
  have CL := lent_any l va vc w1 (HV.out w1 HB1.out) HVN.out (by omega)
  go_wp2_with fail
  refine CL.mono ?_
  clear CL
  rintro e w2 ⟨⟨g, c, rfl, hn2⟩, hb2⟩
  have HB2 : Hid (Below w.heap.size w w2) := HB1.out.trans (hb2.mono HB1.out.size)
  have HLg : Hid (w.heap.size ≤ g) := Nat.le_trans HB1.out.size (hn2.lt g rfl).1
  have HK2 : Hid (NO w.heap.size w2 (.slice (some ⟨g, 0, none⟩) (l.length + 2) c) (l ++ [m91, m92])) := own_mono2 hn2 HB1.out.size
  clear hb2 hn2 HB1
  obtain ⟨mL, hmL⟩ : ∃ m, memF l a key = m := ⟨_, rfl⟩
  obtain ⟨bL, hbL⟩ : ∃ m, behindF l a = m := ⟨_, rfl⟩
  have HML : Hid (memF l a key = mL) := hmL
  have HBL : Hid (behindF l a = bL) := hbL
  have CM := kmem a key rfl HK2.out (by omega)
  rw [hmL] at CM
  clear hmL hbL
  go_wp2_with fail
  refine CM.mono ?_
  clear CM
  rintro e w3 ⟨rfl, hb3⟩
  have HB3 : Hid (Below w.heap.size w w3) := HB2.out.trans (hb3.mono HB2.out.size)
  have HK3 : Hid (NO w.heap.size w3 (.slice (some ⟨g, 0, none⟩) (l.length + 2) c) (l ++ [m91, m92])) := own_below HK2.out hb3 (Nat.le_refl _)
  clear hb3 HB2 HK2
  have CK := kkid a rfl HK3.out (by omega)
  go_wp2_with fail
  refine CK.mono ?_
  clear CK
  rintro e w4 ⟨rb, rfl, hoi4⟩
  have HB4 : Hid (Below w.heap.size w w4) := HB3.out.trans (hoi4.bel.mono HB3.out.size)
  have HK4 : Hid (NO w.heap.size w4 (.slice (some ⟨g, 0, none⟩) (l.length + 2) c) (l ++ [m91, m92])) := own_below HK3.out hoi4.bel (Nat.le_refl _)
  have HOb : Hid (w4.ownsRow w.heap.size 3 1 rb (kidsF l a).length ((kidsF l a).map iV)) := own_mono2 hoi4.own HB3.out.size
  clear hoi4 HB3 HK3
  have CB := kbeh a rfl HK4.out (by omega)
  rw [HBL.out] at CB
  go_wp2_with fail
  refine CB.mono ?_
  clear CB
  rintro e w4' ⟨rfl, rfl⟩
  have CS := still_any l va vc g c w.heap.size w4' (HV.out w4' HB4.out) HK4.out (by omega)
  go_wp2_with fail
  refine CS.mono ?_
  clear CS
  rintro e w5 ⟨rfl, q5, rfl⟩
  have hb5 : Below w4'.heap.size w4' (w4'.drewN q5) := below_drewN (Below.refl _ _) q5
  have HB5 : Hid (Below w.heap.size w (w4'.drewN q5)) := HB4.out.trans (hb5.mono HB4.out.size)
  have HK5 : Hid (NO w.heap.size (w4'.drewN q5) (.slice (some ⟨g, 0, none⟩) (l.length + 2) c) (l ++ [m91, m92])) := own_below HK4.out hb5 (Nat.le_refl _)
  have HO5 : Hid ((w4'.drewN q5).ownsRow w.heap.size 3 1 rb (kidsF l a).length ((kidsF l a).map iV)) := own_below HOb.out hb5 (Nat.le_refl _)
  clear hb5 HB4 HK4 HOb
  generalize w4'.drewN q5 = w5 at *
  have CSh := rshaped_any l va vc w5 (HV.out w5 HB5.out) (by omega) HTS.out
  go_wp2_with fail
  refine CSh.mono ?_
  clear CSh
  rintro e w6 ⟨rfl, hb6⟩
  have HB6 : Hid (Below w.heap.size w w6) := HB5.out.trans (hb6.mono HB5.out.size)
  have HK6 : Hid (NO w.heap.size w6 (.slice (some ⟨g, 0, none⟩) (l.length + 2) c) (l ++ [m91, m92])) := own_below HK5.out hb6 (Nat.le_refl _)
  have HO6 : Hid (w6.ownsRow w.heap.size 3 1 rb (kidsF l a).length ((kidsF l a).map iV)) := own_below HO5.out hb6 (Nat.le_refl _)
  clear hb6 HB5 HK5 HO5
  cases hsF : shapedF l
  · clear hsF HIq HD HV HVN HT HTS HK6 HO6
    go_wp2
    go_ret
    exact ⟨rfl, HB6.out⟩
  have HS : Hid (shapedF l = true) := hsF
  clear hsF
  have CK := rkids_all l va vc a w6 (HV.out w6 HB6.out) (by omega) HS.out
  go_wp2_with fail
  refine CK.mono ?_
  clear CK
  rintro e w7 ⟨rl, rfl, hoi7⟩
  have HB7 : Hid (Below w.heap.size w w7) := HB6.out.trans (hoi7.bel.mono HB6.out.size)
  have HGS7 : Hid (GS w g c l.length rb rl (kidsF l a) (1048576) w7) := ⟨HB7.out, own_below HO6.out hoi7.bel (Nat.le_refl _), own_mono2 hoi7.own HB6.out.size, l, ⟨rfl, HT.out⟩, own_below HK6.out hoi7.bel (Nat.le_refl _)⟩
  clear hoi7 HB6 HK6 HO6 HB7
  have CM := rmember_all l va vc a key w7 (HV.out w7 HGS7.out.bel) (by omega) HS.out
  rw [HML.out] at CM
  go_wp2_with fail
  refine CM.mono ?_
  clear CM
  rintro e w8 ⟨rfl, hb8⟩
  have HGS8 : Hid (GS w g c l.length rb rl (kidsF l a) (1048576) w8) := HGS7.out.below hb8
  clear hb8 HGS7
  have CS := sints (w := w8) ⟨HGS8.out.ib, HGS8.out.bel⟩ ⟨HGS8.out.il, HGS8.out.bel⟩ (Below.refl _ _) (Below.refl _ _) (X := l) (a := a) (by omega)
  go_wp2_with fail
  refine CS.mono ?_
  clear CS
  rintro e w9 ⟨rfl, q9, rfl⟩
  have HGS9 : Hid (GS w g c l.length rb rl (kidsF l a) (1048576) (w8.drewN q9)) := HGS8.out.below (below_drewN (Below.refl _ _) q9)
  clear HGS8
  generalize w8.drewN q9 = w9 at *
  have CB := rbehind_all l va vc a w9 (HV.out w9 HGS9.out.bel) (by omega) HS.out
  rw [HBL.out] at CB
  go_wp2_with fail
  refine CB.mono ?_
  clear CB
  rintro e w9' ⟨rfl, rfl⟩
  clear HML HBL HT HTS HV HVN
  go_wp2
  go_loopw [14] (fun s wx => ∃ i : Nat, s = .int .i64 i ∧ i ≤ l.length ∧ GS w g c l.length rb rl (kidsF l a) (1048576 + i) wx) (fun s _ => l.length - (intOf s).toNat)
  case atStart => exact ⟨0, rfl, Nat.zero_le _, HGS9.out⟩
  case round =>
    obtain ⟨i, rfl, hi, hgs⟩ := hrel
    clear HGS9
    have HGi : Hid (GS w g c l.length rb rl (kidsF l a) (1048576 + i) wr) := hgs
    clear hgs
    by_cases hlt : i < l.length
    · have q0 : decide ((i : Int) < (l.length : Int)) = true := decide_eq_true (by omega)
      have q1 : (i : Int) < (l.length : Int) := by omega
      clear HIq HD HS
      obtain ⟨⟨kda, kya, txa, wha, ita, kka⟩, hxa, hca, hwa⟩ := HGi.out.node HLg.out hlt
      have ca := (hca 1 _ rfl).1
      have fa := (hca 1 _ rfl).2
      by_cases hky : kya = []
      · subst hky
        have HGm : Hid (GS w g c l.length rb rl (kidsF l a) (1048576 + (i + 1)) wr) := HGi.out.mono (by omega)
        clear hxa hca hwa HGi
        go_upto_region 19 with fail
        clear ca fa
        obtain ⟨⟨kdb, kyb, txb, whb, itb, kkb⟩, hxb, hcb, hwb⟩ := HGm.out.node HLg.out hlt
        have cb := (hcb 5 _ rfl).1
        clear hxb hcb hwb
        by_cases hi0 : 0 < i
        · have r0 : decide ((i : Int) > 0) = true := decide_eq_true (by omega)
          have r1 : decide ((0 : Int) < (i : Int)) = true := r0
          by_cases hk0 : kkb = 0
          · have r2 : decide (kkb = 0) = true := decide_eq_true hk0
            subst hk0
            go_upto_region 20 with fail
            clear cb
            obtain ⟨⟨kdc, kyc, txc, whc, itc, kkc⟩, hxc, hcc, hwc⟩ := HGm.out.node HLg.out hlt
            have cc : wr.cell? ⟨g, i * 6, none⟩ = some (.int .i64 kdc) := (hcc 0 _ rfl).1
            have fc : wr.frozen? ⟨g, i * 6, none⟩ = false := (hcc 0 _ rfl).2
            have hnc : GS w g c l.length rb rl (kidsF l a) (1048576 + (i + 1)) (wr.setCell ⟨g, i * 6, none⟩ (.int .i64 6)) := hwc 0 (.int .i64 6) ⟨6, kyc, txc, whc, itc, kkc⟩ (1048576 + (i + 1)) (by decide) rfl (Nat.le_refl _) (by have := hxc.1; first | exact this | exact Nat.zero_le _) hxc.2
            obtain ⟨wc, ec⟩ : ∃ x, wr.setCell ⟨g, i * 6, none⟩ (.int .i64 6) = x := ⟨_, rfl⟩
            rw [ec] at hnc
            have HGc : Hid (GS w g c l.length rb rl (kidsF l a) (1048576 + (i + 1)) wc) := hnc
            clear hnc hxc hcc hwc
            go_upto_region 21 with fail
            clear ec cc fc
            obtain ⟨⟨kdd, kyd, txd, whd, itd, kkd⟩, hxd, hcd, hwd⟩ := HGc.out.node HLg.out hlt
            have cd := (hcd 2 _ rfl).1
            have fd := (hcd 2 _ rfl).2
            have hnd := hwd 2 (.string ⟨#[]⟩) ⟨kdd, kyd, [], whd, itd, kkd⟩ (1048576 + (i + 1)) (by decide) rfl (Nat.le_refl _) (by have := hxd.1; first | exact this | exact Nat.zero_le _) hxd.2
            obtain ⟨wd, ed⟩ : ∃ x, wc.setCell ⟨g, i * 6 + 2, none⟩ (.string ⟨#[]⟩) = x := ⟨_, rfl⟩
            rw [ed] at hnd
            have HGd : Hid (GS w g c l.length rb rl (kidsF l a) (1048576 + (i + 1)) wd) := hnd
            clear hnd hxd hcd hwd
            go_upto_region 22 with fail
            clear ed cd fd
            obtain ⟨⟨kde, kye, txe, whe, ite, kke⟩, hxe, hce, hwe⟩ := HGd.out.node HLg.out hlt
            have ce := (hce 3 _ rfl).1
            have fe := (hce 3 _ rfl).2
            have hne := hwe 3 (.bool false) ⟨kde, kye, txe, false, ite, kke⟩ (1048576 + (i + 1)) (by decide) rfl (Nat.le_refl _) (by have := hxe.1; first | exact this | exact Nat.zero_le _) hxe.2
            obtain ⟨we, ee⟩ : ∃ x, wd.setCell ⟨g, i * 6 + 3, none⟩ (.bool false) = x := ⟨_, rfl⟩
            rw [ee] at hne
            have HGe : Hid (GS w g c l.length rb rl (kidsF l a) (1048576 + (i + 1)) we) := hne
            clear hne hxe hce hwe
            go_upto_region 23 with fail
            clear ee ce fe
            obtain ⟨⟨kdf, kyf, txf, whf, itf, kkf⟩, hxf, hcf, hwf⟩ := HGe.out.node HLg.out hlt
            have cf := (hcf 4 _ rfl).1
            have ff := (hcf 4 _ rfl).2
            have hnf := hwf 4 (.int .i64 0) ⟨kdf, kyf, txf, whf, 0, kkf⟩ (1048576 + (i + 1)) (by decide) rfl (Nat.le_refl _) (by have := hxf.1; first | exact this | exact Nat.zero_le _) hxf.2
            obtain ⟨wf, ef⟩ : ∃ x, we.setCell ⟨g, i * 6 + 4, none⟩ (.int .i64 0) = x := ⟨_, rfl⟩
            rw [ef] at hnf
            have HGf : Hid (GS w g c l.length rb rl (kidsF l a) (1048576 + (i + 1)) wf) := hnf
            clear hnf hxf hcf hwf
            go_upto_region 16 with fail
            clear ef cf ff
            go_wp2
            go_roundw
            case rel => exact ⟨i + 1, by go_num, by omega, HGf.out⟩
            case measure => simp [intOf]; omega
          · have r2 : decide (kkb = 0) = false := decide_eq_false hk0
            have r3 : (kkb == 0) = false := by simpa using hk0
            go_wp2
            go_roundw
            case rel => exact ⟨i + 1, by go_num, by omega, HGm.out⟩
            case measure => simp [intOf]; omega
        · have r0 : decide ((i : Int) > 0) = false := decide_eq_false (by omega)
          have r1 : decide ((0 : Int) < (i : Int)) = false := r0
          go_wp2
          go_roundw
          case rel => exact ⟨i + 1, by go_num, by omega, HGm.out⟩
          case measure => simp [intOf]; omega
      · have hyb : (kya == []) = false := by simpa using hky
        have hyd : decide (kya = []) = false := decide_eq_false hky
        have hxm : kya.length + 1 ≤ 9223372036854775807 := by have := hxa.2; simp only at this; omega
        have hxn : ¬ (9223372036854775807 < kya.length + 1) := by omega
        have hna : GS w g c l.length rb rl (kidsF l a) (1048576 + (i + 1)) (wr.setCell ⟨g, i * 6 + 1, none⟩ (.string (⟨kya.toArray⟩ ++ ⟨#[113]⟩))) := hwa 1 (.string ⟨(kya ++ [113]).toArray⟩) ⟨kda, kya ++ [113], txa, wha, ita, kka⟩ (1048576 + (i + 1)) (by decide) rfl (by omega) (by have := hxa.1; simp only at this ⊢; omega) (by have := hxa.2; simp only [List.length_append, List.length_singleton] at this ⊢; omega)
        obtain ⟨wa, ea⟩ : ∃ x, wr.setCell ⟨g, i * 6 + 1, none⟩ (.string (⟨kya.toArray⟩ ++ ⟨#[113]⟩)) = x := ⟨_, rfl⟩
        rw [ea] at hna
        have HGm : Hid (GS w g c l.length rb rl (kidsF l a) (1048576 + (i + 1)) wa) := hna
        clear hna hxa hca hwa HGi
        go_upto_region 19 with fail
        clear ea ca fa hyb hyd hxm hxn
        obtain ⟨⟨kdb, kyb, txb, whb, itb, kkb⟩, hxb, hcb, hwb⟩ := HGm.out.node HLg.out hlt
        have cb := (hcb 5 _ rfl).1
        clear hxb hcb hwb
        by_cases hi0 : 0 < i
        · have r0 : decide ((i : Int) > 0) = true := decide_eq_true (by omega)
          have r1 : decide ((0 : Int) < (i : Int)) = true := r0
          by_cases hk0 : kkb = 0
          · have r2 : decide (kkb = 0) = true := decide_eq_true hk0
            subst hk0
            go_upto_region 20 with fail
            clear cb
            obtain ⟨⟨kdc, kyc, txc, whc, itc, kkc⟩, hxc, hcc, hwc⟩ := HGm.out.node HLg.out hlt
            have cc : wa.cell? ⟨g, i * 6, none⟩ = some (.int .i64 kdc) := (hcc 0 _ rfl).1
            have fc : wa.frozen? ⟨g, i * 6, none⟩ = false := (hcc 0 _ rfl).2
            have hnc : GS w g c l.length rb rl (kidsF l a) (1048576 + (i + 1)) (wa.setCell ⟨g, i * 6, none⟩ (.int .i64 6)) := hwc 0 (.int .i64 6) ⟨6, kyc, txc, whc, itc, kkc⟩ (1048576 + (i + 1)) (by decide) rfl (Nat.le_refl _) (by have := hxc.1; first | exact this | exact Nat.zero_le _) hxc.2
            obtain ⟨wc, ec⟩ : ∃ x, wa.setCell ⟨g, i * 6, none⟩ (.int .i64 6) = x := ⟨_, rfl⟩
            rw [ec] at hnc
            have HGc : Hid (GS w g c l.length rb rl (kidsF l a) (1048576 + (i + 1)) wc) := hnc
            clear hnc hxc hcc hwc
            go_upto_region 21 with fail
            clear ec cc fc
            obtain ⟨⟨kdd, kyd, txd, whd, itd, kkd⟩, hxd, hcd, hwd⟩ := HGc.out.node HLg.out hlt
            have cd := (hcd 2 _ rfl).1
            have fd := (hcd 2 _ rfl).2
            have hnd := hwd 2 (.string ⟨#[]⟩) ⟨kdd, kyd, [], whd, itd, kkd⟩ (1048576 + (i + 1)) (by decide) rfl (Nat.le_refl _) (by have := hxd.1; first | exact this | exact Nat.zero_le _) hxd.2
            obtain ⟨wd, ed⟩ : ∃ x, wc.setCell ⟨g, i * 6 + 2, none⟩ (.string ⟨#[]⟩) = x := ⟨_, rfl⟩
            rw [ed] at hnd
            have HGd : Hid (GS w g c l.length rb rl (kidsF l a) (1048576 + (i + 1)) wd) := hnd
            clear hnd hxd hcd hwd
            go_upto_region 22 with fail
            clear ed cd fd
            obtain ⟨⟨kde, kye, txe, whe, ite, kke⟩, hxe, hce, hwe⟩ := HGd.out.node HLg.out hlt
            have ce := (hce 3 _ rfl).1
            have fe := (hce 3 _ rfl).2
            have hne := hwe 3 (.bool false) ⟨kde, kye, txe, false, ite, kke⟩ (1048576 + (i + 1)) (by decide) rfl (Nat.le_refl _) (by have := hxe.1; first | exact this | exact Nat.zero_le _) hxe.2
            obtain ⟨we, ee⟩ : ∃ x, wd.setCell ⟨g, i * 6 + 3, none⟩ (.bool false) = x := ⟨_, rfl⟩
            rw [ee] at hne
            have HGe : Hid (GS w g c l.length rb rl (kidsF l a) (1048576 + (i + 1)) we) := hne
            clear hne hxe hce hwe
            go_upto_region 23 with fail
            clear ee ce fe
            obtain ⟨⟨kdf, kyf, txf, whf, itf, kkf⟩, hxf, hcf, hwf⟩ := HGe.out.node HLg.out hlt
            have cf := (hcf 4 _ rfl).1
            have ff := (hcf 4 _ rfl).2
            have hnf := hwf 4 (.int .i64 0) ⟨kdf, kyf, txf, whf, 0, kkf⟩ (1048576 + (i + 1)) (by decide) rfl (Nat.le_refl _) (by have := hxf.1; first | exact this | exact Nat.zero_le _) hxf.2
            obtain ⟨wf, ef⟩ : ∃ x, we.setCell ⟨g, i * 6 + 4, none⟩ (.int .i64 0) = x := ⟨_, rfl⟩
            rw [ef] at hnf
            have HGf : Hid (GS w g c l.length rb rl (kidsF l a) (1048576 + (i + 1)) wf) := hnf
            clear hnf hxf hcf hwf
            go_upto_region 16 with fail
            clear ef cf ff
            go_wp2
            go_roundw
            case rel => exact ⟨i + 1, by go_num, by omega, HGf.out⟩
            case measure => simp [intOf]; omega
          · have r2 : decide (kkb = 0) = false := decide_eq_false hk0
            have r3 : (kkb == 0) = false := by simpa using hk0
            go_wp2
            go_roundw
            case rel => exact ⟨i + 1, by go_num, by omega, HGm.out⟩
            case measure => simp [intOf]; omega
        · have r0 : decide ((i : Int) > 0) = false := decide_eq_false (by omega)
          have r1 : decide ((0 : Int) < (i : Int)) = false := r0
          go_wp2
          go_roundw
          case rel => exact ⟨i + 1, by go_num, by omega, HGm.out⟩
          case measure => simp [intOf]; omega
    · have q0 : decide ((i : Int) < (l.length : Int)) = false := decide_eq_false (by omega)
      obtain ⟨X, ⟨hX, hXl⟩, hO⟩ := HGi.out.k
      have h0 : 0 < l.length := (all_of_w (shaped_sq HS.out) (by omega)).1
      have HXl : Hid (X.length = l.length) := hX
      have HTX : Hid (TS X) := ts_all hXl (by omega)
      have CT := twin_any (.slice (some ⟨g, 0, none⟩) X.length c) X (some ⟨g, 0, none⟩) c wr (no_pre hO) (by omega) (fun h => by cases h)
      rw [hX] at CT
      go_wp2_with fail
      refine CT.mono ?_
      clear CT
      rintro e w20 ⟨hb20, v20, rfl, hn20⟩
      obtain ⟨n20, ct, e20, _, hg20⟩ := own_slice hn20
      obtain ⟨gt, e21⟩ := hg20 (by omega)
      subst e20
      subst e21
      have HX0 : Hid (HX w g c l.length rb rl (kidsF l a) X gt ct w20) := by
        have hgs := HGi.out
        have h1 := own_mono2 hn20 hgs.bel.size
        have h2 : NO w.heap.size w20 (.slice (some ⟨gt, 0, none⟩) X.length ct) X := h1
        rw [hX] at h2
        exact ⟨hgs.bel.trans (hb20.mono hgs.bel.size), own_below hgs.ib hb20 (Nat.le_refl _), own_below hgs.il hb20 (Nat.le_refl _), own_below hO hb20 (Nat.le_refl _), h2⟩
      rw [hX]
      have CSh := rshaped_any X (some ⟨gt, 0, none⟩) ct w20 (no_nrg HX0.out.t) (by omega) HTX.out
      rw [hX] at CSh
      clear hb20 hn20 hg20 HGi hO hXl HTX
      go_wp2_with fail
      refine CSh.mono ?_
      clear CSh
      rintro e w21 ⟨rfl, hb21⟩
      have HX1 : Hid (HX w g c l.length rb rl (kidsF l a) X gt ct w21) := HX0.out.below hb21
      clear hb21 HX0
      cases hsX : shapedF X
      · clear hsX HIq HD HS
        go_wp2
        go_ret
        exact ⟨rfl, HX1.out.bel⟩
      have HSX : Hid (shapedF X = true) := hsX
      have s1 : key.length + 1 ≤ 9223372036854775807 := by omega
      have s2 : ¬ (9223372036854775807 < key.length + 1) := by omega
      clear hsX
      obtain ⟨mX, hmX⟩ : ∃ m, memF X a (key ++ [113]) = m := ⟨_, rfl⟩
      obtain ⟨bX, hbX⟩ : ∃ m, behindF X a = m := ⟨_, rfl⟩
      have HMX : Hid (memF X a (key ++ [113]) = mX) := hmX
      have HBX : Hid (behindF X a = bX) := hbX
      have CM : Calls Tryd.prog 7 #[.slice (some ⟨g, 0, none⟩) l.length c, .int .i64 a, .string (⟨key.toArray⟩ ++ ⟨#[113]⟩)] w21 fun e w' => e = .returned (.int .i64 (memF X a (key ++ [113]))) ∧ Below w21.heap.size w21 w' := kmem a (key ++ [113]) hX HX1.out.k (by omega)
      rw [hmX] at CM
      clear hmX hbX
      go_wp2_with fail
      refine CM.mono ?_
      clear CM
      rintro e w22 ⟨rfl, hb22⟩
      have HX2 : Hid (HX w g c l.length rb rl (kidsF l a) X gt ct w22) := HX1.out.below hb22
      clear hb22 HX1
      have CK := kkid a hX HX2.out.k (by omega)
      go_wp2_with fail
      refine CK.mono ?_
      clear CK
      rintro e w23 ⟨rd, rfl, hoi23⟩
      have HX3 : Hid (HX w g c l.length rb rl (kidsF l a) X gt ct w23) := HX2.out.below hoi23.bel
      have HOd : Hid (OI w22.heap.size w22 w23 rd (kidsF X a)) := hoi23
      clear hoi23 HX2
      have CB := kbeh a hX HX3.out.k (by omega)
      rw [HBX.out] at CB
      go_wp2_with fail
      refine CB.mono ?_
      clear CB
      rintro e w23' ⟨rfl, rfl⟩
      have CS := still_any X (some ⟨gt, 0, none⟩) ct g c w.heap.size w23' (no_nrg HX3.out.t) (by rw [hX]; exact HX3.out.k) (by omega)
      rw [hX] at CS
      go_wp2_with fail
      refine CS.mono ?_
      clear CS
      rintro e w24 ⟨rfl, q24, rfl⟩
      have hb24 : Below w23'.heap.size w23' (w23'.drewN q24) := below_drewN (Below.refl _ _) q24
      have HX4 : Hid (HX w g c l.length rb rl (kidsF l a) X gt ct (w23'.drewN q24)) := HX3.out.below hb24
      have HW4 : Hid (Below w23'.heap.size w23' (w23'.drewN q24)) := hb24
      clear hb24 HX3
      generalize w23'.drewN q24 = w24 at *
      have CK := rkid a hX HX4.out.t (by omega) HSX.out
      go_wp2_with fail
      refine CK.mono ?_
      clear CK
      rintro e w25 ⟨rm, rfl, hoi25⟩
      have HX5 : Hid (HX w g c l.length rb rl (kidsF l a) X gt ct w25) := HX4.out.below hoi25.bel
      have HOm : Hid (OI w24.heap.size w24 w25 rm (kidsF X a)) := hoi25
      have HW5 : Hid (Below w23'.heap.size w23' w25) := HW4.out.trans (hoi25.bel.mono HW4.out.size)
      clear hoi25 HX4 HW4
      have CM : Calls Tryd.prog 13 #[.slice (some ⟨gt, 0, none⟩) l.length ct, .int .i64 a, .string (⟨key.toArray⟩ ++ ⟨#[113]⟩)] w25 fun e w' => e = .returned (.int .i64 (memF X a (key ++ [113]))) ∧ Below w25.heap.size w25 w' := rmem a (key ++ [113]) hX HX5.out.t (by omega) HSX.out
      rw [HMX.out] at CM
      go_wp2_with fail
      refine CM.mono ?_
      clear CM
      rintro e w26 ⟨rfl, hb26⟩
      have HX6 : Hid (HX w g c l.length rb rl (kidsF l a) X gt ct w26) := HX5.out.below hb26
      have CS := sints HOd.out HOm.out (HW5.out.trans (hb26.mono HW5.out.size)) hb26 (by omega)
      clear hb26 HX5 HW5 HOd HOm
      go_wp2_with fail
      refine CS.mono ?_
      clear CS
      rintro e w27 ⟨rfl, q27, rfl⟩
      have HX7 : Hid (HX w g c l.length rb rl (kidsF l a) X gt ct (w26.drewN q27)) := HX6.out.below (below_drewN (Below.refl _ _) q27)
      clear HX6
      generalize w26.drewN q27 = w27 at *
      have CB := rbeh a hX HX7.out.t (by omega) HSX.out
      rw [HBX.out] at CB
      go_wp2_with fail
      refine CB.mono ?_
      clear CB
      rintro e w27' ⟨rfl, rfl⟩
      have CS := sints (w := w27') ⟨HX7.out.ib, HX7.out.bel⟩ ⟨HX7.out.il, HX7.out.bel⟩ (Below.refl _ _) (Below.refl _ _) (X := l) (a := a) (by omega)
      go_wp2_with fail
      refine CS.mono ?_
      clear CS
      rintro e w28 ⟨rfl, q28, rfl⟩
      have HX9 : Hid (HX w g c l.length rb rl (kidsF l a) X gt ct (w27'.drewN q28)) := HX7.out.below (below_drewN (Below.refl _ _) q28)
      clear HX7 HMX HBX
      generalize w27'.drewN q28 = w29 at *
      by_cases ha0 : a < 0
      · have z0 : decide (a < 0) = true := decide_eq_true ha0
        have CF := flattened_any X g c w.heap.size (0) key D w29 (by rw [HXl.out]; exact HX9.out.k) HSX.out (by omega) (by omega) (by omega) HD.out (fun i wq hi hq => HIq.out i wq hi (HX9.out.bel.grown hq HX9.out.bel.size (fun k hk => by cases hk; exact HLg.out)))
        rw [HXl.out] at CF
        clear HIq HD
        go_wp2_with fail
        refine CF.mono ?_
        clear CF
        rintro e w30 ⟨rfl, hg30⟩
        have HZ : Hid (Below w.heap.size w w30) := HX9.out.bel.grown hg30 HX9.out.bel.size (fun k hk => by cases hk; exact HLg.out)
        clear hg30 HX9
        go_wp2
        go_ret
        exact ⟨rfl, HZ.out⟩
      · have z0 : decide (a < 0) = false := decide_eq_false ha0
        by_cases ha1 : a ≥ (l.length : Int)
        · have z1 : decide (a ≥ (l.length : Int)) = true := decide_eq_true ha1
          have z2 : decide ((l.length : Int) ≤ a) = true := z1
          have CF := flattened_any X g c w.heap.size (0) key D w29 (by rw [HXl.out]; exact HX9.out.k) HSX.out (by omega) (by omega) (by omega) HD.out (fun i wq hi hq => HIq.out i wq hi (HX9.out.bel.grown hq HX9.out.bel.size (fun k hk => by cases hk; exact HLg.out)))
          rw [HXl.out] at CF
          clear HIq HD
          go_wp2_with fail
          refine CF.mono ?_
          clear CF
          rintro e w30 ⟨rfl, hg30⟩
          have HZ : Hid (Below w.heap.size w w30) := HX9.out.bel.grown hg30 HX9.out.bel.size (fun k hk => by cases hk; exact HLg.out)
          clear hg30 HX9
          go_wp2
          go_ret
          exact ⟨rfl, HZ.out⟩
        · have z1 : decide (a ≥ (l.length : Int)) = false := decide_eq_false ha1
          have z2 : decide ((l.length : Int) ≤ a) = false := z1
          have CF := flattened_any X g c w.heap.size (a) key D w29 (by rw [HXl.out]; exact HX9.out.k) HSX.out (by omega) (by omega) (by omega) HD.out (fun i wq hi hq => HIq.out i wq hi (HX9.out.bel.grown hq HX9.out.bel.size (fun k hk => by cases hk; exact HLg.out)))
          rw [HXl.out] at CF
          clear HIq HD
          go_wp2_with fail
          refine CF.mono ?_
          clear CF
          rintro e w30 ⟨rfl, hg30⟩
          have HZ : Hid (Below w.heap.size w w30) := HX9.out.bel.grown hg30 HX9.out.bel.size (fun k hk => by cases hk; exact HLg.out)
          clear hg30 HX9
          go_wp2
          go_ret
          exact ⟨rfl, HZ.out⟩

end Go.Proofs.YtcankapgjgonnaaDoor
