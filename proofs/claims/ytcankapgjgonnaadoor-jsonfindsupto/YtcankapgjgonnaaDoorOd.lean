import Derived.Test.YtcankapgjgonnaaDoorOc
import Derived.Test.YtcankapgjgonnaaDoorOb
import Derived.Test.YtcankapgjgonnaaDoorGd
import Derived.Test.YtcankapgjgonnaaDoorMb
namespace Go.Proofs.YtcankapgjgonnaaDoor
open Go.RowKit Go.Shelf

theorem oi_ir {B : Nat} {w0 w : World} {v : Value} {l : List Nat} (h : OI B w0 w v l) : ∃ ao cap, IR w v (l.map fun n : Nat => (n : Int)) ao cap := by
  have h1 : Own1 B w v (l.map fun n : Nat => (n : Int)) := by
    have := h.own
    unfold Own1
    rw [List.length_map, List.map_map]
    exact this
  obtain ⟨ao, cap, h2, _⟩ := own_ir h1
  exact ⟨ao, cap, h2⟩

theorem ts_all {l : List Nd} {N : Nat} (h : ∀ x ∈ l, x.text.length ≤ N ∧ x.key.length ≤ N) (hN : N ≤ 1000000000) : TS l := fun i hi => by
  have hm : l.getD i (nd0 0) ∈ l := by rw [List.getD_eq_getElem?_getD, List.getElem?_eq_getElem hi]; exact List.getElem_mem hi
  have := h _ hm
  omega
theorem keyd2_ts {key : List UInt8} {N : Nat} (hk : key.length ≤ N) : ∀ (l : List Nd), (∀ x ∈ l, x.text.length ≤ N ∧ x.key.length ≤ N) → ∀ x ∈ keyd2 key l, x.text.length ≤ N ∧ x.key.length ≤ N
  | [], h => h
  | [_], h => h
  | a :: b :: r, h => fun x hx => by
    have hx' : x ∈ a :: { b with key := key } :: r := hx
    rcases List.mem_cons.1 hx' with rfl | hx'
    · exact h _ (by simp)
    · rcases List.mem_cons.1 hx' with rfl | hx'
      · exact ⟨(h b (by simp)).1, hk⟩
      · exact h x (by simp [hx'])
theorem flatF_ts (key : List UInt8) (D : Nat → List UInt8) (n : Nat) (hD : ∀ i, (D i).length ≤ 100) : ∀ x ∈ flatF key D n, x.text.length ≤ key.length + 101 ∧ x.key.length ≤ key.length + 101 := by
  unfold flatF
  refine keyd2_ts (by omega) _ fun x hx => ?_
  rcases List.mem_or_eq_of_mem_set hx with hx | rfl
  · unfold flL at hx
    obtain ⟨i, _, rfl⟩ := List.mem_map.1 hx
    have := hD i
    simp [flN]
    omega
  · simp

/-- What stands in the law's flattened. -/
structure FS (B : Nat) (w : World) (g c gw cw gf cf : Nat) (l X Y : List Nd) (wx : World) : Prop where
  gr : w.grownBy wx (some g)
  k : NO B wx (.slice (some ⟨g, 0, none⟩) (l.length + 2) c) (X ++ [m91, m92])
  was : NO w.heap.size wx (.slice (some ⟨gw, 0, none⟩) l.length cw) l
  fl : NO w.heap.size wx (.slice (some ⟨gf, 0, none⟩) l.length cf) Y
theorem FS.below {B : Nat} {w : World} {g c gw cw gf cf : Nat} {l X Y : List Nd} {wx wy : World} (h : FS B w g c gw cw gf cf l X Y wx) (hb : Below wx.heap.size wx wy) : FS B w g c gw cw gf cf l X Y wy :=
  ⟨h.gr.trans (of_below hb _), own_below h.k hb (Nat.le_refl _), own_below h.was hb (Nat.le_refl _), own_below h.fl hb (Nat.le_refl _)⟩
theorem no_nrg {B : Nat} {w : World} {g n cap : Nat} {l : List Nd} (h : NO B w (.slice (some ⟨g, 0, none⟩) n cap) l) : NR w (.slice (some ⟨g, 0, none⟩) l.length cap) l (some ⟨g, 0, none⟩) cap :=
  no_pre (M := []) (by rw [List.append_nil]; exact h)
theorem kmem {B g n c : Nat} {X : List Nd} {w : World} (a : Int) (key : List UInt8) (hX : X.length = n) (h : NO B w (.slice (some ⟨g, 0, none⟩) (n + 2) c) (X ++ [m91, m92])) (hl : n ≤ 100000000) : Calls Tryd.prog 7 #[.slice (some ⟨g, 0, none⟩) n c, .int .i64 a, .string ⟨key.toArray⟩] w fun e w' => e = .returned (.int .i64 (memF X a key)) ∧ Below w.heap.size w w' := by
  subst hX
  exact member_any _ X _ c a key w (no_pre h) (by omega)
theorem kbeh {B g n c : Nat} {X : List Nd} {w : World} (a : Int) (hX : X.length = n) (h : NO B w (.slice (some ⟨g, 0, none⟩) (n + 2) c) (X ++ [m91, m92])) (hl : n ≤ 100000000) : Calls Tryd.prog 9 #[.slice (some ⟨g, 0, none⟩) n c, .int .i64 a] w fun e w' => e = .returned (.int .i64 (behindF X a)) ∧ w' = w := by
  subst hX
  exact behind_any _ X _ c a w (no_pre h) (by omega)
theorem kkid {B g n c : Nat} {X : List Nd} {w : World} (a : Int) (hX : X.length = n) (h : NO B w (.slice (some ⟨g, 0, none⟩) (n + 2) c) (X ++ [m91, m92])) (hl : n ≤ 100000000) : Calls Tryd.prog 8 #[.slice (some ⟨g, 0, none⟩) n c, .int .i64 a] w fun e w' => ∃ r, e = .returned r ∧ OI w.heap.size w w' r (kidsF X a) := by
  subst hX
  exact kids_any _ X _ c a w (no_pre h) (by omega)
theorem rmem {B g n c : Nat} {X : List Nd} {w : World} (a : Int) (key : List UInt8) (hX : X.length = n) (h : NO B w (.slice (some ⟨g, 0, none⟩) n c) X) (hl : n ≤ 100000000) (hs : shapedF X = true) : Calls Tryd.prog 13 #[.slice (some ⟨g, 0, none⟩) n c, .int .i64 a, .string ⟨key.toArray⟩] w fun e w' => e = .returned (.int .i64 (memF X a key)) ∧ Below w.heap.size w w' := by
  subst hX
  exact rmember_all X _ c a key w (no_nrg h) (by omega) hs
theorem rbeh {B g n c : Nat} {X : List Nd} {w : World} (a : Int) (hX : X.length = n) (h : NO B w (.slice (some ⟨g, 0, none⟩) n c) X) (hl : n ≤ 100000000) (hs : shapedF X = true) : Calls Tryd.prog 15 #[.slice (some ⟨g, 0, none⟩) n c, .int .i64 a] w fun e w' => e = .returned (.int .i64 (behindF X a)) ∧ w' = w := by
  subst hX
  exact rbehind_all X _ c a w (no_nrg h) (by omega) hs
theorem rkid {B g n c : Nat} {X : List Nd} {w : World} (a : Int) (hX : X.length = n) (h : NO B w (.slice (some ⟨g, 0, none⟩) n c) X) (hl : n ≤ 100000000) (hs : shapedF X = true) : Calls Tryd.prog 12 #[.slice (some ⟨g, 0, none⟩) n c, .int .i64 a] w fun e w' => ∃ r, e = .returned r ∧ OI w.heap.size w w' r (kidsF X a) := by
  subst hX
  exact rkids_all X _ c a w (no_nrg h) (by omega) hs
theorem kids_len2 {X : List Nd} {a : Int} (hl : X.length ≤ 100000000) : ((kidsF X a).map fun n : Nat => (n : Int)).length ≤ 1000000000 := by
  rw [List.length_map]
  unfold kidsF
  split
  · have := kidsF_len (v := X) (X.length + 1) (a.toNat + 1) (X.getD a.toNat (nd0 0)).kids (by omega)
    omega
  · simp
theorem sints {B1 B2 : Nat} {x1 x2 w1 w2 w : World} {v1 v2 : Value} {X : List Nd} {a : Int} (h1 : OI B1 x1 w1 v1 (kidsF X a)) (h2 : OI B2 x2 w2 v2 (kidsF X a)) (b1 : Below w1.heap.size w1 w) (b2 : Below w2.heap.size w2 w) (hl : X.length ≤ 100000000) : Calls Tryd.prog 14 #[v1, v2] w fun e w' => e = .returned (.bool true) ∧ ∃ q, w' = w.drewN q := by
  obtain ⟨a1, c1, i1⟩ := oi_ir h1
  obtain ⟨a2, c2, i2⟩ := oi_ir h2
  have := sameInts_any v1 v2 _ _ a1 a2 c1 c2 w (i1.below b1 (Nat.le_refl _)) (i2.below b2 (Nat.le_refl _)) (kids_len2 hl)
  rw [decide_eq_true rfl] at this
  exact this
theorem node_rng {B g n c i : Nat} {l : List Nd} {w : World} (h : NO B w (.slice (some ⟨g, 0, none⟩) n c) l) (hi : i < l.length) : w.rangeAt g (i * 6) (nC (l.getD i (nd0 0))) := fun j u hu => by
  obtain ⟨g', off, e, hc⟩ := (no_nrg h).at hi
  cases e
  have hj : j < 6 := (List.getElem?_eq_some_iff.1 hu).1
  have := hc j u hj hu
  rwa [Nat.zero_add] at this
theorem back_step {l F : List Nd} {i : Nat} (hF : F.length = l.length) (hi : i < l.length) : (l.take i ++ F.drop i).set i (l.getD i (nd0 0)) = l.take (i + 1) ++ F.drop (i + 1) := by
  have h1 : (l.take i).length = i := List.length_take_of_le (by omega)
  rw [List.set_append_right _ _ (by omega), h1, Nat.sub_self, List.drop_eq_getElem_cons (by omega : i < F.length), List.set_cons_zero, List.take_add_one, List.getElem?_eq_getElem hi, List.getD_eq_getElem?_getD, List.getElem?_eq_getElem hi, List.append_assoc]
  rfl

set_option maxRecDepth 100000 in
set_option maxHeartbeats 16000000 in
theorem flattened_any (l : List Nd) (g c B : Nat) (a : Int) (key : List UInt8) (D : Nat → List UInt8) (w : World) (hk : NO B w (.slice (some ⟨g, 0, none⟩) (l.length + 2) c) (l ++ [m91, m92])) (hs : shapedF l = true) (h0 : 0 < l.length) (hl : l.length ≤ 100000000) (hkl : key.length ≤ 100000000) (hD : ∀ i, (D i).length ≤ 100)
    (HI : ∀ (i : Nat) (wq : World), i ≤ 100000000 → w.grownBy wq (some g) → Calls Tryd.prog 31 #[.int .i64 (i : Int)] wq fun e w' => e = .returned (.string ⟨(D i).toArray⟩) ∧ Below wq.heap.size wq w') :
    Calls Tryd.prog 17 #[.slice (some ⟨g, 0, none⟩) l.length c, .int .i64 a, .string ⟨key.toArray⟩] w fun e w' => e = .returned (.bool true) ∧ w.grownBy w' (some g) := by
  have hgl := (hk.lt g rfl).2
  obtain ⟨F, hF⟩ : ∃ F, flatF key D l.length = F := ⟨_, rfl⟩
  have hFl : F.length = l.length := by rw [← hF, flatF_length]
  have HFT : Hid (TS F) := by
    rw [← hF]
    exact ts_all (N := key.length + 101) (flatF_ts key D l.length hD) (by omega)
  have HIq : Hid (∀ (i : Nat) (wq : World), i ≤ 100000000 → w.grownBy wq (some g) → Calls Tryd.prog 31 #[.int .i64 (i : Int)] wq fun e w' => e = .returned (.string ⟨(D i).toArray⟩) ∧ Below wq.heap.size wq w') := HI
  have HD : Hid (∀ i, (D i).length ≤ 100) := hD
  have HK : Hid (NO B w (.slice (some ⟨g, 0, none⟩) (l.length + 2) c) (l ++ [m91, m92])) := hk
  have HGl : Hid (g < w.heap.size) := hgl
  have HFl : Hid (F.length = l.length) := hFl
  have HF : Hid (flatF key D l.length = F) := hF
  have HS : Hid (shapedF l = true) := hs
  have CT := twin_any (.slice (some ⟨g, 0, none⟩) l.length c) l (some ⟨g, 0, none⟩) c w (no_pre hk) (by omega) (fun h => by cases h)
  clear HI hD hk hgl hFl hF hs
  go_enter Tryd.func17, Tryd.ntmps17
  go_wp2_with fail
  refine CT.mono ?_
  clear CT
  rintro e w1 ⟨hb1, v1, rfl, hn1⟩
  obtain ⟨n1, cw, e1, _, hg1⟩ := own_slice hn1
  obtain ⟨gw, e2⟩ := hg1 h0
  subst e1
  subst e2
  have HB1 : Hid (Below w.heap.size w w1) := hb1
  have HN1 : Hid (NO w.heap.size w1 (.slice (some ⟨gw, 0, none⟩) l.length cw) l) := hn1
  have CT := twin_any (.slice (some ⟨g, 0, none⟩) l.length c) l (some ⟨g, 0, none⟩) c w1 (no_pre (own_below HK.out hb1 (Nat.le_refl _))) (by omega) (fun h => by cases h)
  have HW1 : Hid (w.heap.size ≤ w1.heap.size) := hb1.size
  clear hb1 hn1 hg1
  go_wp2_with fail
  refine CT.mono ?_
  clear CT
  rintro e w2 ⟨hb2, v2, rfl, hn2⟩
  obtain ⟨n2, cf, e1, _, hg2⟩ := own_slice hn2
  obtain ⟨gf, e2⟩ := hg2 h0
  subst e1
  subst e2
  have hB2 : Below w.heap.size w w2 := HB1.out.trans (hb2.mono HB1.out.size)
  have HLf : Hid (w.heap.size ≤ gf ∧ gw < gf) := ⟨Nat.le_trans HB1.out.size (hn2.lt gf rfl).1, Nat.lt_of_lt_of_le (HN1.out.lt gw rfl).2 (hn2.lt gf rfl).1⟩
  have HLw : Hid (w.heap.size ≤ gw) := (HN1.out.lt gw rfl).1
  have HFS : Hid (FS B w g c gw cw gf cf l (l) (l) w2) := ⟨of_below hB2 _, own_below HK.out hB2 (Nat.le_refl _), own_below HN1.out hb2 (Nat.le_refl _), own_mono2 hn2 HB1.out.size⟩
  have CF := flat_any l [] gf cf w1.heap.size key D w2 (by rw [List.append_nil]; exact hn2) h0 hl (by omega) HD.out (fun i wq hi hq => HIq.out i wq hi (HFS.out.gr.andThen hq (fun j hj => by cases hj; exact .inl HLf.out.1)))
  rw [HF.out, List.append_nil] at CF
  clear hb2 hn2 hg2 hB2 HB1 HN1 HK
  go_wp2_with fail
  refine CF.mono ?_
  clear CF
  rintro e w3 ⟨rfl, hn3, hg3⟩
  have HFS3 : Hid (FS B w g c gw cw gf cf l (l) (F) w3) := ⟨HFS.out.gr.andThen hg3 (fun j hj => by cases hj; exact .inl HLf.out.1), own_keep HFS.out.k fun j hj => hg3.block j (HFS.out.k.lt j hj).2 (fun e => by have h1 := (Option.some.inj hj : g = j); have h2 := Option.some.inj e; have := HGl.out; have := HLf.out.1; omega), own_keep HFS.out.was fun j hj => hg3.block j (HFS.out.was.lt j hj).2 (fun e => by have h1 := (Option.some.inj hj : gw = j); have h2 := Option.some.inj e; have := HLf.out.2; omega), own_mono2 hn3 HW1.out⟩
  clear hn3 hg3 HFS
  have CSh := rshaped_any F (some ⟨gf, 0, none⟩) cf w3 (no_nrg HFS3.out.fl) (by have := HFl.out; omega) HFT.out
  rw [HFl.out] at CSh
  go_wp2_with fail
  refine CSh.mono ?_
  clear CSh
  rintro e w4 ⟨rfl, hb4⟩
  have HFS4 : Hid (FS B w g c gw cw gf cf l (l) (F) w4) := HFS3.out.below hb4
  clear hb4 HFS3
  cases hsF : shapedF F
  · clear hsF HIq HD HF HS
    go_wp2
    go_ret
    exact ⟨rfl, HFS4.out.gr⟩
  have HSF : Hid (shapedF F = true) := hsF
  clear hsF
  have CM := kmem a key rfl HFS4.out.k hl
  generalize memF l a key = m0 at CM
  go_wp2_with fail
  refine CM.mono ?_
  clear CM
  rintro e w5 ⟨rfl, hb5⟩
  have HFS5 : Hid (FS B w g c gw cw gf cf l (l) (F) w5) := HFS4.out.below hb5
  clear hb5 HFS4
  have CB := kbeh a rfl HFS5.out.k hl
  generalize behindF l a = b0 at CB
  go_wp2_with fail
  refine CB.mono ?_
  clear CB
  rintro e w6 ⟨rfl, rfl⟩
  have CK := kkid a rfl HFS5.out.k hl
  go_wp2_with fail
  refine CK.mono ?_
  clear CK
  rintro e w7 ⟨r7, rfl, hoi7⟩
  have HFS7 : Hid (FS B w g c gw cw gf cf l (l) (F) w7) := HFS5.out.below hoi7.bel
  clear hoi7 HFS5
  have CF := flat_any l [m91, m92] g c B key D w7 HFS7.out.k h0 hl (by omega) HD.out (fun i wq hi hq => HIq.out i wq hi (HFS7.out.gr.trans hq))
  rw [HF.out] at CF
  clear HIq HD HF
  go_wp2_with fail
  refine CF.mono ?_
  clear CF
  rintro e w8 ⟨rfl, hn8, hg8⟩
  have HFS8 : Hid (FS B w g c gw cw gf cf l (F) (F) w8) := ⟨HFS7.out.gr.trans hg8, hn8, own_keep HFS7.out.was fun j hj => hg8.block j (HFS7.out.was.lt j hj).2 (fun e => by have h1 := (Option.some.inj hj : gw = j); have h2 := Option.some.inj e; have := HLw.out; have := HGl.out; omega), own_keep HFS7.out.fl fun j hj => hg8.block j (HFS7.out.fl.lt j hj).2 (fun e => by have h1 := (Option.some.inj hj : gf = j); have h2 := Option.some.inj e; have := HLf.out.1; have := HGl.out; omega)⟩
  clear hn8 hg8 HFS7
  have CM := kmem a key HFl.out HFS8.out.k hl
  obtain ⟨mF, hmF⟩ : ∃ m, memF F a key = m := ⟨_, rfl⟩
  obtain ⟨bF, hbF⟩ : ∃ m, behindF F a = m := ⟨_, rfl⟩
  rw [hmF] at CM
  have HMF : Hid (memF F a key = mF) := hmF
  have HBF : Hid (behindF F a = bF) := hbF
  clear hmF hbF
  go_wp2_with fail
  refine CM.mono ?_
  clear CM
  rintro e w9 ⟨rfl, hb9⟩
  have HFS9 : Hid (FS B w g c gw cw gf cf l (F) (F) w9) := HFS8.out.below hb9
  clear hb9 HFS8
  have CB := kbeh a HFl.out HFS9.out.k hl
  rw [HBF.out] at CB
  go_wp2_with fail
  refine CB.mono ?_
  clear CB
  rintro e w9' ⟨rfl, rfl⟩
  have CK := kkid a HFl.out HFS9.out.k hl
  go_wp2_with fail
  refine CK.mono ?_
  clear CK
  rintro e w10 ⟨r10, rfl, hoi10⟩
  have HO10 : Hid (OI w9'.heap.size w9' w10 r10 (kidsF F a)) := hoi10
  have HFS10 : Hid (FS B w g c gw cw gf cf l (F) (F) w10) := HFS9.out.below hoi10.bel
  clear hoi10 HFS9
  have CK := rkid a HFl.out HFS10.out.fl hl HSF.out
  go_wp2_with fail
  refine CK.mono ?_
  clear CK
  rintro e w11 ⟨r11, rfl, hoi11⟩
  have HO11 : Hid (OI w10.heap.size w10 w11 r11 (kidsF F a)) := hoi11
  have HFS11 : Hid (FS B w g c gw cw gf cf l (F) (F) w11) := HFS10.out.below hoi11.bel
  have HW11 : Hid (Below w10.heap.size w10 w11) := hoi11.bel
  clear hoi11 HFS10
  have CM := rmem a key HFl.out HFS11.out.fl hl HSF.out
  rw [HMF.out] at CM
  go_wp2_with fail
  refine CM.mono ?_
  clear CM
  rintro e w12 ⟨rfl, hb12⟩
  have HFS12 : Hid (FS B w g c gw cw gf cf l (F) (F) w12) := HFS11.out.below hb12
  have CS := sints HO10.out HO11.out (HW11.out.trans (hb12.mono HW11.out.size)) hb12 (by have := HFl.out; omega)
  clear hb12 HFS11 HO10 HO11 HW11
  have CB := rbeh a HFl.out HFS12.out.fl hl HSF.out
  rw [HBF.out] at CB
  go_wp2_with fail
  refine CB.mono ?_
  clear CB
  rintro e w12' ⟨rfl, rfl⟩
  go_wp2_with fail
  refine CS.mono ?_
  clear CS
  rintro e w13 ⟨rfl, q13, rfl⟩
  have HFS13 : Hid (FS B w g c gw cw gf cf l (F) (F) (w12'.drewN q13)) := HFS12.out.below (below_drewN (Below.refl _ _) q13)
  generalize w12'.drewN q13 = w13 at *
  clear HFS12 HMF HBF HSF HFT
  go_wp2
  go_loopw [14] (fun s wx => ∃ i : Nat, s = .int .i64 i ∧ i ≤ l.length ∧ FS B w g c gw cw gf cf l (l.take i ++ F.drop i) (F) wx) (fun s _ => l.length - (intOf s).toNat)
  case atStart => exact ⟨0, rfl, Nat.zero_le _, by rw [List.take_zero, List.drop_zero, List.nil_append]; exact HFS13.out⟩
  case round =>
    obtain ⟨i, rfl, hi, hfs⟩ := hrel
    clear HFS13
    have HFi : Hid (FS B w g c gw cw gf cf l (l.take i ++ F.drop i) (F) wr) := hfs
    by_cases hlt : i < l.length
    · have q0 : decide ((i : Int) < (l.length : Int)) = true := decide_eq_true (by omega)
      have q1 : (i : Int) < (l.length : Int) := by omega
      have p0 := node_rng hfs.was hlt
      have hlen : ((l.take i ++ F.drop i) ++ [m91, m92]).length = l.length + 2 := by have := HFl.out; simp; omega
      have hs := no_set hfs.k hlen i (l.getD i (nd0 0)) (by omega)
      rw [List.set_append_left _ _ (by have := HFl.out; simp; omega), back_step HFl.out hlt] at hs
      obtain ⟨w2', hw2⟩ : ∃ x, wr.setCells g (i * 6) (nC (l.getD i (nd0 0))) = x := ⟨_, rfl⟩
      rw [hw2] at hs
      have HS2 : Hid (FS B w g c gw cw gf cf l (l.take (i + 1) ++ F.drop (i + 1)) (F) w2') := ⟨hfs.gr.trans hs.2.1, hs.1, own_keep hfs.was fun j hj => hs.2.1.block j (hfs.was.lt j hj).2 (fun e => by have h1 := (Option.some.inj hj : gw = j); have h2 := Option.some.inj e; have := HLw.out; have := HGl.out; omega), own_keep hfs.fl fun j hj => hs.2.1.block j (hfs.fl.lt j hj).2 (fun e => by have h1 := (Option.some.inj hj : gf = j); have h2 := Option.some.inj e; have := HLf.out.1; have := HGl.out; omega)⟩
      have HTh : Hid (wr.there g (i * 6) 6) := hs.2.2
      obtain ⟨x, hx⟩ : ∃ x, l.getD i (nd0 0) = x := ⟨_, rfl⟩
      rw [hx] at hw2 p0
      obtain ⟨kd, ky, tx, wh, it, kk⟩ := x
      have HW2 : Hid (wr.setCells g (i * 6) (#[.int .i64 kd, .string ⟨ky.toArray⟩, .string ⟨tx.toArray⟩, .bool wh, .int .i64 it, .int .i64 kk] : Array Value).toList = w2') := hw2
      have hinf : (Tryd.prog.info? 33).map (·.size) = some 6 := by kernel_rfl
      have hcn : (Tryd.prog.info? 33).map (·.size) = some ([.int .i64 kd, .string ⟨ky.toArray⟩, .string ⟨tx.toArray⟩, .bool wh, .int .i64 it, .int .i64 kk] : List Value).length := hinf
      clear hfs hs hw2 hlen hx HFi
      go_wp2_with (first | (refine wpList_load_mid rfl 33 (.tmp 85) rfl gw (i * 6) rfl [.int .i64 kd, .string ⟨ky.toArray⟩, .string ⟨tx.toArray⟩, .bool wh, .int .i64 it, .int .i64 kk] _ p0 Tryd.underlying33 rfl hcn ?_) | (refine wpList_store_mid rfl 33 (.tmp 87) (.tmp 86) rfl g (i * 6) #[.int .i64 kd, .string ⟨ky.toArray⟩, .string ⟨tx.toArray⟩, .bool wh, .int .i64 it, .int .i64 kk] rfl rfl HTh.out hinf (by simp [Value.oneCell']) ?_; rw [HW2.out]; clear HW2 HTh))
      go_roundw
      case rel => exact ⟨i + 1, by go_num, by omega, HS2.out⟩
      case measure => simp [intOf]; omega
    · have q0 : decide ((i : Int) < (l.length : Int)) = false := decide_eq_false (by omega)
      have HFS14 : Hid (FS B w g c gw cw gf cf l (l) (F) wr) := by
        have h := HFi.out
        rw [show i = l.length by omega, List.take_length, List.drop_of_length_le (by rw [HFl.out]; omega), List.append_nil] at h
        exact h
      obtain ⟨mL, hmL⟩ : ∃ m, memF l a key = m := ⟨_, rfl⟩
      obtain ⟨bL, hbL⟩ : ∃ m, behindF l a = m := ⟨_, rfl⟩
      have HML : Hid (memF l a key = mL) := hmL
      have HBL : Hid (behindF l a = bL) := hbL
      have CM := kmem a key rfl HFS14.out.k hl
      rw [hmL] at CM
      clear hmL hbL hfs HFi
      go_wp2_with fail
      refine CM.mono ?_
      clear CM
      rintro e w15 ⟨rfl, hb15⟩
      have HFS15 : Hid (FS B w g c gw cw gf cf l (l) (F) w15) := HFS14.out.below hb15
      clear hb15 HFS14
      have CB := kbeh a rfl HFS15.out.k hl
      rw [HBL.out] at CB
      go_wp2_with fail
      refine CB.mono ?_
      clear CB
      rintro e w15' ⟨rfl, rfl⟩
      have CK := kkid a rfl HFS15.out.k hl
      go_wp2_with fail
      refine CK.mono ?_
      clear CK
      rintro e w16 ⟨r16, rfl, hoi16⟩
      have HO16 : Hid (OI w15'.heap.size w15' w16 r16 (kidsF l a)) := hoi16
      have HFS16 : Hid (FS B w g c gw cw gf cf l (l) (F) w16) := HFS15.out.below hoi16.bel
      clear hoi16 HFS15
      have CK := rkid a rfl HFS16.out.was hl HS.out
      go_wp2_with fail
      refine CK.mono ?_
      clear CK
      rintro e w17 ⟨r17, rfl, hoi17⟩
      have HO17 : Hid (OI w16.heap.size w16 w17 r17 (kidsF l a)) := hoi17
      have HFS17 : Hid (FS B w g c gw cw gf cf l (l) (F) w17) := HFS16.out.below hoi17.bel
      have HW17 : Hid (Below w16.heap.size w16 w17) := hoi17.bel
      clear hoi17 HFS16
      have CM := rmem a key rfl HFS17.out.was hl HS.out
      rw [HML.out] at CM
      go_wp2_with fail
      refine CM.mono ?_
      clear CM
      rintro e w18 ⟨rfl, hb18⟩
      have HFS18 : Hid (FS B w g c gw cw gf cf l (l) (F) w18) := HFS17.out.below hb18
      have CS := sints HO16.out HO17.out (HW17.out.trans (hb18.mono HW17.out.size)) hb18 hl
      clear hb18 HFS17 HO16 HO17 HW17
      have CB := rbeh a rfl HFS18.out.was hl HS.out
      rw [HBL.out] at CB
      go_wp2_with fail
      refine CB.mono ?_
      clear CB
      rintro e w18' ⟨rfl, rfl⟩
      go_wp2_with fail
      refine CS.mono ?_
      clear CS
      rintro e w19 ⟨rfl, q19, rfl⟩
      have HFS19 : Hid (FS B w g c gw cw gf cf l (l) (F) (w18'.drewN q19)) := HFS18.out.below (below_drewN (Below.refl _ _) q19)
      clear HFS18
      go_wp2
      go_ret
      exact ⟨rfl, HFS19.out.gr⟩

end Go.Proofs.YtcankapgjgonnaaDoor
