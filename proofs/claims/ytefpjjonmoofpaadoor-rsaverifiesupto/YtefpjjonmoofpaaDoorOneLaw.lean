import Derived.Test.YtefpjjonmoofpaaDoorAlive
namespace Go.Proofs.YtefpjjonmoofpaaDoor
open Go.RowKit

/-- A sum of one message, as a law asks it. -/
theorem sum1 (h : Int) (a : Option Addr) (c : Nat) (m : List UInt8) (w : World) (T : Sha.Tb w) (r : Rd w a m) (hc : m.length ≤ c) (hc2 : c ≤ 9223372036854775807) (hm : m.length ≤ 100000000) :
    Calls Tryd.prog 12 #[.int .i64 h, .slice (some ⟨w.heap.size, 0, none⟩) 1 1] (w.alloc (.cells #[.slice a m.length c] 23)) fun e w' => ∃ a', e = .returned (.slice a' (Sha.sumF h m).length (Sha.siz h)) ∧ Rd w' a' (Sha.sumF h m) ∧ Below w.heap.size w w' := by
  have b := alloc_below w (.cells #[.slice a m.length c] 23)
  have C := Sha.ssum_any h (some ⟨w.heap.size, 0, none⟩) 1 [⟨a, c, m⟩] (w.alloc (.cells #[.slice a m.length c] 23)) (T.below b) (parts_one w ⟨a, c, m⟩ ⟨r, hc, hc2⟩) (by simp) (by simp [Sha.cat]; omega)
  rw [show Sha.cat [⟨a, c, m⟩] = m by simp [Sha.cat]] at C
  refine C.mono ?_
  rintro e w' ⟨a', rfl, h1, h2⟩
  refine ⟨a', by rw [Sha.sumF_length], Sha.Own.rd h1, b.trans (h2.mono b.size)⟩

theorem emV_inj (h : Int) (m1 m2 : List UInt8) (n : Nat) (e : emV h m1 n = emV h m2 n) : Sha.sumF h m1 = Sha.sumF h m2 := by
  unfold emV at e
  exact List.append_cancel_left e
theorem emV_of (h : Int) (m1 m2 : List UInt8) (n : Nat) (e : Sha.sumF h m1 = Sha.sumF h m2) : emV h m1 n = emV h m2 n := by unfold emV; rw [e]
theorem bv_inj {l1 l2 : List UInt8} (hl : l1.length = l2.length) (h : bv l1 = bv l2) : l1 = l2 := by
  rw [← ktobe_bv l1.length l1 rfl, h, hl, ktobe_bv l2.length l2 rfl]
theorem verV_of (h : Int) (n e m1 m2 s : List UInt8) (hs : Sha.sumF h m1 = Sha.sumF h m2) : verV h n e m1 s = verV h n e m2 s := by unfold verV; rw [emV_of h m1 m2 _ hs]
theorem verV_zero {h : Int} {n e m s : List UInt8} (hv : verV h n e m s = 0) : isHB h = true ∧ keyC n e = 0 ∧ s.length = n.length ∧ bv s < bv n ∧ bv s ^ bv e % bv n = bv (emV h m n.length) := by
  unfold verV at hv
  by_cases h1 : isHB h = false
  · rw [if_pos h1] at hv; cases hv
  rw [if_neg h1] at hv
  by_cases h2 : keyC n e ≠ 0
  · rw [if_pos h2] at hv; cases hv
  rw [if_neg h2] at hv
  by_cases h3 : s.length ≠ n.length
  · rw [if_pos h3] at hv; cases hv
  rw [if_neg h3] at hv
  by_cases h4 : bv n ≤ bv s
  · rw [if_pos h4] at hv; cases hv
  rw [if_neg h4] at hv
  by_cases h5 : bv s ^ bv e % bv n = bv (emV h m n.length)
  · exact ⟨by simpa using h1, by simpa using h2, by simpa using h3, by omega, h5⟩
  · rw [if_neg h5] at hv; cases hv
theorem verV_two {h : Int} {n e m1 m2 s : List UInt8} (h1 : verV h n e m1 s = 0) (h2 : verV h n e m2 s = 0) : Sha.sumF h m1 = Sha.sumF h m2 := by
  obtain ⟨_, hk, _, _, e1⟩ := verV_zero h1
  obtain ⟨_, _, _, _, e2⟩ := verV_zero h2
  have kp := key_parts hk
  have := siz_le64 h
  refine emV_inj h m1 m2 n.length (bv_inj ?_ (by rw [← e1, ← e2]))
  rw [emV_length _ _ _ (by have := kp.n1; omega), emV_length _ _ _ (by have := kp.n1; omega)]
theorem verV_none {h : Int} (n e m s : List UInt8) (hh : isHB h = false) : verV h n e m s = 111 := by unfold verV; rw [if_pos hh]

set_option maxRecDepth 100000 in
set_option maxHeartbeats 8000000 in
theorem one_core (h : Int) (a1 a2 a3 a4 a5 : Option Addr) (c1 c2 c3 c4 c5 : Nat) (n e m1 m2 s : List UInt8) (W : World) (T : Sha.Tb W) (I : Inf W) (r1 : Rd W a1 n) (r2 : Rd W a2 e) (r3 : Rd W a3 m1) (r4 : Rd W a4 m2) (r5 : Rd W a5 s)
    (k3 : m1.length ≤ c3) (k3' : c3 ≤ 9223372036854775807) (k4 : m2.length ≤ c4) (k4' : c4 ≤ 9223372036854775807) (l1 : n.length ≤ 3000000) (l2 : e.length ≤ 3000000) (l3 : m1.length ≤ 3000000) (l4 : m2.length ≤ 3000000) (l5 : s.length ≤ 3000000) :
    Calls Tryd.prog 6 #[.int .i64 h, .slice a1 n.length c1, .slice a2 e.length c2, .slice a3 m1.length c3, .slice a4 m2.length c4, .slice a5 s.length c5] W fun x w' => x = .returned (.bool true) ∧ Below W.heap.size W w' := by
  have HT : Hid (Sha.Tb W) := T
  have HI : Hid (Inf W) := I
  have H1 : Hid (Rd W a1 n) := r1
  have H2 : Hid (Rd W a2 e) := r2
  have H3 : Hid (Rd W a3 m1) := r3
  have H4 : Hid (Rd W a4 m2) := r4
  have H5 : Hid (Rd W a5 s) := r5
  have CA := alive9 W T I
  clear T I r1 r2 r3 r4 r5
  have VA : ∀ w, Below W.heap.size W w → Calls Tryd.prog 18 #[.int .i64 h, .slice a1 n.length c1, .slice a2 e.length c2, .slice a3 m1.length c3, .slice a5 s.length c5] w fun x w' => x = .returned (.int .i64 (verV h n e m1 s)) ∧ Below w.heap.size w w' := fun w b =>
    verify_any h a1 a2 a3 a5 c1 c2 c3 c5 n e m1 s w (HT.out.below b) (HI.out.below b) (H1.out.below b (Nat.le_refl _)) (H2.out.below b (Nat.le_refl _)) (H3.out.below b (Nat.le_refl _)) (H5.out.below b (Nat.le_refl _)) k3 k3' (by omega) (by omega) (by omega) (by omega)
  have VB : ∀ w, Below W.heap.size W w → Calls Tryd.prog 18 #[.int .i64 h, .slice a1 n.length c1, .slice a2 e.length c2, .slice a4 m2.length c4, .slice a5 s.length c5] w fun x w' => x = .returned (.int .i64 (verV h n e m2 s)) ∧ Below w.heap.size w w' := fun w b =>
    verify_any h a1 a2 a4 a5 c1 c2 c4 c5 n e m2 s w (HT.out.below b) (HI.out.below b) (H1.out.below b (Nat.le_refl _)) (H2.out.below b (Nat.le_refl _)) (H4.out.below b (Nat.le_refl _)) (H5.out.below b (Nat.le_refl _)) k4 k4' (by omega) (by omega) (by omega) (by omega)
  have SA : ∀ w, Below W.heap.size W w → Calls Tryd.prog 12 #[.int .i64 h, .slice (some ⟨w.heap.size, 0, none⟩) 1 1] (w.alloc (.cells #[.slice a3 m1.length c3] 23)) fun e w' => ∃ a', e = .returned (.slice a' (Sha.sumF h m1).length (Sha.siz h)) ∧ Rd w' a' (Sha.sumF h m1) ∧ Below w.heap.size w w' := fun w b =>
    sum1 h a3 c3 m1 w (HT.out.below b) (H3.out.below b (Nat.le_refl _)) k3 k3' (by omega)
  have SB : ∀ w, Below W.heap.size W w → Calls Tryd.prog 12 #[.int .i64 h, .slice (some ⟨w.heap.size, 0, none⟩) 1 1] (w.alloc (.cells #[.slice a4 m2.length c4] 23)) fun e w' => ∃ a', e = .returned (.slice a' (Sha.sumF h m2).length (Sha.siz h)) ∧ Rd w' a' (Sha.sumF h m2) ∧ Below w.heap.size w w' := fun w b =>
    sum1 h a4 c4 m2 w (HT.out.below b) (H4.out.below b (Nat.le_refl _)) k4 k4' (by omega)
  have HVA : Hid (∀ w, Below W.heap.size W w → Calls Tryd.prog 18 #[.int .i64 h, .slice a1 n.length c1, .slice a2 e.length c2, .slice a3 m1.length c3, .slice a5 s.length c5] w fun x w' => x = .returned (.int .i64 (verV h n e m1 s)) ∧ Below w.heap.size w w') := VA
  have HVB : Hid (∀ w, Below W.heap.size W w → Calls Tryd.prog 18 #[.int .i64 h, .slice a1 n.length c1, .slice a2 e.length c2, .slice a4 m2.length c4, .slice a5 s.length c5] w fun x w' => x = .returned (.int .i64 (verV h n e m2 s)) ∧ Below w.heap.size w w') := VB
  have HSA : Hid (∀ w, Below W.heap.size W w → Calls Tryd.prog 12 #[.int .i64 h, .slice (some ⟨w.heap.size, 0, none⟩) 1 1] (w.alloc (.cells #[.slice a3 m1.length c3] 23)) fun e w' => ∃ a', e = .returned (.slice a' (Sha.sumF h m1).length (Sha.siz h)) ∧ Rd w' a' (Sha.sumF h m1) ∧ Below w.heap.size w w') := SA
  have HSB : Hid (∀ w, Below W.heap.size W w → Calls Tryd.prog 12 #[.int .i64 h, .slice (some ⟨w.heap.size, 0, none⟩) 1 1] (w.alloc (.cells #[.slice a4 m2.length c4] 23)) fun e w' => ∃ a', e = .returned (.slice a' (Sha.sumF h m2).length (Sha.siz h)) ∧ Rd w' a' (Sha.sumF h m2) ∧ Below w.heap.size w w') := SB
  clear VA VB SA SB HT HI H1 H2 H3 H4 H5
  have hl1 : (Sha.sumF h m1).length ≤ 64 := by rw [Sha.sumF_length]; exact siz_le64 h
  have HL1 : Hid ((Sha.sumF h m1).length ≤ 64) := hl1
  clear hl1 k3 k3' k4 k4' l1 l2 l3 l4 l5
  have Htwo : Hid (verV h n e m1 s = 0 → verV h n e m2 s = 0 → Sha.sumF h m1 = Sha.sumF h m2) := verV_two
  have Hof : Hid (Sha.sumF h m1 = Sha.sumF h m2 → verV h n e m1 s = verV h n e m2 s) := verV_of h n e m1 m2 s
  have Hno : Hid (isHB h = false → verV h n e m1 s = 111 ∧ verV h n e m2 s = 111) := fun hh => ⟨verV_none n e m1 s hh, verV_none n e m2 s hh⟩
  have dself : ∀ x : Int, (x == x) = true := fun x => by simp
  have CN := lknown_any h
  generalize verV h n e m1 s = A at *
  generalize verV h n e m2 s = Bv at *
  generalize isHB h = hb at *
  generalize Sha.sumF h m1 = S1 at *
  generalize Sha.sumF h m2 = S2 at *
  generalize Sha.siz h = sz at *
  have HCN : Hid (∀ w, Calls Tryd.prog 11 #[.int .i64 h] w fun e w' => e = .returned (.bool hb) ∧ w' = w) := CN
  clear CN
  go_enter Tryd.func6, Tryd.ntmps6
  go_wp2_with fail
  refine CA.mono ?_
  rintro x w1 ⟨rfl, hb1⟩
  clear CA
  have HB1 : Hid (Below W.heap.size W w1) := hb1
  clear hb1
  go_wp2_with fail
  refine (HVA.out _ HB1.out).mono ?_
  rintro x w2 ⟨rfl, hb2⟩
  have HB2 : Hid (Below W.heap.size W w2) := HB1.out.trans (hb2.mono HB1.out.size)
  clear hb2 HB1
  go_wp2_with fail
  refine (HVB.out _ HB2.out).mono ?_
  rintro x w3 ⟨rfl, hb3⟩
  have HB3 : Hid (Below W.heap.size W w3) := HB2.out.trans (hb3.mono HB2.out.size)
  clear hb3 HB2 HVB
  cases hb
  · obtain ⟨eA, eB⟩ := Hno.out rfl
    subst eA
    subst eB
    clear Htwo Hof Hno
    go_wp2_with fail
    refine (HCN.out _).mono ?_
    rintro x vk ⟨rfl, rfl⟩
    go_wp2_with fail
    refine (HVA.out _ HB3.out).mono ?_
    rintro x v10 ⟨rfl, hq⟩
    have HZ : Hid (Below W.heap.size W v10) := HB3.out.trans (hq.mono HB3.out.size)
    clear hq HB3 HVA
    go_wp2
    go_ret
    exact ⟨rfl, HZ.out⟩
  · by_cases hA : A = 0
    · have dA : (A == 0) = true := beq_iff_eq.2 hA
      by_cases hB : Bv = 0
      · have dB : (Bv == 0) = true := beq_iff_eq.2 hB
        have HE : Hid (decide (S1 = S2) = true) := decide_eq_true (Htwo.out hA hB)
        have dAB : (A != Bv) = false := by rw [hA, hB]; rfl
        clear Htwo Hof Hno hA hB
        go_wp2_with fail
        refine (HSA.out _ HB3.out).mono ?_
        rintro x v11a ⟨p11, rfl, hr1, hq⟩
        have K11a : Hid (Below W.heap.size W v11a) := HB3.out.trans (hq.mono HB3.out.size)
        have R11a : Hid (Rd v11a p11 S1) := hr1
        clear hq hr1 HB3
        go_wp2_with fail
        refine (HSB.out _ K11a.out).mono ?_
        rintro x v11b ⟨q11, rfl, hr2, hq⟩
        have K11b : Hid (Below W.heap.size W v11b) := K11a.out.trans (hq.mono K11a.out.size)
        have CM := lsame_any p11 q11 sz sz S1 S2 v11b (R11a.out.below hq (Nat.le_refl _)) hr2 (by have := HL1.out; omega)
        rw [HE.out] at CM
        clear hq hr2 K11a R11a
        go_wp2_with fail
        refine CM.mono ?_
        rintro x v11c ⟨rfl, z11, hz⟩
        have K11c : Hid (Below W.heap.size W v11c) := by rw [hz]; exact below_drewN K11b.out z11
        clear hz K11b CM
        go_wp2_with fail
        refine (HCN.out _).mono ?_
        rintro x vk ⟨rfl, rfl⟩
        go_wp2_with fail
        refine (HSA.out _ K11c.out).mono ?_
        rintro x v12a ⟨p12, rfl, hr1, hq⟩
        have K12a : Hid (Below W.heap.size W v12a) := K11c.out.trans (hq.mono K11c.out.size)
        have R12a : Hid (Rd v12a p12 S1) := hr1
        clear hq hr1 K11c
        go_wp2_with fail
        refine (HSB.out _ K12a.out).mono ?_
        rintro x v12b ⟨q12, rfl, hr2, hq⟩
        have K12b : Hid (Below W.heap.size W v12b) := K12a.out.trans (hq.mono K12a.out.size)
        have CM := lsame_any p12 q12 sz sz S1 S2 v12b (R12a.out.below hq (Nat.le_refl _)) hr2 (by have := HL1.out; omega)
        rw [HE.out] at CM
        clear hq hr2 K12a R12a
        go_wp2_with fail
        refine CM.mono ?_
        rintro x v12c ⟨rfl, z12, hz⟩
        have K12c : Hid (Below W.heap.size W v12c) := by rw [hz]; exact below_drewN K12b.out z12
        clear hz K12b CM
        go_wp2_with fail
        refine (HVA.out _ K12c.out).mono ?_
        rintro x v13 ⟨rfl, hq⟩
        have HZ : Hid (Below W.heap.size W v13) := K12c.out.trans (hq.mono K12c.out.size)
        clear hq K12c HVA
        go_wp2
        go_ret
        exact ⟨rfl, HZ.out⟩
      · have dB : (Bv == 0) = false := beq_eq_false_iff_ne.2 hB
        by_cases hE : S1 = S2
        · exact absurd (Hof.out hE) (fun e => hB (e ▸ hA))
        · have HE : Hid (decide (S1 = S2) = false) := decide_eq_false hE
          clear Htwo Hof Hno hA hB hE
          go_wp2_with fail
          refine (HCN.out _).mono ?_
          rintro x vk ⟨rfl, rfl⟩
          go_wp2_with fail
          refine (HSA.out _ HB3.out).mono ?_
          rintro x v14a ⟨p14, rfl, hr1, hq⟩
          have K14a : Hid (Below W.heap.size W v14a) := HB3.out.trans (hq.mono HB3.out.size)
          have R14a : Hid (Rd v14a p14 S1) := hr1
          clear hq hr1 HB3
          go_wp2_with fail
          refine (HSB.out _ K14a.out).mono ?_
          rintro x v14b ⟨q14, rfl, hr2, hq⟩
          have K14b : Hid (Below W.heap.size W v14b) := K14a.out.trans (hq.mono K14a.out.size)
          have CM := lsame_any p14 q14 sz sz S1 S2 v14b (R14a.out.below hq (Nat.le_refl _)) hr2 (by have := HL1.out; omega)
          rw [HE.out] at CM
          clear hq hr2 K14a R14a
          go_wp2_with fail
          refine CM.mono ?_
          rintro x v14c ⟨rfl, z14, hz⟩
          have K14c : Hid (Below W.heap.size W v14c) := by rw [hz]; exact below_drewN K14b.out z14
          clear hz K14b CM
          go_wp2_with fail
          refine (HVA.out _ K14c.out).mono ?_
          rintro x v15 ⟨rfl, hq⟩
          have HZ : Hid (Below W.heap.size W v15) := K14c.out.trans (hq.mono K14c.out.size)
          clear hq K14c HVA
          go_wp2
          go_ret
          exact ⟨rfl, HZ.out⟩
    · have dA : (A == 0) = false := beq_eq_false_iff_ne.2 hA
      by_cases hE : S1 = S2
      · have HE : Hid (decide (S1 = S2) = true) := decide_eq_true hE
        obtain rfl := Hof.out hE
        have dAB : (A != A) = false := by simp
        clear Htwo Hof Hno hA hE
        go_wp2_with fail
        refine (HCN.out _).mono ?_
        rintro x vk ⟨rfl, rfl⟩
        go_wp2_with fail
        refine (HSA.out _ HB3.out).mono ?_
        rintro x v16a ⟨p16, rfl, hr1, hq⟩
        have K16a : Hid (Below W.heap.size W v16a) := HB3.out.trans (hq.mono HB3.out.size)
        have R16a : Hid (Rd v16a p16 S1) := hr1
        clear hq hr1 HB3
        go_wp2_with fail
        refine (HSB.out _ K16a.out).mono ?_
        rintro x v16b ⟨q16, rfl, hr2, hq⟩
        have K16b : Hid (Below W.heap.size W v16b) := K16a.out.trans (hq.mono K16a.out.size)
        have CM := lsame_any p16 q16 sz sz S1 S2 v16b (R16a.out.below hq (Nat.le_refl _)) hr2 (by have := HL1.out; omega)
        rw [HE.out] at CM
        clear hq hr2 K16a R16a
        go_wp2_with fail
        refine CM.mono ?_
        rintro x v16c ⟨rfl, z16, hz⟩
        have K16c : Hid (Below W.heap.size W v16c) := by rw [hz]; exact below_drewN K16b.out z16
        clear hz K16b CM
        go_wp2_with fail
        refine (HVA.out _ K16c.out).mono ?_
        rintro x v17 ⟨rfl, hq⟩
        have HZ : Hid (Below W.heap.size W v17) := K16c.out.trans (hq.mono K16c.out.size)
        clear hq K16c HVA
        go_wp2
        go_ret
        exact ⟨rfl, HZ.out⟩
      · have HE : Hid (decide (S1 = S2) = false) := decide_eq_false hE
        clear Htwo Hof Hno hA hE
        go_wp2_with fail
        refine (HCN.out _).mono ?_
        rintro x vk ⟨rfl, rfl⟩
        go_wp2_with fail
        refine (HSA.out _ HB3.out).mono ?_
        rintro x v18a ⟨p18, rfl, hr1, hq⟩
        have K18a : Hid (Below W.heap.size W v18a) := HB3.out.trans (hq.mono HB3.out.size)
        have R18a : Hid (Rd v18a p18 S1) := hr1
        clear hq hr1 HB3
        go_wp2_with fail
        refine (HSB.out _ K18a.out).mono ?_
        rintro x v18b ⟨q18, rfl, hr2, hq⟩
        have K18b : Hid (Below W.heap.size W v18b) := K18a.out.trans (hq.mono K18a.out.size)
        have CM := lsame_any p18 q18 sz sz S1 S2 v18b (R18a.out.below hq (Nat.le_refl _)) hr2 (by have := HL1.out; omega)
        rw [HE.out] at CM
        clear hq hr2 K18a R18a
        go_wp2_with fail
        refine CM.mono ?_
        rintro x v18c ⟨rfl, z18, hz⟩
        have K18c : Hid (Below W.heap.size W v18c) := by rw [hz]; exact below_drewN K18b.out z18
        clear hz K18b CM
        go_wp2_with fail
        refine (HVA.out _ K18c.out).mono ?_
        rintro x v19 ⟨rfl, hq⟩
        have HZ : Hid (Below W.heap.size W v19) := K18c.out.trans (hq.mono K18c.out.size)
        clear hq K18c HVA
        go_wp2
        go_ret
        exact ⟨rfl, HZ.out⟩

end Go.Proofs.YtefpjjonmoofpaaDoor
