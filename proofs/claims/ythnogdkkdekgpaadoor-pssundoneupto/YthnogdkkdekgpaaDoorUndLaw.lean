import Derived.Test.YthnogdkkdekgpaaDoorUndM
import Derived.Deep.CutRange
namespace Go.Proofs.YthnogdkkdekgpaaDoor
open Go.RowKit

/-- What stands since a world: the digest and the encoding. -/
structure US (W w : World) (gD : Nat) (gE : Nat) (D em : List UInt8) (rE : List Value) : Prop where
  bel : Below W.heap.size W w
  d : Rd w (some ⟨gD, 0, none⟩) D
  e : Bl 5 w gE (em.map B ++ rE)
theorem US.below {W w w' : World} {gD gE : Nat} {D em : List UInt8} {rE : List Value} (h : US W w gD gE D em rE) (hb : Below w.heap.size w w') : US W w' gD gE D em rE :=
  ⟨h.bel.trans (hb.mono h.bel.size), h.d.below hb (Nat.le_refl _), h.e.below hb h.e.lt⟩
theorem US.drewN {W w : World} {gD gE : Nat} {D em : List UInt8} {rE : List Value} (h : US W w gD gE D em rE) (q : Nat) : US W (w.drewN q) gD gE D em rE := ⟨below_drewN h.bel q, h.d, h.e⟩

set_option maxRecDepth 100000 in
set_option maxHeartbeats 16000000 in
theorem und_core (h : Int) (a1 a2 a3 : Option Addr) (c1 c2 c3 : Nat) (m o salt : List UInt8) (bits at' : Int) (W : World) (T : Sha.Tb W) (r1 : Rd W a1 m) (r2 : Rd W a2 o) (r3 : Rd W a3 salt)
    (k1 : m.length ≤ c1) (k1' : c1 ≤ 9223372036854775807) (k2 : o.length ≤ c2) (k2' : c2 ≤ 9223372036854775807) (k3 : salt.length ≤ c3) (k3' : c3 ≤ 9223372036854775807) (l1 : m.length ≤ 3000000) (l2 : o.length ≤ 3000000) (l3 : salt.length ≤ 3000000) (z2 : at' ≤ 9223372036854775807) :
    Calls Tryd.prog 5 #[.int .i64 h, .slice a1 m.length c1, .slice a2 o.length c2, .slice a3 salt.length c3, .int .i64 bits, .int .i64 at'] W fun x w' => x = .returned (.bool true) ∧ Below W.heap.size W w' := by
  have HT : Hid (Sha.Tb W) := T
  have H1 : Hid (Rd W a1 m) := r1
  have H2 : Hid (Rd W a2 o) := r2
  have H3 : Hid (Rd W a3 salt) := r3
  have CA := awake10 W T
  obtain ⟨S, HS⟩ : ∃ S, Hid (Sha.siz h = S) := ⟨_, rfl⟩
  have hs64 := siz_le64 h
  rw [HS.out] at hs64
  have HSum : Hid (∀ (w : World) (a : Option Addr) (c : Nat) (l : List UInt8), Below W.heap.size W w → Rd W a l → l.length ≤ c → c ≤ 9223372036854775807 → l.length ≤ 3000000 → Calls Tryd.prog 14 #[.int .i64 h, .slice (some ⟨w.heap.size, 0, none⟩) 1 1] (w.alloc (.cells #[.slice a l.length c] 23)) fun e w' => ∃ a', e = .returned (.slice a' S S) ∧ Rd w' a' (Sha.sumF h l) ∧ Below w.heap.size w w') := fun w a c l hb hr hc hc2 hl => by
    have bA := alloc_below w (.cells #[.slice a l.length c] 23)
    have CQ := Sha.ssum_any h (some ⟨w.heap.size, 0, none⟩) 1 [⟨a, c, l⟩] (w.alloc (.cells #[.slice a l.length c] 23)) ((HT.out.below hb).below bA) (parts_one w ⟨a, c, l⟩ ⟨hr.below hb (Nat.le_refl _), hc, hc2⟩) (by simp) (by simp [Sha.cat]; omega)
    rw [show Sha.cat [⟨a, c, l⟩] = l by simp [Sha.cat], HS.out] at CQ
    refine CQ.mono ?_
    rintro e w' ⟨a', rfl, ho, hb'⟩
    exact ⟨a', rfl, Sha.Own.rd ho, bA.trans (hb'.mono bA.size)⟩
  clear T r1 r2 r3
  go_enter Tryd.func5, Tryd.ntmps5
  go_wp2_with fail
  refine CA.mono ?_
  rintro x w1 ⟨rfl, hb1⟩
  clear CA
  have B1 : Hid (Below W.heap.size W w1) := hb1
  have C1 := HSum.out w1 a1 c1 m hb1 H1.out k1 k1' l1
  clear hb1
  go_wp2_with fail
  refine C1.mono ?_
  rintro x w2 ⟨aD, rfl, hD, hb2⟩
  clear C1
  have B2 : Hid (Below W.heap.size W w2) := B1.out.trans (hb2.mono B1.out.size)
  have HD : Hid (Rd w2 aD (Sha.sumF h m)) := hD
  have hdl : (Sha.sumF h m).length = S := by rw [Sha.sumF_length]; exact HS.out
  obtain ⟨D, hDq⟩ : ∃ D, Sha.sumF h m = D := ⟨_, rfl⟩
  rw [hDq] at HD hdl
  have Hdl : Hid (D.length = S) := hdl
  have CE := pencode_any h aD a3 S c3 D salt bits w2 (HT.out.below B2.out) HD.out (H3.out.below B2.out (Nat.le_refl _)) (by omega) (by omega) k3 k3' (by omega) (by omega)
  rw [hdl] at CE
  clear hD hb2 B1 hDq
  by_cases hp : pcode h S salt.length bits = 0
  case neg =>
    have hev : pencV h D salt bits = [] := by unfold pencV; rw [Hdl.out, if_neg hp]
    rw [hev] at CE
    have dp : (pcode h S salt.length bits != 0) = true := by simpa using hp
    generalize pcode h S salt.length bits = pc at *
    clear hp hev
    go_wp2_with fail
    refine CE.mono ?_
    rintro x w3 ⟨rE, rfl, hE⟩
    clear CE
    have B3 : Hid (Below W.heap.size W w3) := B2.out.trans (hE.bel.mono B2.out.size)
    obtain ⟨aE, cE, eE, hcE, hRE⟩ := hE.own.nb
    have hcE2 : cE ≤ 9223372036854775807 := by
      rcases hE.own.2 with ⟨e0, _⟩ | ⟨g, cap, cur, e0, hg, _, _, hm, _⟩
      · rw [eE] at e0; injection e0 with _ _ e1; omega
      · rw [eE] at e0; injection e0 with _ _ e1; unfold maxLen at hm; omega
    subst eE
    have CH := pholds_any h aD aE S cE D [] bits w3 (HT.out.below B3.out) (HD.out.below hE.bel (Nat.le_refl _)) hRE (by omega) (by omega) hcE hcE2 (by omega) (by simp)
    rw [holds_none, hdl] at CH
    clear hE hRE hcE hcE2
    go_wp2_with fail
    refine CH.mono ?_
    rintro x w4 ⟨rfl, hb4⟩
    clear CH
    have B4 : Hid (Below W.heap.size W w4) := B3.out.trans (hb4.mono B3.out.size)
    clear hb4
    go_wp2
    go_ret
    exact ⟨rfl, B4.out⟩
  have hp' : pcode h D.length salt.length bits = 0 := by rw [hdl]; exact hp
  obtain ⟨hh, hb0, hb1, _, hwd⟩ := pcode_ok hp'
  obtain ⟨b, rfl⟩ : ∃ b : Nat, bits = (b : Int) := ⟨bits.toNat, by omega⟩
  rw [Int.toNat_natCast] at hwd
  have hb65 : b ≤ 65536 := by omega
  have hs0 := isHB_pos hh
  have hev : pencV h D salt (b : Int) = encF h D salt b := by unfold pencV; rw [hp', if_pos rfl, Int.toNat_natCast]
  have hel := encF_length h D salt b hs0 hwd
  have hlast := enc_last h D salt b hs0 hwd
  have HFirst : Hid (∀ r, b % 8 = r → r ≠ 0 → (((encF h D salt b).getD 0 0).toNat : Int) / 2 ^ r = 0) := fun r h1 h2 => enc_first h D salt b r hs0 hwd h1 h2
  have HP : Hid (pcode h D.length salt.length (b : Int) = 0) := hp'
  have HH : Hid (isHB h = true) := hh
  obtain ⟨E, HE⟩ : ∃ E, Hid (wid b = E) := ⟨_, rfl⟩
  have hE1 : 2 ≤ E ∧ E ≤ 8192 := by rw [← HE.out]; refine ⟨by omega, ?_⟩; unfold wid; omega
  rw [HE.out] at hel hlast
  obtain ⟨em, hem⟩ : ∃ em, encF h D salt b = em := ⟨_, rfl⟩
  rw [hem] at hel hlast HFirst
  have Hem : Hid (encF h D salt b = em) := hem
  have Hel : Hid (em.length = E) := hel
  rw [hp, hev, hem] at CE
  clear hp hp' hh hb0 hb1 hwd hs0 hev hem
  go_wp2_with fail
  refine CE.mono ?_
  rintro x w3 ⟨rE, rfl, hE⟩
  clear CE
  obtain ⟨gE, cE, tE, erE, hgE, hblE, hcE, hcE2⟩ := hE.own.blP (by rw [hel]; omega)
  rw [hel] at erE hcE
  unfold maxLen at hcE2
  subst erE
  have hcE3 : E ≤ cE := by omega
  have B3 : Below W.heap.size W w3 := B2.out.trans (hE.bel.mono B2.out.size)
  have HD3 : Hid (Rd w3 aD D) := HD.out.below hE.bel (Nat.le_refl _)
  have S3 : Hid (Below W.heap.size W w3 ∧ Rd w3 aD D ∧ Bl 5 w3 gE (em.map B ++ tE)) := ⟨B3, HD3.out, hblE⟩
  have HHold : Hid (∀ (w : World) (aX : Option Addr) (X : List UInt8) (aY : Option Addr) (cY : Nat) (Y : List UInt8), Below W.heap.size W w → Rd w aX X → X.length = S → Rd w aY Y → Y.length = E → E ≤ cY → cY ≤ 9223372036854775807 → Calls Tryd.prog 18 #[.int .i64 h, .slice aX S S, .slice aY E cY, .int .i64 (b : Int)] w fun e w' => e = .returned (.bool (holdsV h X Y (b : Int))) ∧ Below w.heap.size w w') := fun w aX X aY cY Y hb hX hXl hY hYl h1 h2 => by
    have := pholds_any h aX aY S cY X Y (b : Int) w (HT.out.below hb) hX hY (by omega) (by omega) (by omega) h2 (by omega) (by omega)
    rwa [hXl, hYl] at this
  have HLuck : Hid (∀ (w : World) (aY : Option Addr) (cY : Nat) (Y : List UInt8), Below W.heap.size W w → Rd w aD D → Rd w aY Y → Y.length = E → E ≤ cY → cY ≤ 9223372036854775807 → Calls Tryd.prog 19 #[.int .i64 h, .slice aD S S, .slice aY E cY, .int .i64 (b : Int)] w fun e w' => e = .returned (.bool (holdsV h D Y (b : Int))) ∧ Below w.heap.size w w') := fun w aY cY Y hb hX hY hYl h1 h2 => by
    have := lucky_any h aD aY S cY D Y (b : Int) w (HT.out.below hb) HH.out hX hY (by omega) (by omega) (by omega) h2 (by omega) (by omega)
    rwa [hdl, hYl, lucky_holds] at this
  -- its form
  obtain ⟨M, eM⟩ : ∃ M : Nat, (E : Int) - 1 = (M : Int) := ⟨E - 1, by omega⟩
  have hME : M < E ∧ E - 1 = M := by omega
  obtain ⟨b7, Hb7⟩ : ∃ x, Hid (b + 7 = x) := ⟨_, rfl⟩
  have hb7 : b7 ≤ 66000 := by rw [← Hb7.out]; omega
  have e1 : (b : Int) + 7 = (b7 : Int) := by rw [← Hb7.out]; omega
  have e2 : Int.tdiv (b7 : Int) 8 = (E : Int) := by rw [Int.tdiv_eq_ediv_of_nonneg (by omega), ← HE.out, ← Hb7.out]; unfold wid; omega
  have e3 : (b7 : Int) / 8 = (E : Int) := by rw [← HE.out, ← Hb7.out]; unfold wid; omega
  have d0 : ((E : Int) != (E : Int)) = false := by simp
  obtain ⟨r, hr⟩ : ∃ r, b % 8 = r := ⟨_, rfl⟩
  have f1 : Int.tmod (b : Int) 8 = (r : Int) := by rw [Int.tmod_eq_emod_of_nonneg (by omega)]; omega
  have f1' : (b : Int) % 8 = (r : Int) := by omega
  have hr8 : r < 8 := by omega
  have gRd := hblE.rdP
  obtain ⟨g', o', e', _, hcl⟩ := gRd.resolve_left (fun e => by rw [e] at hel; simp at hel; omega)
  cases e'
  have cM := hcl M (by rw [hel]; omega)
  rw [hME.2] at hlast
  rw [hlast, Nat.zero_add] at cM
  have c0 := hcl 0 (by rw [hel]; omega)
  rw [Nat.zero_add] at c0
  unfold B at cM c0
  have HF0 := HFirst.out r hr
  generalize em.getD 0 0 = x0 at *
  have CS := Sha.size_any h w3
  rw [HS.out] at CS
  obtain ⟨fits, hfits⟩ : ∃ f, decide (salt.length = S) = f := ⟨_, rfl⟩
  have Hfits : Hid (decide (salt.length = S) = fits) := hfits
  have df : ((salt.length : Int) == (S : Int)) = fits := by
    rw [← hfits, Bool.eq_iff_iff, beq_iff_eq, decide_eq_true_iff]; omega
  have HMI : (M : Int) < (E : Int) := by omega
  have hM0 : (188 : UInt8).toNat = 188 := rfl
  rw [hM0] at cM
  clear hE hblE B3 HD3 B2 HD hME hlast gRd hcl HFirst hfits
  go_upto_region 7 with fail
  go_cut [76] from 47 to 76 (fun s wx => s = .bool false ∧ wx = w3)
  case first =>
    clear S3 HHold HLuck HSum CS df
    by_cases hr0 : r = 0
    · subst hr0
      clear HF0
      go_wp2
      go_meet
      exact ⟨rfl, rfl⟩
    · have hx := HF0 hr0
      have dr : ((r : Int) != 0) = true := by simp; omega
      clear HF0
      go_wp2
      go_meet
      exact ⟨rfl, rfl⟩
  case rest =>
  obtain ⟨rfl, rfl⟩ := hcut
  clear HF0 cM c0 e1 e2 e3 f1 f1' d0 eM HMI
  go_wp2_with fail
  refine CS.mono ?_
  rintro x w4 ⟨rfl, rfl⟩
  clear CS
  have CH := HHold.out w4 aD D (some ⟨gE, 0, none⟩) cE em S3.out.1 S3.out.2.1 Hdl.out S3.out.2.2.rdP Hel.out hcE3 hcE2
  obtain ⟨hv, Hhv⟩ : ∃ v, Hid (holdsV h D em (b : Int) = v) := ⟨_, rfl⟩
  rw [Hhv.out] at CH
  cases fits with
  | false =>
    cases hv with
    | false =>
      go_wp2_with fail
      refine CH.mono ?_
      rintro x w5 ⟨rfl, hb5⟩
      clear CH
      have B5 : Hid (Below W.heap.size W w5) := S3.out.1.trans (hb5.mono S3.out.1.size)
      clear hb5
      go_wp2
      go_ret
      exact ⟨rfl, B5.out⟩
    | true =>
      go_wp2_with fail
      refine CH.mono ?_
      rintro x w5 ⟨rfl, hb5⟩
      clear CH
      have B5 : Hid (Below W.heap.size W w5) := S3.out.1.trans (hb5.mono S3.out.1.size)
      have CL := HLuck.out w5 (some ⟨gE, 0, none⟩) cE em B5.out (S3.out.2.1.below hb5 (Nat.le_refl _)) (S3.out.2.2.rdP.below hb5 (Nat.le_refl _)) Hel.out hcE3 hcE2
      rw [Hhv.out] at CL
      clear hb5
      go_wp2_with fail
      refine CL.mono ?_
      rintro x w6 ⟨rfl, hb6⟩
      clear CL
      have B6 : Hid (Below W.heap.size W w6) := B5.out.trans (hb6.mono B5.out.size)
      clear hb6
      go_wp2
      go_ret
      exact ⟨rfl, B6.out⟩
  | true =>
    have hsl : salt.length = Sha.siz h := by rw [HS.out]; exact of_decide_eq_true Hfits.out
    obtain rfl : hv = true := by
      rw [← Hhv.out, ← Hem.out]
      have := holds_enc h D salt (b : Int) HP.out hsl
      rwa [Int.toNat_natCast] at this
    have Hsl : Hid (salt.length = Sha.siz h) := hsl
    clear hsl
    go_wp2_with fail
    refine CH.mono ?_
    rintro x w5 ⟨rfl, hb5⟩
    clear CH
    have S5 : Hid (Below W.heap.size W w5 ∧ Rd w5 aD D ∧ Bl 5 w5 gE (em.map B ++ tE)) := ⟨S3.out.1.trans (hb5.mono S3.out.1.size), S3.out.2.1.below hb5 (Nat.le_refl _), S3.out.2.2.below hb5 S3.out.2.2.lt⟩
    have C5 := HSum.out w5 a2 c2 o S5.out.1 H2.out k2 k2' l2
    clear hb5 S3
    go_wp2_with fail
    refine C5.mono ?_
    rintro x w6 ⟨aX, rfl, hX, hb6⟩
    clear C5
    have S6 : Hid (Below W.heap.size W w6 ∧ Rd w6 aD D ∧ Bl 5 w6 gE (em.map B ++ tE)) := ⟨S5.out.1.trans (hb6.mono S5.out.1.size), S5.out.2.1.below hb6 (Nat.le_refl _), S5.out.2.2.below hb6 S5.out.2.2.lt⟩
    obtain ⟨X, hXq⟩ : ∃ X, Sha.sumF h o = X := ⟨_, rfl⟩
    have hXl : X.length = S := by rw [← hXq, Sha.sumF_length]; exact HS.out
    rw [hXq] at hX
    have HX : Hid (Rd w6 aX X) := hX
    have HXl : Hid (X.length = S) := hXl
    clear hX hb6 S5 hXq hXl
    go_upto_region 15 with fail
    go_cut [124] from 106 to 124 (fun s wx => s = .bool false ∧ Hid (Below W.heap.size W wx ∧ Rd wx aD D ∧ Bl 5 wx gE (em.map B ++ tE)))
    case first =>
      have CH2 := HHold.out w6 aX X (some ⟨gE, 0, none⟩) cE em S6.out.1 HX.out HXl.out S6.out.2.2.rdP Hel.out hcE3 hcE2
      obtain ⟨hv2, Hhv2⟩ : ∃ v, Hid (holdsV h X em (b : Int) = v) := ⟨_, rfl⟩
      rw [Hhv2.out] at CH2
      cases hv2 with
      | false =>
        go_wp2_with fail
        refine CH2.mono ?_
        rintro x w7 ⟨rfl, hb7⟩
        clear CH2
        have S7 : Hid (Below W.heap.size W w7 ∧ Rd w7 aD D ∧ Bl 5 w7 gE (em.map B ++ tE)) := ⟨S6.out.1.trans (hb7.mono S6.out.1.size), S6.out.2.1.below hb7 (Nat.le_refl _), S6.out.2.2.below hb7 S6.out.2.2.lt⟩
        clear hb7 S6
        go_wp2
        go_meet
        exact ⟨rfl, S7⟩
      | true =>
        go_wp2_with fail
        refine CH2.mono ?_
        rintro x w7 ⟨rfl, hb7⟩
        clear CH2
        have S7 : Hid (Below W.heap.size W w7 ∧ Rd w7 aD D ∧ Bl 5 w7 gE (em.map B ++ tE)) := ⟨S6.out.1.trans (hb7.mono S6.out.1.size), S6.out.2.1.below hb7 (Nat.le_refl _), S6.out.2.2.below hb7 S6.out.2.2.lt⟩
        have HX7 : Hid (Rd w7 aX X) := HX.out.below hb7 (Nat.le_refl _)
        have C8 := psame_any aX aD S S X D w7 HX7.out S7.out.2.1 (by rw [HXl.out]; omega)
        rw [HXl.out, Hdl.out] at C8
        clear hb7 S6 HX
        by_cases hXD : X = D
        · rw [decide_eq_true hXD] at C8
          clear hXD
          go_wp2_with fail
          refine C8.mono ?_
          rintro x w8 ⟨rfl, q8, hw8⟩
          clear C8
          have S8 : Hid (Below W.heap.size W w8 ∧ Rd w8 aD D ∧ Bl 5 w8 gE (em.map B ++ tE)) := by rw [hw8]; exact ⟨below_drewN S7.out.1 q8, S7.out.2.1, S7.out.2.2⟩
          clear hw8 S7
          go_wp2
          go_meet
          exact ⟨rfl, S8⟩
        · rw [decide_eq_false hXD] at C8
          clear hXD
          go_wp2_with fail
          refine C8.mono ?_
          rintro x w8 ⟨rfl, q8, hw8⟩
          clear C8
          have S8 : Hid (Below W.heap.size W w8 ∧ Rd w8 aD D ∧ Bl 5 w8 gE (em.map B ++ tE)) := by rw [hw8]; exact ⟨below_drewN S7.out.1 q8, S7.out.2.1, S7.out.2.2⟩
          have HX8 : Hid (Rd w8 aX X) := by rw [hw8]; exact HX7.out
          have CC := clash_any h aD aX a3 S S c3 D X salt w8 (HT.out.below S8.out.1) S8.out.2.1 HX8.out (H3.out.below S8.out.1 (Nat.le_refl _)) (by rw [Hdl.out]; exact Nat.le_refl _) (by omega) (by rw [HXl.out]; exact Nat.le_refl _) (by omega) k3 k3' (by rw [Hdl.out]; omega) (by rw [HXl.out]; omega) (by omega)
          have hse : secF h D salt = secF h X salt := by
            refine holds_other h D X salt (b : Int) HP.out Hsl.out ?_
            rw [Int.toNat_natCast, Hem.out]
            exact Hhv2.out
          rw [decide_eq_true hse, Hdl.out, HXl.out] at CC
          clear hse hw8 S7 HX7
          go_wp2_with fail
          refine CC.mono ?_
          rintro x w9 ⟨rfl, hb9⟩
          clear CC
          have S9 : Hid (Below W.heap.size W w9 ∧ Rd w9 aD D ∧ Bl 5 w9 gE (em.map B ++ tE)) := ⟨S8.out.1.trans (hb9.mono S8.out.1.size), S8.out.2.1.below hb9 (Nat.le_refl _), S8.out.2.2.below hb9 S8.out.2.2.lt⟩
          clear hb9 S8
          go_wp2
          go_meet
          exact ⟨rfl, S9⟩
    case rest =>
    obtain ⟨rfl, S9⟩ := hcut
    clear S6 HX HXl HSum
    by_cases hat : at' < 0
    · have da : decide (at' < 0) = true := decide_eq_true hat
      clear hat
      go_wp2
      go_ret
      exact ⟨rfl, S9.out.1⟩
    have da : decide (at' < 0) = false := decide_eq_false hat
    obtain ⟨t, rfl⟩ : ∃ t : Nat, at' = (t : Int) := ⟨at'.toNat, by omega⟩
    obtain ⟨F, eF⟩ : ∃ F : Nat, 8 * (E : Int) = (F : Int) := ⟨8 * E, by omega⟩
    obtain ⟨k, hk⟩ : ∃ k, t % F = k := ⟨_, rfl⟩
    have hF0 : 0 < F := by omega
    have hkF : k < F := by rw [← hk]; exact Nat.mod_lt _ hF0
    have g1 : Int.tmod (t : Int) (F : Int) = (k : Int) := by rw [Int.tmod_eq_emod_of_nonneg (by omega), ← hk]; rfl
    have g1' : (t : Int) % (F : Int) = (k : Int) := by rw [← hk]; rfl
    obtain ⟨q, hq⟩ : ∃ q, k / 8 = q := ⟨_, rfl⟩
    obtain ⟨r', hr'⟩ : ∃ r', k % 8 = r' := ⟨_, rfl⟩
    have g2 : Int.tdiv (k : Int) 8 = (q : Int) := by rw [Int.tdiv_eq_ediv_of_nonneg (by omega)]; omega
    have g2' : (k : Int) / 8 = (q : Int) := by omega
    have g3 : Int.tmod (k : Int) 8 = (r' : Int) := by rw [Int.tmod_eq_emod_of_nonneg (by omega)]; omega
    have g3' : (k : Int) % 8 = (r' : Int) := by omega
    have hqE : q < E := by omega
    have hr8' : r' < 8 := by omega
    have hFd : ¬ (F : Int) = 0 := by omega
    have CR := proomy_any (some ⟨gE, 0, none⟩) cE em wc S9.out.2.2.rdP (by rw [Hel.out]; omega)
    rw [Hel.out] at CR
    clear hat hk hq hr'
    go_wp2_with fail
    refine CR.mono ?_
    rintro x w10 ⟨rfl, hR10, hb10⟩
    clear CR
    obtain ⟨gR, hgR⟩ : ∃ g, wc.heap.size = g := ⟨_, rfl⟩
    rw [hgR] at hR10
    have hqe : q < em.length := by rw [Hel.out]; exact hqE
    have gq := hR10.cell q (by rw [Hel.out]; omega)
    rw [List.getElem_append_left hqe] at gq
    have fq := Bl.frozen hR10 q
    obtain ⟨x1, hx1⟩ : ∃ x, em[q] = x := ⟨_, rfl⟩
    rw [hx1] at gq
    unfold B at gq
    obtain ⟨y1, hy1⟩ := xor_anyP x1 r' hr8'
    have hbad : Bl 5 (w10.setCell ⟨gR, q, none⟩ (.int .u8 (y1.toNat : Int))) gR ((em.set q y1).map B ++ (List.replicate 9 (165 : UInt8)).map B) := by
      have := Bl.set hR10 q (B y1)
      rw [← List.map_set, List.set_append_left _ _ hqe, List.map_append] at this
      exact this
    have hbut : But w10 (w10.setCell ⟨gR, q, none⟩ (.int .u8 (y1.toNat : Int))) gR := (But.refl _ _).set _ _
    have hlow : ∀ a, D ≠ [] → aD = some a → a.block ≠ gR := by rw [← hgR]; exact Sha.Rd.off S9.out.2.1 _ (Nat.le_refl _)
    have hWR : W.heap.size ≤ gR := by rw [← hgR]; exact S9.out.1.size
    have S10 : Below W.heap.size W w10 ∧ Rd w10 aD D := ⟨S9.out.1.trans (hb10.mono S9.out.1.size), S9.out.2.1.below hb10 (Nat.le_refl _)⟩
    have S11 : Hid (Below W.heap.size W (w10.setCell ⟨gR, q, none⟩ (.int .u8 (y1.toNat : Int))) ∧ Rd (w10.setCell ⟨gR, q, none⟩ (.int .u8 (y1.toNat : Int))) aD D ∧ Rd (w10.setCell ⟨gR, q, none⟩ (.int .u8 (y1.toNat : Int))) (some ⟨gR, 0, none⟩) (em.set q y1)) :=
      ⟨S10.1.trans (hbut.below S10.1.size hWR), Sha.Rd.but S10.2 ⟨hbut.os, hbut.tape, hbut.output, hbut.size, hbut.block⟩ hlow, hbad.rdP⟩
    have hbl : (em.set q y1).length = E := by rw [List.length_set]; exact Hel.out
    have CH3 := HHold.out _ aD D (some ⟨gR, 0, none⟩) (E + 9) (em.set q y1) S11.out.1 S11.out.2.1 Hdl.out S11.out.2.2 hbl (by omega) (by omega)
    obtain ⟨hv3, Hhv3⟩ : ∃ v, Hid (holdsV h D (em.set q y1) (b : Int) = v) := ⟨_, rfl⟩
    rw [Hhv3.out] at CH3
    have Hbl : Hid ((em.set q y1).length = E) := hbl
    have hqI : (q : Int) < (E : Int) := by omega
    rw [hgR]
    clear hR10 hb10 hqe hbad hbut hlow S10 hbl hx1 hgR S9
    cases hv3 with
    | false =>
      go_wp2_with fail
      refine CH3.mono ?_
      rintro x w12 ⟨rfl, hb12⟩
      clear CH3
      have B12 : Hid (Below W.heap.size W w12) := S11.out.1.trans (hb12.mono S11.out.1.size)
      clear hb12
      go_wp2
      go_ret
      exact ⟨rfl, B12.out⟩
    | true =>
      go_wp2_with fail
      refine CH3.mono ?_
      rintro x w12 ⟨rfl, hb12⟩
      clear CH3
      have B12 : Hid (Below W.heap.size W w12) := S11.out.1.trans (hb12.mono S11.out.1.size)
      have CL := HLuck.out w12 (some ⟨gR, 0, none⟩) (E + 9) (em.set q y1) B12.out (S11.out.2.1.below hb12 (Nat.le_refl _)) (S11.out.2.2.below hb12 (Nat.le_refl _)) Hbl.out (by omega) (by omega)
      rw [Hhv3.out] at CL
      clear hb12 S11
      go_wp2_with fail
      refine CL.mono ?_
      rintro x w13 ⟨rfl, hb13⟩
      clear CL
      have B13 : Hid (Below W.heap.size W w13) := B12.out.trans (hb13.mono B12.out.size)
      clear hb13
      go_wp2
      go_ret
      exact ⟨rfl, B13.out⟩

end Go.Proofs.YthnogdkkdekgpaaDoor
