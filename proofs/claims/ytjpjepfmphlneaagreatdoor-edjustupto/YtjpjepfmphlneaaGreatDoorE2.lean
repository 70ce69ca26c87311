import Derived.Test.YtjpjepfmphlneaaGreatDoorDLt
namespace Go.Proofs.YtjpjepfmphlneaaGreatDoor
open Go.RowKit

set_option maxRecDepth 100000

/-- Decode, of any bytes, as a point at hand or none. -/
theorem decode_p (ao : Option Addr) (c : Nat) (l : List UInt8) (w : World) (T : Te w) (hr : Rd w ao l) :
    Calls Tryz.prog 14 #[.slice ao l.length c] w fun e w' => ((∃ P v, onE eP eD P ∧ encL P = l ∧ e = .returned (.tuple #[v, .int .i64 0]) ∧ Pe w' w.heap.size v P) ∨ ((∀ P, onE eP eD P → encL P ≠ l) ∧ e = .returned (.tuple #[.agg #[.slice none 0 0, .slice none 0 0, .bool false], .int .i64 93]))) ∧ Below w.heap.size w w' := decode_v ao c l w T hr
theorem encode_p {w : World} {x y : Value} {P : Nat × Nat} (T : Te w) (h : Pn w x y P) (oP : onE eP eD P) : Calls Tryz.prog 25 #[.agg #[x, y, .bool false]] w fun e w' => (∃ v, e = .returned (.tuple #[v, .int .i64 0]) ∧ Owb w' w.heap.size v (encL P)) ∧ Below w.heap.size w w' :=
  encode_v x y P.1 P.2 false w T h.nx h.ny ((onV_iff _ _ _).2 ⟨rfl, oP⟩)
theorem lopp_p {w : World} {x y : Value} {P : Nat × Nat} (h : Pn w x y P) (oP : onE eP eD P) : Calls Tryz.prog 19 #[.agg #[x, y, .bool false]] w fun e w' => ∃ u, e = .returned (.agg #[u, y, .bool false]) ∧ Pn w' u y (ne eP P) ∧ Below w.heap.size w w' := by
  refine (lopposite_v x y P.1 P.2 w ⟨h.nx, h.2.2.1⟩ ⟨h.ny, h.2.2.2⟩ oP.1).mono ?_
  rintro e w' ⟨u, rfl, m, hB⟩
  exact ⟨u, rfl, ⟨m.nm, h.2.1.below hB (Nat.le_refl _), m.2.2, h.2.2.2⟩, hB⟩
theorem bl_256 {V : Nat} (h : V < pw 256) : bl V ≤ 1024 := Nat.le_trans (bl_pw h (by decide)) (by decide)
set_option maxHeartbeats 40000000 in
theorem edJust_core (ap am ag : Option Addr) (cp cm cg : Nat) (pub msg sig : List UInt8) (w : World) (T : Te w) (TS : Sha.Tb w) (hrp : Rd w ap pub) (hcp : pub.length ≤ cp ∧ cp ≤ 9223372036854775807) (hnp : ap = none → pub.length = 0 ∧ cp = 0) (hlp : pub.length ≤ 1048576) (hrm : Rd w am msg) (hcm : msg.length ≤ cm ∧ cm ≤ 9223372036854775807) (hnm : am = none → msg.length = 0 ∧ cm = 0) (hlm : msg.length ≤ 1048576) (hrg : Rd w ag sig) (hcg : sig.length ≤ cg ∧ cg ≤ 9223372036854775807) (hng : ag = none → sig.length = 0 ∧ cg = 0) (hlg : sig.length ≤ 1048576) :
    Calls Tryz.prog 9 #[.slice ap pub.length cp, .slice am msg.length cm, .slice ag sig.length cg] w fun e w' => e = .returned (.bool true) ∧ Below w.heap.size w w' := by
  obtain ⟨i, hi, hz, hsize, hby⟩ := info_u8
  have HT : Hid (Te w ∧ Sha.Tb w) := ⟨T, TS⟩
  clear T TS
  have HB0 : Hid (Below w.heap.size w w) := Below.refl _ _
  have Hrp0 : Hid (Rd w ap pub) := hrp
  have Hcp : Hid ((pub.length ≤ cp ∧ cp ≤ 9223372036854775807) ∧ (ap = none → pub.length = 0 ∧ cp = 0) ∧ pub.length ≤ 1048576) := ⟨hcp, hnp, hlp⟩
  have Hrm0 : Hid (Rd w am msg) := hrm
  have Hcm : Hid ((msg.length ≤ cm ∧ cm ≤ 9223372036854775807) ∧ (am = none → msg.length = 0 ∧ cm = 0) ∧ msg.length ≤ 1048576) := ⟨hcm, hnm, hlm⟩
  have Hrg0 : Hid (Rd w ag sig) := hrg
  have Hcg : Hid ((sig.length ≤ cg ∧ cg ≤ 9223372036854775807) ∧ (ag = none → sig.length = 0 ∧ cg = 0) ∧ sig.length ≤ 1048576) := ⟨hcg, hng, hlg⟩
  clear hrp hcp hnp hlp hrm hcm hnm hlm hrg hcg hng hlg
  go_enter Tryz.func9, Tryz.ntmps9
  go_wp2_with fail
  refine (awake13_v _ (HT.out.1.below HB0.out (Nat.le_refl _)) (HT.out.2.below HB0.out)).mono ?_
  rintro e w1 ⟨rfl, hB⟩
  have HB1 : Hid (Below w.heap.size w w1) := HB0.out.trans (hB.mono HB0.out.size)
  have Hrp1 : Hid (Rd w1 ap pub) := Hrp0.out.below hB (Nat.le_refl _)
  have Hrm1 : Hid (Rd w1 am msg) := Hrm0.out.below hB (Nat.le_refl _)
  have Hrg1 : Hid (Rd w1 ag sig) := Hrg0.out.below hB (Nat.le_refl _)
  clear hB
  go_wp2_with fail
  refine (verify_any ap am ag cp cm cg pub msg (sig) _ (HT.out.1.below HB1.out (Nat.le_refl _)) (HT.out.2.below HB1.out) Hrp1.out Hrm1.out Hrg1.out Hcp.out.1 Hcm.out.1 Hcg.out.1 (by have := Hcm.out.2.2; omega)).mono ?_
  rintro e w2 ⟨⟨z1, rfl, hz1⟩, hB⟩
  have HB2 : Hid (Below w.heap.size w w2) := HB1.out.trans (hB.mono HB1.out.size)
  have Hrp2 : Hid (Rd w2 ap pub) := Hrp1.out.below hB (Nat.le_refl _)
  have Hrm2 : Hid (Rd w2 am msg) := Hrm1.out.below hB (Nat.le_refl _)
  have Hrg2 : Hid (Rd w2 ag sig) := Hrg1.out.below hB (Nat.le_refl _)
  have Hz1 : Hid (_ ∨ _) := hz1
  clear hB hz1
  go_wp2_with fail
  refine (decode_p ap cp pub _ (HT.out.1.below HB2.out (Nat.le_refl _)) Hrp2.out).mono ?_
  rintro e w3 ⟨hA, hB⟩
  have HB3 : Hid (Below w.heap.size w w3) := HB2.out.trans (hB.mono HB2.out.size)
  have Hrp3 : Hid (Rd w3 ap pub) := Hrp2.out.below hB (Nat.le_refl _)
  have Hrm3 : Hid (Rd w3 am msg) := Hrm2.out.below hB (Nat.le_refl _)
  have Hrg3 : Hid (Rd w3 ag sig) := Hrg2.out.below hB (Nat.le_refl _)
  clear hB
  rcases hA with ⟨P, v, oP, eK, rfl, hm⟩ | ⟨hno, rfl⟩
  · have HO : Hid (onE eP eD P ∧ encL P = pub ∧ z1 = verC P pub msg sig) := by
      rcases Hz1.out with ⟨_, h⟩ | ⟨Q, p1, p2, p3⟩
      · exact absurd eK (h P oP)
      · obtain rfl := encL_inj p1 oP (p2.trans eK.symm)
        exact ⟨oP, eK, p3⟩
    obtain ⟨ax, ay, rfl, hpn⟩ := hm.pn
    obtain ⟨⟨ax0, ax1, ax2, rfl⟩, ⟨ay0, ay1, ay2, rfl⟩⟩ := hpn.sl
    have Hpa0 : Hid (Pn w3 (.slice ax0 ax1 ax2) (.slice ay0 ay1 ay2) P) := hpn
    clear hpn
    clear oP eK hm Hz1
    have hba := alloc_below w3 (.cells #[.slice ax0 ax1 ax2, .slice ay0 ay1 ay2, .bool false] 31)
    have HB4 : Hid (Below w.heap.size w (w3.alloc (.cells #[.slice ax0 ax1 ax2, .slice ay0 ay1 ay2, .bool false] 31))) := HB3.out.trans (hba.mono HB3.out.size)
    have Hrp4 : Hid (Rd (w3.alloc (.cells #[.slice ax0 ax1 ax2, .slice ay0 ay1 ay2, .bool false] 31)) ap pub) := Hrp3.out.below hba (Nat.le_refl _)
    have Hrm4 : Hid (Rd (w3.alloc (.cells #[.slice ax0 ax1 ax2, .slice ay0 ay1 ay2, .bool false] 31)) am msg) := Hrm3.out.below hba (Nat.le_refl _)
    have Hrg4 : Hid (Rd (w3.alloc (.cells #[.slice ax0 ax1 ax2, .slice ay0 ay1 ay2, .bool false] 31)) ag sig) := Hrg3.out.below hba (Nat.le_refl _)
    have Hpa1 : Hid (Pn (w3.alloc (.cells #[.slice ax0 ax1 ax2, .slice ay0 ay1 ay2, .bool false] 31)) (.slice ax0 ax1 ax2) (.slice ay0 ay1 ay2) P) := Hpa0.out.below hba (Nat.le_refl _)
    clear hba
    have Hba0 : Hid (Bl 31 (w3.alloc (.cells #[.slice ax0 ax1 ax2, .slice ay0 ay1 ay2, .bool false] 31)) w3.heap.size [.slice ax0 ax1 ax2, .slice ay0 ay1 ay2, .bool false]) := alloc_bl w3 [.slice ax0 ax1 ax2, .slice ay0 ay1 ay2, .bool false] 31
    have HV := verC_cases P pub msg sig
    have HVh : Hid ((verC P pub msg sig = 0 ∧ Holds13 P pub msg sig) ∨ (verC P pub msg sig = 91 ∧ ¬ Holds13 P pub msg sig)) := HV
    clear HV
    by_cases hl : sig.length = 64
    · obtain ⟨g, off, rfl⟩ : ∃ g off : Nat, ag = some ⟨g, off, none⟩ := by
        rcases Hrg4.out with h | ⟨g, off, e, _⟩
        · subst h; simp at hl
        · exact ⟨g, off, e⟩
      have Hl1 : Hid ((sig.take 32).length = 32 ∧ (sig.drop 32).length = 32 ∧ sig.length = 64) := ⟨by rw [List.length_take, hl]; rfl, by rw [List.length_drop, hl], hl⟩
      have hc64 : 64 ≤ cg := by have := Hcg.out.1.1; omega
      have hci : (32 : Int) ≤ (cg : Int) := by omega
      have hci2 : (64 : Int) ≤ (cg : Int) := by omega
      have hcne : ¬ cg = 32 := by omega
      rw [hl]
      have Hrt0 : Hid (Rd (w3.alloc (.cells #[.slice ax0 ax1 ax2, .slice ay0 ay1 ay2, .bool false] 31)) (some ⟨g, off, none⟩) (sig.take 32)) := rd_take Hrg4.out 32
      have Hrd0 : Hid (Rd (w3.alloc (.cells #[.slice ax0 ax1 ax2, .slice ay0 ay1 ay2, .bool false] 31)) (some ⟨g, off + 32, none⟩) (sig.drop 32)) := rd_drop Hrg4.out 32
      clear hl
      obtain ⟨S, HS⟩ : ∃ S, Hid (S = leN (sig.drop 32)) := ⟨_, rfl⟩
      go_wp2_with fail
      generalize (w3.alloc (.cells #[.slice ax0 ax1 ax2, .slice ay0 ay1 ay2, .bool false] 31)) = wv4 at *
      have C := little_v (some ⟨g, off + 32, none⟩) (cg - 32) (sig.drop 32) _ Hrd0.out (by rw [Hl1.out.2.1]; decide) (by rw [Hl1.out.2.1]; decide)
      rw [Hl1.out.2.1, ← HS.out] at C
      refine C.mono ?_
      clear C
      rintro e w5 ⟨sv, rfl, h⟩
      have hB := h.bel
      have HB5 : Hid (Below w.heap.size w w5) := HB4.out.trans (hB.mono HB4.out.size)
      have Hrp5 : Hid (Rd w5 ap pub) := Hrp4.out.below hB (Nat.le_refl _)
      have Hrm5 : Hid (Rd w5 am msg) := Hrm4.out.below hB (Nat.le_refl _)
      have Hrg5 : Hid (Rd w5 (some ⟨g, off, none⟩) sig) := Hrg4.out.below hB (Nat.le_refl _)
      have Hpa2 : Hid (Pn w5 (.slice ax0 ax1 ax2) (.slice ay0 ay1 ay2) P) := Hpa1.out.below hB (Nat.le_refl _)
      have Hba1 : Hid (Bl 31 w5 w3.heap.size [.slice ax0 ax1 ax2, .slice ay0 ay1 ay2, .bool false]) := Hba0.out.below hB Hba0.out.lt
      have Hrt1 : Hid (Rd w5 (some ⟨g, off, none⟩) (sig.take 32)) := Hrt0.out.below hB (Nat.le_refl _)
      have Hrd1 : Hid (Rd w5 (some ⟨g, off + 32, none⟩) (sig.drop 32)) := Hrd0.out.below hB (Nat.le_refl _)
      have Hnsv0 : Hid (Nk w5 sv S 256) := h.nb
      clear hB h
      go_wp2_with fail
      refine (order_v _ (HT.out.1.below HB5.out (Nat.le_refl _))).mono ?_
      rintro e w6 ⟨ov, rfl, h⟩
      have HB6 : Hid (Below w.heap.size w w6) := HB5.out.trans (h.bel.mono HB5.out.size)
      have Hrp6 : Hid (Rd w6 ap pub) := Hrp5.out.below h.bel (Nat.le_refl _)
      have Hrm6 : Hid (Rd w6 am msg) := Hrm5.out.below h.bel (Nat.le_refl _)
      have Hrg6 : Hid (Rd w6 (some ⟨g, off, none⟩) sig) := Hrg5.out.below h.bel (Nat.le_refl _)
      have Hpa3 : Hid (Pn w6 (.slice ax0 ax1 ax2) (.slice ay0 ay1 ay2) P) := Hpa2.out.below h.bel (Nat.le_refl _)
      have Hba2 : Hid (Bl 31 w6 w3.heap.size [.slice ax0 ax1 ax2, .slice ay0 ay1 ay2, .bool false]) := Hba1.out.below h.bel Hba1.out.lt
      have Hrt2 : Hid (Rd w6 (some ⟨g, off, none⟩) (sig.take 32)) := Hrt1.out.below h.bel (Nat.le_refl _)
      have Hrd2 : Hid (Rd w6 (some ⟨g, off + 32, none⟩) (sig.drop 32)) := Hrd1.out.below h.bel (Nat.le_refl _)
      have Hnsv1 : Hid (Nk w6 sv S 256) := Hnsv0.out.below h.bel (Nat.le_refl _)
      have Hno0 : Hid (Nk w6 ov eL 256) := h.nb
      clear h
      go_wp2_with fail
      refine (vcmp _ _ S eL _ _ _ Hnsv1.out.1 Hno0.out.1 (by decide) (by decide)).mono ?_
      rintro e wc ⟨rfl, qq, hq⟩
      have hB : Below w6.heap.size w6 wc := by rw [hq]; exact below_drewN (Below.refl _ _) qq
      have HB7 : Hid (Below w.heap.size w wc) := HB6.out.trans (hB.mono HB6.out.size)
      have Hrp7 : Hid (Rd wc ap pub) := Hrp6.out.below hB (Nat.le_refl _)
      have Hrm7 : Hid (Rd wc am msg) := Hrm6.out.below hB (Nat.le_refl _)
      have Hrg7 : Hid (Rd wc (some ⟨g, off, none⟩) sig) := Hrg6.out.below hB (Nat.le_refl _)
      have Hpa4 : Hid (Pn wc (.slice ax0 ax1 ax2) (.slice ay0 ay1 ay2) P) := Hpa3.out.below hB (Nat.le_refl _)
      have Hba3 : Hid (Bl 31 wc w3.heap.size [.slice ax0 ax1 ax2, .slice ay0 ay1 ay2, .bool false]) := Hba2.out.below hB Hba2.out.lt
      have Hrt3 : Hid (Rd wc (some ⟨g, off, none⟩) (sig.take 32)) := Hrt2.out.below hB (Nat.le_refl _)
      have Hrd3 : Hid (Rd wc (some ⟨g, off + 32, none⟩) (sig.drop 32)) := Hrd2.out.below hB (Nat.le_refl _)
      have Hnsv2 : Hid (Nk wc sv S 256) := Hnsv1.out.below hB (Nat.le_refl _)
      have Hno1 : Hid (Nk wc ov eL 256) := Hno0.out.below hB (Nat.le_refl _)
      clear hB hq
      by_cases hS : S < eL
      · rw [cmp3_lt (show ((S : Nat) : Int) < ((eL : Nat) : Int) from Int.ofNat_lt.2 hS)]
        have HSL : Hid (S < eL) := hS
        clear hS
        have C := challenge_v (some ⟨g, off, none⟩) ap am cg cp cm (sig.take 32) pub msg _ (HT.out.1.below HB7.out (Nat.le_refl _)) (HT.out.2.below HB7.out) Hrt3.out Hrp7.out Hrm7.out (by rw [Hl1.out.1]; have := Hcg.out.1; omega) Hcp.out.1 Hcm.out.1 (by rw [Hl1.out.1]; have h1 := Hcp.out.2.2; have h2 := Hcm.out.2.2; omega)
        rw [Hl1.out.1] at C
        obtain ⟨KK, HK⟩ : ∃ K, Hid (K = kV (sig.take 32) pub msg) := ⟨_, rfl⟩
        rw [← HK.out] at C
        go_wp2_with fail
        refine C.mono ?_
        clear C
        rintro e w7 ⟨kv, rfl, h⟩
        have hB := h.bel
        have HB8 : Hid (Below w.heap.size w w7) := HB7.out.trans (hB.mono HB7.out.size)
        have Hrp8 : Hid (Rd w7 ap pub) := Hrp7.out.below hB (Nat.le_refl _)
        have Hrm8 : Hid (Rd w7 am msg) := Hrm7.out.below hB (Nat.le_refl _)
        have Hrg8 : Hid (Rd w7 (some ⟨g, off, none⟩) sig) := Hrg7.out.below hB (Nat.le_refl _)
        have Hpa5 : Hid (Pn w7 (.slice ax0 ax1 ax2) (.slice ay0 ay1 ay2) P) := Hpa4.out.below hB (Nat.le_refl _)
        have Hba4 : Hid (Bl 31 w7 w3.heap.size [.slice ax0 ax1 ax2, .slice ay0 ay1 ay2, .bool false]) := Hba3.out.below hB Hba3.out.lt
        have Hrt4 : Hid (Rd w7 (some ⟨g, off, none⟩) (sig.take 32)) := Hrt3.out.below hB (Nat.le_refl _)
        have Hrd4 : Hid (Rd w7 (some ⟨g, off + 32, none⟩) (sig.drop 32)) := Hrd3.out.below hB (Nat.le_refl _)
        have Hnsv3 : Hid (Nk w7 sv S 256) := Hnsv2.out.below hB (Nat.le_refl _)
        have Hno2 : Hid (Nk w7 ov eL 256) := Hno1.out.below hB (Nat.le_refl _)
        have Hnk0 : Hid (Nk w7 kv KK 256) := h.nb
        clear hB h
        go_wp2_with fail
        have C := little_v (some ⟨g, off + 32, none⟩) (cg - 32) (sig.drop 32) _ Hrd4.out (by rw [Hl1.out.2.1]; decide) (by rw [Hl1.out.2.1]; decide)
        rw [Hl1.out.2.1, ← HS.out] at C
        refine C.mono ?_
        clear C
        rintro e w8 ⟨tv, rfl, h⟩
        have hB := h.bel
        have HB9 : Hid (Below w.heap.size w w8) := HB8.out.trans (hB.mono HB8.out.size)
        have Hrp9 : Hid (Rd w8 ap pub) := Hrp8.out.below hB (Nat.le_refl _)
        have Hrm9 : Hid (Rd w8 am msg) := Hrm8.out.below hB (Nat.le_refl _)
        have Hrg9 : Hid (Rd w8 (some ⟨g, off, none⟩) sig) := Hrg8.out.below hB (Nat.le_refl _)
        have Hpa6 : Hid (Pn w8 (.slice ax0 ax1 ax2) (.slice ay0 ay1 ay2) P) := Hpa5.out.below hB (Nat.le_refl _)
        have Hba5 : Hid (Bl 31 w8 w3.heap.size [.slice ax0 ax1 ax2, .slice ay0 ay1 ay2, .bool false]) := Hba4.out.below hB Hba4.out.lt
        have Hrt5 : Hid (Rd w8 (some ⟨g, off, none⟩) (sig.take 32)) := Hrt4.out.below hB (Nat.le_refl _)
        have Hrd5 : Hid (Rd w8 (some ⟨g, off + 32, none⟩) (sig.drop 32)) := Hrd4.out.below hB (Nat.le_refl _)
        have Hnsv4 : Hid (Nk w8 sv S 256) := Hnsv3.out.below hB (Nat.le_refl _)
        have Hno3 : Hid (Nk w8 ov eL 256) := Hno2.out.below hB (Nat.le_refl _)
        have Hnk1 : Hid (Nk w8 kv KK 256) := Hnk0.out.below hB (Nat.le_refl _)
        have Hntv0 : Hid (Nk w8 tv S 256) := h.nb
        clear hB h
        go_wp2_with fail
        refine (base_v _ (HT.out.1.below HB9.out (Nat.le_refl _))).mono ?_
        rintro e w9 ⟨v, rfl, hm, hB⟩
        have HB10 : Hid (Below w.heap.size w w9) := HB9.out.trans (hB.mono HB9.out.size)
        have Hrp10 : Hid (Rd w9 ap pub) := Hrp9.out.below hB (Nat.le_refl _)
        have Hrm10 : Hid (Rd w9 am msg) := Hrm9.out.below hB (Nat.le_refl _)
        have Hrg10 : Hid (Rd w9 (some ⟨g, off, none⟩) sig) := Hrg9.out.below hB (Nat.le_refl _)
        have Hpa7 : Hid (Pn w9 (.slice ax0 ax1 ax2) (.slice ay0 ay1 ay2) P) := Hpa6.out.below hB (Nat.le_refl _)
        have Hba6 : Hid (Bl 31 w9 w3.heap.size [.slice ax0 ax1 ax2, .slice ay0 ay1 ay2, .bool false]) := Hba5.out.below hB Hba5.out.lt
        have Hrt6 : Hid (Rd w9 (some ⟨g, off, none⟩) (sig.take 32)) := Hrt5.out.below hB (Nat.le_refl _)
        have Hrd6 : Hid (Rd w9 (some ⟨g, off + 32, none⟩) (sig.drop 32)) := Hrd5.out.below hB (Nat.le_refl _)
        have Hnsv5 : Hid (Nk w9 sv S 256) := Hnsv4.out.below hB (Nat.le_refl _)
        have Hno4 : Hid (Nk w9 ov eL 256) := Hno3.out.below hB (Nat.le_refl _)
        have Hnk2 : Hid (Nk w9 kv KK 256) := Hnk1.out.below hB (Nat.le_refl _)
        have Hntv1 : Hid (Nk w9 tv S 256) := Hntv0.out.below hB (Nat.le_refl _)
        obtain ⟨qx, qy, rfl, hpn⟩ := hm.pn
        obtain ⟨⟨qx0, qx1, qx2, rfl⟩, ⟨qy0, qy1, qy2, rfl⟩⟩ := hpn.sl
        have Hpq0 : Hid (Pn w9 (.slice qx0 qx1 qx2) (.slice qy0 qy1 qy2) eB) := hpn
        clear hpn
        clear hB hm
        go_wp2_with fail
        refine (mul_p (HT.out.1.below HB10.out (Nat.le_refl _)) Hntv1.out.1 Hpq0.out onB (bl_256 Hntv1.out.2)).mono ?_
        rintro e w10 ⟨v, rfl, hm, hB⟩
        have HB11 : Hid (Below w.heap.size w w10) := HB10.out.trans (hB.mono HB10.out.size)
        have Hrp11 : Hid (Rd w10 ap pub) := Hrp10.out.below hB (Nat.le_refl _)
        have Hrm11 : Hid (Rd w10 am msg) := Hrm10.out.below hB (Nat.le_refl _)
        have Hrg11 : Hid (Rd w10 (some ⟨g, off, none⟩) sig) := Hrg10.out.below hB (Nat.le_refl _)
        have Hpa8 : Hid (Pn w10 (.slice ax0 ax1 ax2) (.slice ay0 ay1 ay2) P) := Hpa7.out.below hB (Nat.le_refl _)
        have Hba7 : Hid (Bl 31 w10 w3.heap.size [.slice ax0 ax1 ax2, .slice ay0 ay1 ay2, .bool false]) := Hba6.out.below hB Hba6.out.lt
        have Hrt7 : Hid (Rd w10 (some ⟨g, off, none⟩) (sig.take 32)) := Hrt6.out.below hB (Nat.le_refl _)
        have Hrd7 : Hid (Rd w10 (some ⟨g, off + 32, none⟩) (sig.drop 32)) := Hrd6.out.below hB (Nat.le_refl _)
        have Hnsv6 : Hid (Nk w10 sv S 256) := Hnsv5.out.below hB (Nat.le_refl _)
        have Hno5 : Hid (Nk w10 ov eL 256) := Hno4.out.below hB (Nat.le_refl _)
        have Hnk3 : Hid (Nk w10 kv KK 256) := Hnk2.out.below hB (Nat.le_refl _)
        have Hntv2 : Hid (Nk w10 tv S 256) := Hntv1.out.below hB (Nat.le_refl _)
        have Hpq1 : Hid (Pn w10 (.slice qx0 qx1 qx2) (.slice qy0 qy1 qy2) eB) := Hpq0.out.below hB (Nat.le_refl _)
        obtain ⟨ex, ey, rfl, hpn⟩ := hm.pn
        obtain ⟨⟨ex0, ex1, ex2, rfl⟩, ⟨ey0, ey1, ey2, rfl⟩⟩ := hpn.sl
        have Hpe0 : Hid (Pn w10 (.slice ex0 ex1 ex2) (.slice ey0 ey1 ey2) (me eP eD S eB)) := hpn
        clear hpn
        clear hB hm
        have hba := alloc_below w10 (.cells #[.slice ex0 ex1 ex2, .slice ey0 ey1 ey2, .bool false] 31)
        have HB12 : Hid (Below w.heap.size w (w10.alloc (.cells #[.slice ex0 ex1 ex2, .slice ey0 ey1 ey2, .bool false] 31))) := HB11.out.trans (hba.mono HB11.out.size)
        have Hrp12 : Hid (Rd (w10.alloc (.cells #[.slice ex0 ex1 ex2, .slice ey0 ey1 ey2, .bool false] 31)) ap pub) := Hrp11.out.below hba (Nat.le_refl _)
        have Hrm12 : Hid (Rd (w10.alloc (.cells #[.slice ex0 ex1 ex2, .slice ey0 ey1 ey2, .bool false] 31)) am msg) := Hrm11.out.below hba (Nat.le_refl _)
        have Hrg12 : Hid (Rd (w10.alloc (.cells #[.slice ex0 ex1 ex2, .slice ey0 ey1 ey2, .bool false] 31)) (some ⟨g, off, none⟩) sig) := Hrg11.out.below hba (Nat.le_refl _)
        have Hpa9 : Hid (Pn (w10.alloc (.cells #[.slice ex0 ex1 ex2, .slice ey0 ey1 ey2, .bool false] 31)) (.slice ax0 ax1 ax2) (.slice ay0 ay1 ay2) P) := Hpa8.out.below hba (Nat.le_refl _)
        have Hba8 : Hid (Bl 31 (w10.alloc (.cells #[.slice ex0 ex1 ex2, .slice ey0 ey1 ey2, .bool false] 31)) w3.heap.size [.slice ax0 ax1 ax2, .slice ay0 ay1 ay2, .bool false]) := Hba7.out.below hba Hba7.out.lt
        have Hrt8 : Hid (Rd (w10.alloc (.cells #[.slice ex0 ex1 ex2, .slice ey0 ey1 ey2, .bool false] 31)) (some ⟨g, off, none⟩) (sig.take 32)) := Hrt7.out.below hba (Nat.le_refl _)
        have Hrd8 : Hid (Rd (w10.alloc (.cells #[.slice ex0 ex1 ex2, .slice ey0 ey1 ey2, .bool false] 31)) (some ⟨g, off + 32, none⟩) (sig.drop 32)) := Hrd7.out.below hba (Nat.le_refl _)
        have Hnsv7 : Hid (Nk (w10.alloc (.cells #[.slice ex0 ex1 ex2, .slice ey0 ey1 ey2, .bool false] 31)) sv S 256) := Hnsv6.out.below hba (Nat.le_refl _)
        have Hno6 : Hid (Nk (w10.alloc (.cells #[.slice ex0 ex1 ex2, .slice ey0 ey1 ey2, .bool false] 31)) ov eL 256) := Hno5.out.below hba (Nat.le_refl _)
        have Hnk4 : Hid (Nk (w10.alloc (.cells #[.slice ex0 ex1 ex2, .slice ey0 ey1 ey2, .bool false] 31)) kv KK 256) := Hnk3.out.below hba (Nat.le_refl _)
        have Hntv3 : Hid (Nk (w10.alloc (.cells #[.slice ex0 ex1 ex2, .slice ey0 ey1 ey2, .bool false] 31)) tv S 256) := Hntv2.out.below hba (Nat.le_refl _)
        have Hpq2 : Hid (Pn (w10.alloc (.cells #[.slice ex0 ex1 ex2, .slice ey0 ey1 ey2, .bool false] 31)) (.slice qx0 qx1 qx2) (.slice qy0 qy1 qy2) eB) := Hpq1.out.below hba (Nat.le_refl _)
        have Hpe1 : Hid (Pn (w10.alloc (.cells #[.slice ex0 ex1 ex2, .slice ey0 ey1 ey2, .bool false] 31)) (.slice ex0 ex1 ex2) (.slice ey0 ey1 ey2) (me eP eD S eB)) := Hpe0.out.below hba (Nat.le_refl _)
        clear hba
        have Hbe0 : Hid (Bl 31 (w10.alloc (.cells #[.slice ex0 ex1 ex2, .slice ey0 ey1 ey2, .bool false] 31)) w10.heap.size [.slice ex0 ex1 ex2, .slice ey0 ey1 ey2, .bool false]) := alloc_bl w10 [.slice ex0 ex1 ex2, .slice ey0 ey1 ey2, .bool false] 31
        have ka_0 : (w10.alloc (.cells #[.slice ex0 ex1 ex2, .slice ey0 ey1 ey2, .bool false] 31)).cell? ⟨w3.heap.size, 0, none⟩ = some (.slice ax0 ax1 ax2) := Hba8.out.cell 0 (by simp)
        have ka_1 : (w10.alloc (.cells #[.slice ex0 ex1 ex2, .slice ey0 ey1 ey2, .bool false] 31)).cell? ⟨w3.heap.size, 1, none⟩ = some (.slice ay0 ay1 ay2) := Hba8.out.cell 1 (by simp)
        have ka_2 : (w10.alloc (.cells #[.slice ex0 ex1 ex2, .slice ey0 ey1 ey2, .bool false] 31)).cell? ⟨w3.heap.size, 2, none⟩ = some (.bool false) := Hba8.out.cell 2 (by simp)
        go_wp2_with fail
        clear ka_0 ka_1 ka_2
        generalize (w10.alloc (.cells #[.slice ex0 ex1 ex2, .slice ey0 ey1 ey2, .bool false] 31)) = wv11 at *
        refine (lopp_p Hpa9.out HO.out.1).mono ?_
        rintro e w12 ⟨u, rfl, hm, hB⟩
        have HB13 : Hid (Below w.heap.size w w12) := HB12.out.trans (hB.mono HB12.out.size)
        have Hrp13 : Hid (Rd w12 ap pub) := Hrp12.out.below hB (Nat.le_refl _)
        have Hrm13 : Hid (Rd w12 am msg) := Hrm12.out.below hB (Nat.le_refl _)
        have Hrg13 : Hid (Rd w12 (some ⟨g, off, none⟩) sig) := Hrg12.out.below hB (Nat.le_refl _)
        have Hpa10 : Hid (Pn w12 (.slice ax0 ax1 ax2) (.slice ay0 ay1 ay2) P) := Hpa9.out.below hB (Nat.le_refl _)
        have Hba9 : Hid (Bl 31 w12 w3.heap.size [.slice ax0 ax1 ax2, .slice ay0 ay1 ay2, .bool false]) := Hba8.out.below hB Hba8.out.lt
        have Hrt9 : Hid (Rd w12 (some ⟨g, off, none⟩) (sig.take 32)) := Hrt8.out.below hB (Nat.le_refl _)
        have Hrd9 : Hid (Rd w12 (some ⟨g, off + 32, none⟩) (sig.drop 32)) := Hrd8.out.below hB (Nat.le_refl _)
        have Hnsv8 : Hid (Nk w12 sv S 256) := Hnsv7.out.below hB (Nat.le_refl _)
        have Hno7 : Hid (Nk w12 ov eL 256) := Hno6.out.below hB (Nat.le_refl _)
        have Hnk5 : Hid (Nk w12 kv KK 256) := Hnk4.out.below hB (Nat.le_refl _)
        have Hntv4 : Hid (Nk w12 tv S 256) := Hntv3.out.below hB (Nat.le_refl _)
        have Hpq3 : Hid (Pn w12 (.slice qx0 qx1 qx2) (.slice qy0 qy1 qy2) eB) := Hpq2.out.below hB (Nat.le_refl _)
        have Hpe2 : Hid (Pn w12 (.slice ex0 ex1 ex2) (.slice ey0 ey1 ey2) (me eP eD S eB)) := Hpe1.out.below hB (Nat.le_refl _)
        have Hbe1 : Hid (Bl 31 w12 w10.heap.size [.slice ex0 ex1 ex2, .slice ey0 ey1 ey2, .bool false]) := Hbe0.out.below hB Hbe0.out.lt
        obtain ⟨⟨u0, u1, u2, rfl⟩, _⟩ := hm.sl
        have Hpu0 : Hid (Pn w12 (.slice u0 u1 u2) (.slice ay0 ay1 ay2) (ne eP P)) := hm
        clear hB hm
        go_wp2_with fail
        refine (mul_p (HT.out.1.below HB13.out (Nat.le_refl _)) Hnk5.out.1 Hpu0.out (ew.non HO.out.1) (bl_256 Hnk5.out.2)).mono ?_
        rintro e w13 ⟨v, rfl, hm, hB⟩
        have HB14 : Hid (Below w.heap.size w w13) := HB13.out.trans (hB.mono HB13.out.size)
        have Hrp14 : Hid (Rd w13 ap pub) := Hrp13.out.below hB (Nat.le_refl _)
        have Hrm14 : Hid (Rd w13 am msg) := Hrm13.out.below hB (Nat.le_refl _)
        have Hrg14 : Hid (Rd w13 (some ⟨g, off, none⟩) sig) := Hrg13.out.below hB (Nat.le_refl _)
        have Hpa11 : Hid (Pn w13 (.slice ax0 ax1 ax2) (.slice ay0 ay1 ay2) P) := Hpa10.out.below hB (Nat.le_refl _)
        have Hba10 : Hid (Bl 31 w13 w3.heap.size [.slice ax0 ax1 ax2, .slice ay0 ay1 ay2, .bool false]) := Hba9.out.below hB Hba9.out.lt
        have Hrt10 : Hid (Rd w13 (some ⟨g, off, none⟩) (sig.take 32)) := Hrt9.out.below hB (Nat.le_refl _)
        have Hrd10 : Hid (Rd w13 (some ⟨g, off + 32, none⟩) (sig.drop 32)) := Hrd9.out.below hB (Nat.le_refl _)
        have Hnsv9 : Hid (Nk w13 sv S 256) := Hnsv8.out.below hB (Nat.le_refl _)
        have Hno8 : Hid (Nk w13 ov eL 256) := Hno7.out.below hB (Nat.le_refl _)
        have Hnk6 : Hid (Nk w13 kv KK 256) := Hnk5.out.below hB (Nat.le_refl _)
        have Hntv5 : Hid (Nk w13 tv S 256) := Hntv4.out.below hB (Nat.le_refl _)
        have Hpq4 : Hid (Pn w13 (.slice qx0 qx1 qx2) (.slice qy0 qy1 qy2) eB) := Hpq3.out.below hB (Nat.le_refl _)
        have Hpe3 : Hid (Pn w13 (.slice ex0 ex1 ex2) (.slice ey0 ey1 ey2) (me eP eD S eB)) := Hpe2.out.below hB (Nat.le_refl _)
        have Hbe2 : Hid (Bl 31 w13 w10.heap.size [.slice ex0 ex1 ex2, .slice ey0 ey1 ey2, .bool false]) := Hbe1.out.below hB Hbe1.out.lt
        have Hpu1 : Hid (Pn w13 (.slice u0 u1 u2) (.slice ay0 ay1 ay2) (ne eP P)) := Hpu0.out.below hB (Nat.le_refl _)
        obtain ⟨fx, fy, rfl, hpn⟩ := hm.pn
        obtain ⟨⟨fx0, fx1, fx2, rfl⟩, ⟨fy0, fy1, fy2, rfl⟩⟩ := hpn.sl
        have Hpf0 : Hid (Pn w13 (.slice fx0 fx1 fx2) (.slice fy0 fy1 fy2) (me eP eD KK (ne eP P))) := hpn
        clear hpn
        clear hB hm
        have hba := alloc_below w13 (.cells #[.slice fx0 fx1 fx2, .slice fy0 fy1 fy2, .bool false] 31)
        have HB15 : Hid (Below w.heap.size w (w13.alloc (.cells #[.slice fx0 fx1 fx2, .slice fy0 fy1 fy2, .bool false] 31))) := HB14.out.trans (hba.mono HB14.out.size)
        have Hrp15 : Hid (Rd (w13.alloc (.cells #[.slice fx0 fx1 fx2, .slice fy0 fy1 fy2, .bool false] 31)) ap pub) := Hrp14.out.below hba (Nat.le_refl _)
        have Hrm15 : Hid (Rd (w13.alloc (.cells #[.slice fx0 fx1 fx2, .slice fy0 fy1 fy2, .bool false] 31)) am msg) := Hrm14.out.below hba (Nat.le_refl _)
        have Hrg15 : Hid (Rd (w13.alloc (.cells #[.slice fx0 fx1 fx2, .slice fy0 fy1 fy2, .bool false] 31)) (some ⟨g, off, none⟩) sig) := Hrg14.out.below hba (Nat.le_refl _)
        have Hpa12 : Hid (Pn (w13.alloc (.cells #[.slice fx0 fx1 fx2, .slice fy0 fy1 fy2, .bool false] 31)) (.slice ax0 ax1 ax2) (.slice ay0 ay1 ay2) P) := Hpa11.out.below hba (Nat.le_refl _)
        have Hba11 : Hid (Bl 31 (w13.alloc (.cells #[.slice fx0 fx1 fx2, .slice fy0 fy1 fy2, .bool false] 31)) w3.heap.size [.slice ax0 ax1 ax2, .slice ay0 ay1 ay2, .bool false]) := Hba10.out.below hba Hba10.out.lt
        have Hrt11 : Hid (Rd (w13.alloc (.cells #[.slice fx0 fx1 fx2, .slice fy0 fy1 fy2, .bool false] 31)) (some ⟨g, off, none⟩) (sig.take 32)) := Hrt10.out.below hba (Nat.le_refl _)
        have Hrd11 : Hid (Rd (w13.alloc (.cells #[.slice fx0 fx1 fx2, .slice fy0 fy1 fy2, .bool false] 31)) (some ⟨g, off + 32, none⟩) (sig.drop 32)) := Hrd10.out.below hba (Nat.le_refl _)
        have Hnsv10 : Hid (Nk (w13.alloc (.cells #[.slice fx0 fx1 fx2, .slice fy0 fy1 fy2, .bool false] 31)) sv S 256) := Hnsv9.out.below hba (Nat.le_refl _)
        have Hno9 : Hid (Nk (w13.alloc (.cells #[.slice fx0 fx1 fx2, .slice fy0 fy1 fy2, .bool false] 31)) ov eL 256) := Hno8.out.below hba (Nat.le_refl _)
        have Hnk7 : Hid (Nk (w13.alloc (.cells #[.slice fx0 fx1 fx2, .slice fy0 fy1 fy2, .bool false] 31)) kv KK 256) := Hnk6.out.below hba (Nat.le_refl _)
        have Hntv6 : Hid (Nk (w13.alloc (.cells #[.slice fx0 fx1 fx2, .slice fy0 fy1 fy2, .bool false] 31)) tv S 256) := Hntv5.out.below hba (Nat.le_refl _)
        have Hpq5 : Hid (Pn (w13.alloc (.cells #[.slice fx0 fx1 fx2, .slice fy0 fy1 fy2, .bool false] 31)) (.slice qx0 qx1 qx2) (.slice qy0 qy1 qy2) eB) := Hpq4.out.below hba (Nat.le_refl _)
        have Hpe4 : Hid (Pn (w13.alloc (.cells #[.slice fx0 fx1 fx2, .slice fy0 fy1 fy2, .bool false] 31)) (.slice ex0 ex1 ex2) (.slice ey0 ey1 ey2) (me eP eD S eB)) := Hpe3.out.below hba (Nat.le_refl _)
        have Hbe3 : Hid (Bl 31 (w13.alloc (.cells #[.slice fx0 fx1 fx2, .slice fy0 fy1 fy2, .bool false] 31)) w10.heap.size [.slice ex0 ex1 ex2, .slice ey0 ey1 ey2, .bool false]) := Hbe2.out.below hba Hbe2.out.lt
        have Hpu2 : Hid (Pn (w13.alloc (.cells #[.slice fx0 fx1 fx2, .slice fy0 fy1 fy2, .bool false] 31)) (.slice u0 u1 u2) (.slice ay0 ay1 ay2) (ne eP P)) := Hpu1.out.below hba (Nat.le_refl _)
        have Hpf1 : Hid (Pn (w13.alloc (.cells #[.slice fx0 fx1 fx2, .slice fy0 fy1 fy2, .bool false] 31)) (.slice fx0 fx1 fx2) (.slice fy0 fy1 fy2) (me eP eD KK (ne eP P))) := Hpf0.out.below hba (Nat.le_refl _)
        clear hba
        have Hbf0 : Hid (Bl 31 (w13.alloc (.cells #[.slice fx0 fx1 fx2, .slice fy0 fy1 fy2, .bool false] 31)) w13.heap.size [.slice fx0 fx1 fx2, .slice fy0 fy1 fy2, .bool false]) := alloc_bl w13 [.slice fx0 fx1 fx2, .slice fy0 fy1 fy2, .bool false] 31
        have ke_0 : (w13.alloc (.cells #[.slice fx0 fx1 fx2, .slice fy0 fy1 fy2, .bool false] 31)).cell? ⟨w10.heap.size, 0, none⟩ = some (.slice ex0 ex1 ex2) := Hbe3.out.cell 0 (by simp)
        have ke_1 : (w13.alloc (.cells #[.slice fx0 fx1 fx2, .slice fy0 fy1 fy2, .bool false] 31)).cell? ⟨w10.heap.size, 1, none⟩ = some (.slice ey0 ey1 ey2) := Hbe3.out.cell 1 (by simp)
        have ke_2 : (w13.alloc (.cells #[.slice fx0 fx1 fx2, .slice fy0 fy1 fy2, .bool false] 31)).cell? ⟨w10.heap.size, 2, none⟩ = some (.bool false) := Hbe3.out.cell 2 (by simp)
        have kf_0 : (w13.alloc (.cells #[.slice fx0 fx1 fx2, .slice fy0 fy1 fy2, .bool false] 31)).cell? ⟨w13.heap.size, 0, none⟩ = some (.slice fx0 fx1 fx2) := Hbf0.out.cell 0 (by simp)
        have kf_1 : (w13.alloc (.cells #[.slice fx0 fx1 fx2, .slice fy0 fy1 fy2, .bool false] 31)).cell? ⟨w13.heap.size, 1, none⟩ = some (.slice fy0 fy1 fy2) := Hbf0.out.cell 1 (by simp)
        have kf_2 : (w13.alloc (.cells #[.slice fx0 fx1 fx2, .slice fy0 fy1 fy2, .bool false] 31)).cell? ⟨w13.heap.size, 2, none⟩ = some (.bool false) := Hbf0.out.cell 2 (by simp)
        go_wp2_with fail
        clear ke_0 ke_1 ke_2 kf_0 kf_1 kf_2
        generalize (w13.alloc (.cells #[.slice fx0 fx1 fx2, .slice fy0 fy1 fy2, .bool false] 31)) = wv14 at *
        refine (add_p (HT.out.1.below HB15.out (Nat.le_refl _)) Hpe4.out Hpf1.out (ew.mon onB S) (ew.mon (ew.non HO.out.1) KK)).mono ?_
        rintro e w15 ⟨v, rfl, hm, hB⟩
        have HB16 : Hid (Below w.heap.size w w15) := HB15.out.trans (hB.mono HB15.out.size)
        have Hrp16 : Hid (Rd w15 ap pub) := Hrp15.out.below hB (Nat.le_refl _)
        have Hrm16 : Hid (Rd w15 am msg) := Hrm15.out.below hB (Nat.le_refl _)
        have Hrg16 : Hid (Rd w15 (some ⟨g, off, none⟩) sig) := Hrg15.out.below hB (Nat.le_refl _)
        have Hpa13 : Hid (Pn w15 (.slice ax0 ax1 ax2) (.slice ay0 ay1 ay2) P) := Hpa12.out.below hB (Nat.le_refl _)
        have Hba12 : Hid (Bl 31 w15 w3.heap.size [.slice ax0 ax1 ax2, .slice ay0 ay1 ay2, .bool false]) := Hba11.out.below hB Hba11.out.lt
        have Hrt12 : Hid (Rd w15 (some ⟨g, off, none⟩) (sig.take 32)) := Hrt11.out.below hB (Nat.le_refl _)
        have Hrd12 : Hid (Rd w15 (some ⟨g, off + 32, none⟩) (sig.drop 32)) := Hrd11.out.below hB (Nat.le_refl _)
        have Hnsv11 : Hid (Nk w15 sv S 256) := Hnsv10.out.below hB (Nat.le_refl _)
        have Hno10 : Hid (Nk w15 ov eL 256) := Hno9.out.below hB (Nat.le_refl _)
        have Hnk8 : Hid (Nk w15 kv KK 256) := Hnk7.out.below hB (Nat.le_refl _)
        have Hntv7 : Hid (Nk w15 tv S 256) := Hntv6.out.below hB (Nat.le_refl _)
        have Hpq6 : Hid (Pn w15 (.slice qx0 qx1 qx2) (.slice qy0 qy1 qy2) eB) := Hpq5.out.below hB (Nat.le_refl _)
        have Hpe5 : Hid (Pn w15 (.slice ex0 ex1 ex2) (.slice ey0 ey1 ey2) (me eP eD S eB)) := Hpe4.out.below hB (Nat.le_refl _)
        have Hbe4 : Hid (Bl 31 w15 w10.heap.size [.slice ex0 ex1 ex2, .slice ey0 ey1 ey2, .bool false]) := Hbe3.out.below hB Hbe3.out.lt
        have Hpu3 : Hid (Pn w15 (.slice u0 u1 u2) (.slice ay0 ay1 ay2) (ne eP P)) := Hpu2.out.below hB (Nat.le_refl _)
        have Hpf2 : Hid (Pn w15 (.slice fx0 fx1 fx2) (.slice fy0 fy1 fy2) (me eP eD KK (ne eP P))) := Hpf1.out.below hB (Nat.le_refl _)
        have Hbf1 : Hid (Bl 31 w15 w13.heap.size [.slice fx0 fx1 fx2, .slice fy0 fy1 fy2, .bool false]) := Hbf0.out.below hB Hbf0.out.lt
        have hrv : se eP eD (me eP eD S eB) (me eP eD KK (ne eP P)) = rV P pub msg sig := by rw [HS.out, HK.out]; rfl
        rw [hrv] at hm
        obtain ⟨rx, ry, rfl, hpn⟩ := hm.pn
        obtain ⟨⟨rx0, rx1, rx2, rfl⟩, ⟨ry0, ry1, ry2, rfl⟩⟩ := hpn.sl
        have Hpr0 : Hid (Pn w15 (.slice rx0 rx1 rx2) (.slice ry0 ry1 ry2) (rV P pub msg sig)) := hpn
        clear hpn
        clear hB hm hrv
        have HRo : Hid (onE eP eD (rV P pub msg sig)) := rV_on HO.out.1 pub msg sig
        have hba := alloc_below w15 (.cells #[.slice rx0 rx1 rx2, .slice ry0 ry1 ry2, .bool false] 31)
        have HB17 : Hid (Below w.heap.size w (w15.alloc (.cells #[.slice rx0 rx1 rx2, .slice ry0 ry1 ry2, .bool false] 31))) := HB16.out.trans (hba.mono HB16.out.size)
        have Hrp17 : Hid (Rd (w15.alloc (.cells #[.slice rx0 rx1 rx2, .slice ry0 ry1 ry2, .bool false] 31)) ap pub) := Hrp16.out.below hba (Nat.le_refl _)
        have Hrm17 : Hid (Rd (w15.alloc (.cells #[.slice rx0 rx1 rx2, .slice ry0 ry1 ry2, .bool false] 31)) am msg) := Hrm16.out.below hba (Nat.le_refl _)
        have Hrg17 : Hid (Rd (w15.alloc (.cells #[.slice rx0 rx1 rx2, .slice ry0 ry1 ry2, .bool false] 31)) (some ⟨g, off, none⟩) sig) := Hrg16.out.below hba (Nat.le_refl _)
        have Hpa14 : Hid (Pn (w15.alloc (.cells #[.slice rx0 rx1 rx2, .slice ry0 ry1 ry2, .bool false] 31)) (.slice ax0 ax1 ax2) (.slice ay0 ay1 ay2) P) := Hpa13.out.below hba (Nat.le_refl _)
        have Hba13 : Hid (Bl 31 (w15.alloc (.cells #[.slice rx0 rx1 rx2, .slice ry0 ry1 ry2, .bool false] 31)) w3.heap.size [.slice ax0 ax1 ax2, .slice ay0 ay1 ay2, .bool false]) := Hba12.out.below hba Hba12.out.lt
        have Hrt13 : Hid (Rd (w15.alloc (.cells #[.slice rx0 rx1 rx2, .slice ry0 ry1 ry2, .bool false] 31)) (some ⟨g, off, none⟩) (sig.take 32)) := Hrt12.out.below hba (Nat.le_refl _)
        have Hrd13 : Hid (Rd (w15.alloc (.cells #[.slice rx0 rx1 rx2, .slice ry0 ry1 ry2, .bool false] 31)) (some ⟨g, off + 32, none⟩) (sig.drop 32)) := Hrd12.out.below hba (Nat.le_refl _)
        have Hnsv12 : Hid (Nk (w15.alloc (.cells #[.slice rx0 rx1 rx2, .slice ry0 ry1 ry2, .bool false] 31)) sv S 256) := Hnsv11.out.below hba (Nat.le_refl _)
        have Hno11 : Hid (Nk (w15.alloc (.cells #[.slice rx0 rx1 rx2, .slice ry0 ry1 ry2, .bool false] 31)) ov eL 256) := Hno10.out.below hba (Nat.le_refl _)
        have Hnk9 : Hid (Nk (w15.alloc (.cells #[.slice rx0 rx1 rx2, .slice ry0 ry1 ry2, .bool false] 31)) kv KK 256) := Hnk8.out.below hba (Nat.le_refl _)
        have Hntv8 : Hid (Nk (w15.alloc (.cells #[.slice rx0 rx1 rx2, .slice ry0 ry1 ry2, .bool false] 31)) tv S 256) := Hntv7.out.below hba (Nat.le_refl _)
        have Hpq7 : Hid (Pn (w15.alloc (.cells #[.slice rx0 rx1 rx2, .slice ry0 ry1 ry2, .bool false] 31)) (.slice qx0 qx1 qx2) (.slice qy0 qy1 qy2) eB) := Hpq6.out.below hba (Nat.le_refl _)
        have Hpe6 : Hid (Pn (w15.alloc (.cells #[.slice rx0 rx1 rx2, .slice ry0 ry1 ry2, .bool false] 31)) (.slice ex0 ex1 ex2) (.slice ey0 ey1 ey2) (me eP eD S eB)) := Hpe5.out.below hba (Nat.le_refl _)
        have Hbe5 : Hid (Bl 31 (w15.alloc (.cells #[.slice rx0 rx1 rx2, .slice ry0 ry1 ry2, .bool false] 31)) w10.heap.size [.slice ex0 ex1 ex2, .slice ey0 ey1 ey2, .bool false]) := Hbe4.out.below hba Hbe4.out.lt
        have Hpu4 : Hid (Pn (w15.alloc (.cells #[.slice rx0 rx1 rx2, .slice ry0 ry1 ry2, .bool false] 31)) (.slice u0 u1 u2) (.slice ay0 ay1 ay2) (ne eP P)) := Hpu3.out.below hba (Nat.le_refl _)
        have Hpf3 : Hid (Pn (w15.alloc (.cells #[.slice rx0 rx1 rx2, .slice ry0 ry1 ry2, .bool false] 31)) (.slice fx0 fx1 fx2) (.slice fy0 fy1 fy2) (me eP eD KK (ne eP P))) := Hpf2.out.below hba (Nat.le_refl _)
        have Hbf2 : Hid (Bl 31 (w15.alloc (.cells #[.slice rx0 rx1 rx2, .slice ry0 ry1 ry2, .bool false] 31)) w13.heap.size [.slice fx0 fx1 fx2, .slice fy0 fy1 fy2, .bool false]) := Hbf1.out.below hba Hbf1.out.lt
        have Hpr1 : Hid (Pn (w15.alloc (.cells #[.slice rx0 rx1 rx2, .slice ry0 ry1 ry2, .bool false] 31)) (.slice rx0 rx1 rx2) (.slice ry0 ry1 ry2) (rV P pub msg sig)) := Hpr0.out.below hba (Nat.le_refl _)
        clear hba
        have Hbr0 : Hid (Bl 31 (w15.alloc (.cells #[.slice rx0 rx1 rx2, .slice ry0 ry1 ry2, .bool false] 31)) w15.heap.size [.slice rx0 rx1 rx2, .slice ry0 ry1 ry2, .bool false]) := alloc_bl w15 [.slice rx0 rx1 rx2, .slice ry0 ry1 ry2, .bool false] 31
        have kr_0 : (w15.alloc (.cells #[.slice rx0 rx1 rx2, .slice ry0 ry1 ry2, .bool false] 31)).cell? ⟨w15.heap.size, 0, none⟩ = some (.slice rx0 rx1 rx2) := Hbr0.out.cell 0 (by simp)
        have kr_1 : (w15.alloc (.cells #[.slice rx0 rx1 rx2, .slice ry0 ry1 ry2, .bool false] 31)).cell? ⟨w15.heap.size, 1, none⟩ = some (.slice ry0 ry1 ry2) := Hbr0.out.cell 1 (by simp)
        have kr_2 : (w15.alloc (.cells #[.slice rx0 rx1 rx2, .slice ry0 ry1 ry2, .bool false] 31)).cell? ⟨w15.heap.size, 2, none⟩ = some (.bool false) := Hbr0.out.cell 2 (by simp)
        go_wp2_with fail
        clear kr_0 kr_1 kr_2
        generalize (w15.alloc (.cells #[.slice rx0 rx1 rx2, .slice ry0 ry1 ry2, .bool false] 31)) = wv16 at *
        refine (encode_p (HT.out.1.below HB17.out (Nat.le_refl _)) Hpr1.out HRo.out).mono ?_
        rintro e w17 ⟨⟨v, rfl, hO⟩, hB⟩
        have HB18 : Hid (Below w.heap.size w w17) := HB17.out.trans (hB.mono HB17.out.size)
        have Hrp18 : Hid (Rd w17 ap pub) := Hrp17.out.below hB (Nat.le_refl _)
        have Hrm18 : Hid (Rd w17 am msg) := Hrm17.out.below hB (Nat.le_refl _)
        have Hrg18 : Hid (Rd w17 (some ⟨g, off, none⟩) sig) := Hrg17.out.below hB (Nat.le_refl _)
        have Hpa15 : Hid (Pn w17 (.slice ax0 ax1 ax2) (.slice ay0 ay1 ay2) P) := Hpa14.out.below hB (Nat.le_refl _)
        have Hba14 : Hid (Bl 31 w17 w3.heap.size [.slice ax0 ax1 ax2, .slice ay0 ay1 ay2, .bool false]) := Hba13.out.below hB Hba13.out.lt
        have Hrt14 : Hid (Rd w17 (some ⟨g, off, none⟩) (sig.take 32)) := Hrt13.out.below hB (Nat.le_refl _)
        have Hrd14 : Hid (Rd w17 (some ⟨g, off + 32, none⟩) (sig.drop 32)) := Hrd13.out.below hB (Nat.le_refl _)
        have Hnsv13 : Hid (Nk w17 sv S 256) := Hnsv12.out.below hB (Nat.le_refl _)
        have Hno12 : Hid (Nk w17 ov eL 256) := Hno11.out.below hB (Nat.le_refl _)
        have Hnk10 : Hid (Nk w17 kv KK 256) := Hnk9.out.below hB (Nat.le_refl _)
        have Hntv9 : Hid (Nk w17 tv S 256) := Hntv8.out.below hB (Nat.le_refl _)
        have Hpq8 : Hid (Pn w17 (.slice qx0 qx1 qx2) (.slice qy0 qy1 qy2) eB) := Hpq7.out.below hB (Nat.le_refl _)
        have Hpe7 : Hid (Pn w17 (.slice ex0 ex1 ex2) (.slice ey0 ey1 ey2) (me eP eD S eB)) := Hpe6.out.below hB (Nat.le_refl _)
        have Hbe6 : Hid (Bl 31 w17 w10.heap.size [.slice ex0 ex1 ex2, .slice ey0 ey1 ey2, .bool false]) := Hbe5.out.below hB Hbe5.out.lt
        have Hpu5 : Hid (Pn w17 (.slice u0 u1 u2) (.slice ay0 ay1 ay2) (ne eP P)) := Hpu4.out.below hB (Nat.le_refl _)
        have Hpf4 : Hid (Pn w17 (.slice fx0 fx1 fx2) (.slice fy0 fy1 fy2) (me eP eD KK (ne eP P))) := Hpf3.out.below hB (Nat.le_refl _)
        have Hbf3 : Hid (Bl 31 w17 w13.heap.size [.slice fx0 fx1 fx2, .slice fy0 fy1 fy2, .bool false]) := Hbf2.out.below hB Hbf2.out.lt
        have Hpr2 : Hid (Pn w17 (.slice rx0 rx1 rx2) (.slice ry0 ry1 ry2) (rV P pub msg sig)) := Hpr1.out.below hB (Nat.le_refl _)
        have Hbr1 : Hid (Bl 31 w17 w15.heap.size [.slice rx0 rx1 rx2, .slice ry0 ry1 ry2, .bool false]) := Hbr0.out.below hB Hbr0.out.lt
        obtain ⟨ea, ec, rfl, hce, _, hre⟩ := owb_open hO
        rw [encL_len] at hce ⊢
        have Hre0 : Hid (Rd w17 ea (encL (rV P pub msg sig))) := hre
        clear hB hO hre hce
        have kr_0 : w17.cell? ⟨w15.heap.size, 0, none⟩ = some (.slice rx0 rx1 rx2) := Hbr1.out.cell 0 (by simp)
        have kr_1 : w17.cell? ⟨w15.heap.size, 1, none⟩ = some (.slice ry0 ry1 ry2) := Hbr1.out.cell 1 (by simp)
        have kr_2 : w17.cell? ⟨w15.heap.size, 2, none⟩ = some (.bool false) := Hbr1.out.cell 2 (by simp)
        go_wp2_with fail
        clear kr_0 kr_1 kr_2
        refine (lon_p Hpr2.out HRo.out).mono ?_
        rintro e w18 ⟨rfl, hB⟩
        have HB19 : Hid (Below w.heap.size w w18) := HB18.out.trans (hB.mono HB18.out.size)
        have Hrp19 : Hid (Rd w18 ap pub) := Hrp18.out.below hB (Nat.le_refl _)
        have Hrm19 : Hid (Rd w18 am msg) := Hrm18.out.below hB (Nat.le_refl _)
        have Hrg19 : Hid (Rd w18 (some ⟨g, off, none⟩) sig) := Hrg18.out.below hB (Nat.le_refl _)
        have Hpa16 : Hid (Pn w18 (.slice ax0 ax1 ax2) (.slice ay0 ay1 ay2) P) := Hpa15.out.below hB (Nat.le_refl _)
        have Hba15 : Hid (Bl 31 w18 w3.heap.size [.slice ax0 ax1 ax2, .slice ay0 ay1 ay2, .bool false]) := Hba14.out.below hB Hba14.out.lt
        have Hrt15 : Hid (Rd w18 (some ⟨g, off, none⟩) (sig.take 32)) := Hrt14.out.below hB (Nat.le_refl _)
        have Hrd15 : Hid (Rd w18 (some ⟨g, off + 32, none⟩) (sig.drop 32)) := Hrd14.out.below hB (Nat.le_refl _)
        have Hnsv14 : Hid (Nk w18 sv S 256) := Hnsv13.out.below hB (Nat.le_refl _)
        have Hno13 : Hid (Nk w18 ov eL 256) := Hno12.out.below hB (Nat.le_refl _)
        have Hnk11 : Hid (Nk w18 kv KK 256) := Hnk10.out.below hB (Nat.le_refl _)
        have Hntv10 : Hid (Nk w18 tv S 256) := Hntv9.out.below hB (Nat.le_refl _)
        have Hpq9 : Hid (Pn w18 (.slice qx0 qx1 qx2) (.slice qy0 qy1 qy2) eB) := Hpq8.out.below hB (Nat.le_refl _)
        have Hpe8 : Hid (Pn w18 (.slice ex0 ex1 ex2) (.slice ey0 ey1 ey2) (me eP eD S eB)) := Hpe7.out.below hB (Nat.le_refl _)
        have Hbe7 : Hid (Bl 31 w18 w10.heap.size [.slice ex0 ex1 ex2, .slice ey0 ey1 ey2, .bool false]) := Hbe6.out.below hB Hbe6.out.lt
        have Hpu6 : Hid (Pn w18 (.slice u0 u1 u2) (.slice ay0 ay1 ay2) (ne eP P)) := Hpu5.out.below hB (Nat.le_refl _)
        have Hpf5 : Hid (Pn w18 (.slice fx0 fx1 fx2) (.slice fy0 fy1 fy2) (me eP eD KK (ne eP P))) := Hpf4.out.below hB (Nat.le_refl _)
        have Hbf4 : Hid (Bl 31 w18 w13.heap.size [.slice fx0 fx1 fx2, .slice fy0 fy1 fy2, .bool false]) := Hbf3.out.below hB Hbf3.out.lt
        have Hpr3 : Hid (Pn w18 (.slice rx0 rx1 rx2) (.slice ry0 ry1 ry2) (rV P pub msg sig)) := Hpr2.out.below hB (Nat.le_refl _)
        have Hbr2 : Hid (Bl 31 w18 w15.heap.size [.slice rx0 rx1 rx2, .slice ry0 ry1 ry2, .bool false]) := Hbr1.out.below hB Hbr1.out.lt
        have Hre1 : Hid (Rd w18 ea (encL (rV P pub msg sig))) := Hre0.out.below hB (Nat.le_refl _)
        clear hB
        have C := sameBytes_any ea (some ⟨g, off, none⟩) ec cg (encL (rV P pub msg sig)) (sig.take 32) _ Hre1.out Hrt15.out (by rw [encL_len]; decide) (by rw [Hl1.out.1]; decide)
        rw [encL_len, Hl1.out.1] at C
        by_cases hH : encL (rV P pub msg sig) = sig.take 32
        · rw [decide_eq_true hH] at C
          have hz0 : z1 = 0 := by
            rcases HVh.out with ⟨h, _⟩ | ⟨_, h⟩
            · rw [HO.out.2.2]; exact h
            · exact absurd ⟨Hl1.out.2.2, HS.out ▸ HSL.out, hH⟩ h
          subst hz0
          clear HO HVh hH
          go_wp2_with fail
          refine C.mono ?_
          clear C
          rintro e wz ⟨rfl, q, rfl⟩
          go_wp2
          go_ret
          exact ⟨rfl, below_drewN HB19.out q⟩
        · rw [decide_eq_false hH] at C
          have hz0 : z1 = 91 := by
            rcases HVh.out with ⟨_, h⟩ | ⟨h, _⟩
            · exact absurd h.2.2 hH
            · rw [HO.out.2.2]; exact h
          subst hz0
          clear HO HVh hH
          go_wp2_with fail
          refine C.mono ?_
          clear C
          rintro e wz ⟨rfl, q, rfl⟩
          go_wp2
          go_ret
          exact ⟨rfl, below_drewN HB19.out q⟩
      · have hz91 : z1 = 91 := by
          rcases HVh.out with ⟨_, h⟩ | ⟨h, _⟩
          · exact absurd (HS.out ▸ h.2.1 : S < eL) hS
          · rw [HO.out.2.2]; exact h
        have hge : cmp3 ((S : Nat) : Int) ((eL : Nat) : Int) = 0 ∨ cmp3 ((S : Nat) : Int) ((eL : Nat) : Int) = 1 := by
          rcases Nat.lt_or_eq_of_le (Nat.le_of_not_lt hS) with h2 | h2
          · exact Or.inr (cmp3_gt (Int.ofNat_lt.2 h2))
          · exact Or.inl (cmp3_eq (congrArg Int.ofNat h2.symm))
        clear HO HVh hS
        subst hz91
        rcases hge with h | h
        · rw [h]
          clear h
          go_wp2
          go_ret
          exact ⟨rfl, HB7.out⟩
        · rw [h]
          clear h
          go_wp2
          go_ret
          exact ⟨rfl, HB7.out⟩
    · have hz91 : z1 = 91 := by
        rcases HVh.out with ⟨_, h⟩ | ⟨h, _⟩
        · exact absurd h.1 hl
        · rw [HO.out.2.2]; exact h
      have hq : ((sig.length : Nat) : Int) ≠ 64 := by omega
      have hq2 : (((sig.length : Nat) : Int) != 64) = true := by simpa using hq
      clear HO HVh hl
      subst hz91
      go_wp2
      go_ret
      exact ⟨rfl, HB4.out⟩
  · have hz90 : z1 = 90 := by
      rcases Hz1.out with ⟨h, _⟩ | ⟨P, p1, p2, _⟩
      · exact h
      · exact absurd p2 (hno P p1)
    subst hz90
    clear Hz1 hno
    have hba := alloc_below w3 (.cells #[.slice none 0 0, .slice none 0 0, .bool false] 31)
    have HB4 : Hid (Below w.heap.size w (w3.alloc (.cells #[.slice none 0 0, .slice none 0 0, .bool false] 31))) := HB3.out.trans (hba.mono HB3.out.size)
    have Hrp4 : Hid (Rd (w3.alloc (.cells #[.slice none 0 0, .slice none 0 0, .bool false] 31)) ap pub) := Hrp3.out.below hba (Nat.le_refl _)
    have Hrm4 : Hid (Rd (w3.alloc (.cells #[.slice none 0 0, .slice none 0 0, .bool false] 31)) am msg) := Hrm3.out.below hba (Nat.le_refl _)
    have Hrg4 : Hid (Rd (w3.alloc (.cells #[.slice none 0 0, .slice none 0 0, .bool false] 31)) ag sig) := Hrg3.out.below hba (Nat.le_refl _)
    clear hba
    have Hba0 : Hid (Bl 31 (w3.alloc (.cells #[.slice none 0 0, .slice none 0 0, .bool false] 31)) w3.heap.size [.slice none 0 0, .slice none 0 0, .bool false]) := alloc_bl w3 [.slice none 0 0, .slice none 0 0, .bool false] 31
    go_wp2
    go_ret
    exact ⟨rfl, HB4.out⟩
end Go.Proofs.YtjpjepfmphlneaaGreatDoor
