import Derived.Test.YtnccalbeidkeiaaFacts
import Derived.Test.YtnccalbeidkeiaaAwake
namespace Go.Proofs.Ytnccalbeidkeiaa
open Go.RowKit

set_option maxHeartbeats 8000000 in
theorem one_any (s t : List UInt8) (w : World) (hs : s.length ≤ 140737488355328) (ht : t.length ≤ 140737488355328) :
    Calls Try.prog 7 #[.string ⟨s.toArray⟩, .string ⟨t.toArray⟩] w fun e w' => e = .returned (.bool true) ∧ Below w.heap.size w w' := by
  go_enter Try.func7, Try.ntmps7
  go_wp2_with fail
  refine (awake_any w).mono ?_
  rintro e w1 ⟨rfl, hb1⟩
  go_wp2_with fail
  refine (decode_any s w1 hs).mono ?_
  rcases decU_cases s with ⟨a, hda, hea⟩ | ⟨e, p, hda, hne, hp0, hp1⟩
  · rw [hda]
    rintro e w2 ⟨v, rfl, hv, hb2⟩
    have Hea : Hid (enc urlRow a = s) := hea
    have hal : a.length ≤ 140737488355328 := by have := enc_length urlRow a; rw [hea] at this; omega
    clear hda hea
    obtain ⟨g, cap, rfl, hg, hcap, hrd⟩ := hv.rd
    have hR2 : Hid (Rd w2 (some ⟨g, 0, none⟩) a) := hrd
    clear hv hrd
    go_wp2_with fail
    refine (encode_any (some ⟨g, 0, none⟩) cap a w2 hR2.out hcap hal).mono ?_
    rw [Hea.out]
    rintro e w3 ⟨rfl, hb3⟩
    have hR3 : Hid (Rd w3 (some ⟨g, 0, none⟩) a) := hR2.out.below hb3 (Nat.le_refl _)
    have hB3 : Below w.heap.size w w3 := hb1.trans ((hb2.mono hb1.size).trans (hb3.mono (Nat.le_trans hb1.size hb2.size)))
    clear hb1 hb2 hb3 hR2
    go_wp2_with fail
    refine (decode_any t w3 ht).mono ?_
    rcases decU_cases t with ⟨b, hdb, heb⟩ | ⟨e1, p, hdb, hne, hp0, hp1⟩
    · rw [hdb]
      rintro e w4 ⟨v, rfl, hv, hb4⟩
      obtain ⟨g2, cap2, rfl, hg2, hcap2, hrd2⟩ := hv.rd
      have hR4 : Hid (Rd w4 (some ⟨g2, 0, none⟩) b) := hrd2
      have hR4' : Hid (Rd w4 (some ⟨g, 0, none⟩) a) := hR3.out.below hb4 (Nat.le_refl _)
      have hB4 : Below w.heap.size w w4 := hB3.trans (hb4.mono hB3.size)
      have Heb : Hid (enc urlRow b = t) := heb
      clear hv hrd2 hb4 hB3 hR3 hdb heb
      go_wp2_with fail
      refine (same_any (some ⟨g, 0, none⟩) (some ⟨g2, 0, none⟩) cap cap2 a b w4 hR4'.out hR4.out (by omega)).mono ?_
      rintro e wz ⟨rfl, q, hq⟩
      have hB : Below w.heap.size w wz := by rw [hq]; exact below_drewN hB4 q
      by_cases hab : a = b
      · have hst : (s == t) = true := by
          have h1 := Hea.out; have h2 := Heb.out; rw [hab] at h1
          have h3 := h1.symm.trans h2
          simpa using h3
        rw [decide_eq_true hab]
        clear hab hq hB4 hR4 hR4' Heb Hea hg hg2 hcap hcap2 hal
        go_wp2_with fail
        clear hst
        refine (decodeStd_any s wz hs).mono ?_
        rcases decS_cases s with ⟨c, hdc, hec⟩ | ⟨e2, p2, hdc, hne2⟩
        · rw [hdc]
          rintro e w2 ⟨v, rfl, hv, hb2⟩
          have Hec : Hid (enc stdRow c ++ fill c.length = s) := hec
          have hcl : c.length ≤ 140737488355328 := by have := enc_length stdRow c; rw [← hec] at hs; simp at hs; omega
          clear hdc hec
          obtain ⟨g, cap, rfl, hg, hcap, hrd⟩ := hv.rd
          have hR2 : Hid (Rd w2 (some ⟨g, 0, none⟩) c) := hrd
          clear hv hrd
          go_wp2_with fail
          refine (encodeStd_any (some ⟨g, 0, none⟩) cap c w2 hR2.out hcap hcl).mono ?_
          rw [Hec.out]
          rintro e w3 ⟨rfl, hb3⟩
          have hR3 : Hid (Rd w3 (some ⟨g, 0, none⟩) c) := hR2.out.below hb3 (Nat.le_refl _)
          have hB3 : Below w.heap.size w w3 := hB.trans ((hb2.mono hB.size).trans (hb3.mono (Nat.le_trans hB.size hb2.size)))
          clear hB hb2 hb3 hR2
          go_wp2_with fail
          refine (decodeStd_any t w3 ht).mono ?_
          rcases decS_cases t with ⟨d, hdd, hed⟩ | ⟨e2, p2, hdd, hne2⟩
          · rw [hdd]
            rintro e w4 ⟨v, rfl, hv, hb4⟩
            obtain ⟨g2, cap2, rfl, hg2, hcap2, hrd2⟩ := hv.rd
            have hR4 : Hid (Rd w4 (some ⟨g2, 0, none⟩) d) := hrd2
            have hR4' : Hid (Rd w4 (some ⟨g, 0, none⟩) c) := hR3.out.below hb4 (Nat.le_refl _)
            have hB4 : Below w.heap.size w w4 := hB3.trans (hb4.mono hB3.size)
            have Hed : Hid (enc stdRow d ++ fill d.length = t) := hed
            clear hv hrd2 hb4 hB3 hR3 hdd hed
            go_wp2_with fail
            refine (same_any (some ⟨g, 0, none⟩) (some ⟨g2, 0, none⟩) cap cap2 c d w4 hR4'.out hR4.out (by omega)).mono ?_
            rintro e wy ⟨rfl, q, hq⟩
            have hB : Below w.heap.size w wy := by rw [hq]; exact below_drewN hB4 q
            by_cases hab : c = d
            · have hst : (s == t) = true := by
                have h1 := Hec.out; have h2 := Hed.out; rw [hab] at h1
                have h3 := h1.symm.trans h2
                simpa using h3
              rw [decide_eq_true hab]
              clear hab hq hB4 hR4 hR4' Hec Hed
              go_wp2
              go_ret
              exact ⟨rfl, hB⟩
            · rw [decide_eq_false hab]
              clear hab hq hB4 hR4 hR4' Hec Hed
              go_wp2
              go_ret
              exact ⟨rfl, hB⟩
          · rw [hdd]
            rintro e w4 ⟨v, rfl, hv, hb4⟩
            have hv' : v = .slice none 0 0 := hv
            subst hv'
            have hB : Below w.heap.size w w4 := hB3.trans (hb4.mono hB3.size)
            have he0 : (e2 == 0) = false := by simpa using hne2
            clear hb4 hB3 hdd hne2 hv
            go_wp2
            go_ret
            exact ⟨rfl, hB⟩
        · rw [hdc]
          rintro e w2 ⟨v, rfl, hv, hb2⟩
          have hv' : v = .slice none 0 0 := hv
          subst hv'
          have he0 : (e2 == 0) = false := by simpa using hne2
          have hB3 : Below w.heap.size w w2 := hB.trans (hb2.mono hB.size)
          clear hB hb2 hdc hne2 hv
          go_wp2_with fail
          refine (decodeStd_any t w2 ht).mono ?_
          rintro e w4 ⟨v, rfl, hv, hb4⟩
          have hB : Below w.heap.size w w4 := hB3.trans (hb4.mono hB3.size)
          clear hv hb4
          go_wp2
          go_ret
          exact ⟨rfl, hB⟩
      · rw [decide_eq_false hab]
        clear hab hq hB4 hR4 hR4' Heb Hea hg hg2 hcap hcap2 hal
        go_wp2_with fail
        refine (decodeStd_any s wz hs).mono ?_
        rcases decS_cases s with ⟨c, hdc, hec⟩ | ⟨e2, p2, hdc, hne2⟩
        · rw [hdc]
          rintro e w2 ⟨v, rfl, hv, hb2⟩
          have Hec : Hid (enc stdRow c ++ fill c.length = s) := hec
          have hcl : c.length ≤ 140737488355328 := by have := enc_length stdRow c; rw [← hec] at hs; simp at hs; omega
          clear hdc hec
          obtain ⟨g, cap, rfl, hg, hcap, hrd⟩ := hv.rd
          have hR2 : Hid (Rd w2 (some ⟨g, 0, none⟩) c) := hrd
          clear hv hrd
          go_wp2_with fail
          refine (encodeStd_any (some ⟨g, 0, none⟩) cap c w2 hR2.out hcap hcl).mono ?_
          rw [Hec.out]
          rintro e w3 ⟨rfl, hb3⟩
          have hR3 : Hid (Rd w3 (some ⟨g, 0, none⟩) c) := hR2.out.below hb3 (Nat.le_refl _)
          have hB3 : Below w.heap.size w w3 := hB.trans ((hb2.mono hB.size).trans (hb3.mono (Nat.le_trans hB.size hb2.size)))
          clear hB hb2 hb3 hR2
          go_wp2_with fail
          refine (decodeStd_any t w3 ht).mono ?_
          rcases decS_cases t with ⟨d, hdd, hed⟩ | ⟨e2, p2, hdd, hne2⟩
          · rw [hdd]
            rintro e w4 ⟨v, rfl, hv, hb4⟩
            obtain ⟨g2, cap2, rfl, hg2, hcap2, hrd2⟩ := hv.rd
            have hR4 : Hid (Rd w4 (some ⟨g2, 0, none⟩) d) := hrd2
            have hR4' : Hid (Rd w4 (some ⟨g, 0, none⟩) c) := hR3.out.below hb4 (Nat.le_refl _)
            have hB4 : Below w.heap.size w w4 := hB3.trans (hb4.mono hB3.size)
            have Hed : Hid (enc stdRow d ++ fill d.length = t) := hed
            clear hv hrd2 hb4 hB3 hR3 hdd hed
            go_wp2_with fail
            refine (same_any (some ⟨g, 0, none⟩) (some ⟨g2, 0, none⟩) cap cap2 c d w4 hR4'.out hR4.out (by omega)).mono ?_
            rintro e wy ⟨rfl, q, hq⟩
            have hB : Below w.heap.size w wy := by rw [hq]; exact below_drewN hB4 q
            by_cases hab : c = d
            · have hst : (s == t) = true := by
                have h1 := Hec.out; have h2 := Hed.out; rw [hab] at h1
                have h3 := h1.symm.trans h2
                simpa using h3
              rw [decide_eq_true hab]
              clear hab hq hB4 hR4 hR4' Hec Hed
              go_wp2
              go_ret
              exact ⟨rfl, hB⟩
            · rw [decide_eq_false hab]
              clear hab hq hB4 hR4 hR4' Hec Hed
              go_wp2
              go_ret
              exact ⟨rfl, hB⟩
          · rw [hdd]
            rintro e w4 ⟨v, rfl, hv, hb4⟩
            have hv' : v = .slice none 0 0 := hv
            subst hv'
            have hB : Below w.heap.size w w4 := hB3.trans (hb4.mono hB3.size)
            have he0 : (e2 == 0) = false := by simpa using hne2
            clear hb4 hB3 hdd hne2 hv
            go_wp2
            go_ret
            exact ⟨rfl, hB⟩
        · rw [hdc]
          rintro e w2 ⟨v, rfl, hv, hb2⟩
          have hv' : v = .slice none 0 0 := hv
          subst hv'
          have he0 : (e2 == 0) = false := by simpa using hne2
          have hB3 : Below w.heap.size w w2 := hB.trans (hb2.mono hB.size)
          clear hB hb2 hdc hne2 hv
          go_wp2_with fail
          refine (decodeStd_any t w2 ht).mono ?_
          rintro e w4 ⟨v, rfl, hv, hb4⟩
          have hB : Below w.heap.size w w4 := hB3.trans (hb4.mono hB3.size)
          clear hv hb4
          go_wp2
          go_ret
          exact ⟨rfl, hB⟩
    · rw [hdb]
      rintro e wz ⟨v, rfl, hv, hb4⟩
      have hv' : v = .slice none 0 0 := hv
      subst hv'
      have hB : Below w.heap.size w wz := hB3.trans (hb4.mono hB3.size)
      have he1 : (e1 == 0) = false := by simpa using hne
      clear hb4 hB3 hdb hne hp0 hp1 hv hR3 Hea hg hcap hal
      go_wp2_with fail
      clear he1
      refine (decodeStd_any s wz hs).mono ?_
      rcases decS_cases s with ⟨c, hdc, hec⟩ | ⟨e2, p2, hdc, hne2⟩
      · rw [hdc]
        rintro e w2 ⟨v, rfl, hv, hb2⟩
        have Hec : Hid (enc stdRow c ++ fill c.length = s) := hec
        have hcl : c.length ≤ 140737488355328 := by have := enc_length stdRow c; rw [← hec] at hs; simp at hs; omega
        clear hdc hec
        obtain ⟨g, cap, rfl, hg, hcap, hrd⟩ := hv.rd
        have hR2 : Hid (Rd w2 (some ⟨g, 0, none⟩) c) := hrd
        clear hv hrd
        go_wp2_with fail
        refine (encodeStd_any (some ⟨g, 0, none⟩) cap c w2 hR2.out hcap hcl).mono ?_
        rw [Hec.out]
        rintro e w3 ⟨rfl, hb3⟩
        have hR3 : Hid (Rd w3 (some ⟨g, 0, none⟩) c) := hR2.out.below hb3 (Nat.le_refl _)
        have hB3 : Below w.heap.size w w3 := hB.trans ((hb2.mono hB.size).trans (hb3.mono (Nat.le_trans hB.size hb2.size)))
        clear hB hb2 hb3 hR2
        go_wp2_with fail
        refine (decodeStd_any t w3 ht).mono ?_
        rcases decS_cases t with ⟨d, hdd, hed⟩ | ⟨e2, p2, hdd, hne2⟩
        · rw [hdd]
          rintro e w4 ⟨v, rfl, hv, hb4⟩
          obtain ⟨g2, cap2, rfl, hg2, hcap2, hrd2⟩ := hv.rd
          have hR4 : Hid (Rd w4 (some ⟨g2, 0, none⟩) d) := hrd2
          have hR4' : Hid (Rd w4 (some ⟨g, 0, none⟩) c) := hR3.out.below hb4 (Nat.le_refl _)
          have hB4 : Below w.heap.size w w4 := hB3.trans (hb4.mono hB3.size)
          have Hed : Hid (enc stdRow d ++ fill d.length = t) := hed
          clear hv hrd2 hb4 hB3 hR3 hdd hed
          go_wp2_with fail
          refine (same_any (some ⟨g, 0, none⟩) (some ⟨g2, 0, none⟩) cap cap2 c d w4 hR4'.out hR4.out (by omega)).mono ?_
          rintro e wy ⟨rfl, q, hq⟩
          have hB : Below w.heap.size w wy := by rw [hq]; exact below_drewN hB4 q
          by_cases hab : c = d
          · have hst : (s == t) = true := by
              have h1 := Hec.out; have h2 := Hed.out; rw [hab] at h1
              have h3 := h1.symm.trans h2
              simpa using h3
            rw [decide_eq_true hab]
            clear hab hq hB4 hR4 hR4' Hec Hed
            go_wp2
            go_ret
            exact ⟨rfl, hB⟩
          · rw [decide_eq_false hab]
            clear hab hq hB4 hR4 hR4' Hec Hed
            go_wp2
            go_ret
            exact ⟨rfl, hB⟩
        · rw [hdd]
          rintro e w4 ⟨v, rfl, hv, hb4⟩
          have hv' : v = .slice none 0 0 := hv
          subst hv'
          have hB : Below w.heap.size w w4 := hB3.trans (hb4.mono hB3.size)
          have he0 : (e2 == 0) = false := by simpa using hne2
          clear hb4 hB3 hdd hne2 hv
          go_wp2
          go_ret
          exact ⟨rfl, hB⟩
      · rw [hdc]
        rintro e w2 ⟨v, rfl, hv, hb2⟩
        have hv' : v = .slice none 0 0 := hv
        subst hv'
        have he0 : (e2 == 0) = false := by simpa using hne2
        have hB3 : Below w.heap.size w w2 := hB.trans (hb2.mono hB.size)
        clear hB hb2 hdc hne2 hv
        go_wp2_with fail
        refine (decodeStd_any t w2 ht).mono ?_
        rintro e w4 ⟨v, rfl, hv, hb4⟩
        have hB : Below w.heap.size w w4 := hB3.trans (hb4.mono hB3.size)
        clear hv hb4
        go_wp2
        go_ret
        exact ⟨rfl, hB⟩
  · rw [hda]
    rintro e' w2 ⟨v, rfl, hv, hb2⟩
    have hv' : v = .slice none 0 0 := hv
    subst hv'
    have he1 : (e == 0) = false := by simpa using hne
    have he2 : (e != 0) = true := by simpa using hne
    have hp1' : ¬ (s.length : Int) < p := by omega
    have hp0' : ¬ p < 0 := by omega
    have hB3 : Below w.heap.size w w2 := hb1.trans (hb2.mono hb1.size)
    clear hb1 hb2 hda hne hv
    go_wp2_with fail
    refine (decode_any t w2 ht).mono ?_
    rintro e' wz ⟨v, rfl, hv, hb4⟩
    have hB : Below w.heap.size w wz := hB3.trans (hb4.mono hB3.size)
    clear hv hb4
    go_wp2_with fail
    clear he1 he2 hp1' hp0' hp0 hp1
    refine (decodeStd_any s wz hs).mono ?_
    rcases decS_cases s with ⟨c, hdc, hec⟩ | ⟨e2, p2, hdc, hne2⟩
    · rw [hdc]
      rintro e w2 ⟨v, rfl, hv, hb2⟩
      have Hec : Hid (enc stdRow c ++ fill c.length = s) := hec
      have hcl : c.length ≤ 140737488355328 := by have := enc_length stdRow c; rw [← hec] at hs; simp at hs; omega
      clear hdc hec
      obtain ⟨g, cap, rfl, hg, hcap, hrd⟩ := hv.rd
      have hR2 : Hid (Rd w2 (some ⟨g, 0, none⟩) c) := hrd
      clear hv hrd
      go_wp2_with fail
      refine (encodeStd_any (some ⟨g, 0, none⟩) cap c w2 hR2.out hcap hcl).mono ?_
      rw [Hec.out]
      rintro e w3 ⟨rfl, hb3⟩
      have hR3 : Hid (Rd w3 (some ⟨g, 0, none⟩) c) := hR2.out.below hb3 (Nat.le_refl _)
      have hB3 : Below w.heap.size w w3 := hB.trans ((hb2.mono hB.size).trans (hb3.mono (Nat.le_trans hB.size hb2.size)))
      clear hB hb2 hb3 hR2
      go_wp2_with fail
      refine (decodeStd_any t w3 ht).mono ?_
      rcases decS_cases t with ⟨d, hdd, hed⟩ | ⟨e2, p2, hdd, hne2⟩
      · rw [hdd]
        rintro e w4 ⟨v, rfl, hv, hb4⟩
        obtain ⟨g2, cap2, rfl, hg2, hcap2, hrd2⟩ := hv.rd
        have hR4 : Hid (Rd w4 (some ⟨g2, 0, none⟩) d) := hrd2
        have hR4' : Hid (Rd w4 (some ⟨g, 0, none⟩) c) := hR3.out.below hb4 (Nat.le_refl _)
        have hB4 : Below w.heap.size w w4 := hB3.trans (hb4.mono hB3.size)
        have Hed : Hid (enc stdRow d ++ fill d.length = t) := hed
        clear hv hrd2 hb4 hB3 hR3 hdd hed
        go_wp2_with fail
        refine (same_any (some ⟨g, 0, none⟩) (some ⟨g2, 0, none⟩) cap cap2 c d w4 hR4'.out hR4.out (by omega)).mono ?_
        rintro e wy ⟨rfl, q, hq⟩
        have hB : Below w.heap.size w wy := by rw [hq]; exact below_drewN hB4 q
        by_cases hab : c = d
        · have hst : (s == t) = true := by
            have h1 := Hec.out; have h2 := Hed.out; rw [hab] at h1
            have h3 := h1.symm.trans h2
            simpa using h3
          rw [decide_eq_true hab]
          clear hab hq hB4 hR4 hR4' Hec Hed
          go_wp2
          go_ret
          exact ⟨rfl, hB⟩
        · rw [decide_eq_false hab]
          clear hab hq hB4 hR4 hR4' Hec Hed
          go_wp2
          go_ret
          exact ⟨rfl, hB⟩
      · rw [hdd]
        rintro e w4 ⟨v, rfl, hv, hb4⟩
        have hv' : v = .slice none 0 0 := hv
        subst hv'
        have hB : Below w.heap.size w w4 := hB3.trans (hb4.mono hB3.size)
        have he0 : (e2 == 0) = false := by simpa using hne2
        clear hb4 hB3 hdd hne2 hv
        go_wp2
        go_ret
        exact ⟨rfl, hB⟩
    · rw [hdc]
      rintro e w2 ⟨v, rfl, hv, hb2⟩
      have hv' : v = .slice none 0 0 := hv
      subst hv'
      have he0 : (e2 == 0) = false := by simpa using hne2
      have hB3 : Below w.heap.size w w2 := hB.trans (hb2.mono hB.size)
      clear hB hb2 hdc hne2 hv
      go_wp2_with fail
      refine (decodeStd_any t w2 ht).mono ?_
      rintro e w4 ⟨v, rfl, hv, hb4⟩
      have hB : Below w.heap.size w w4 := hB3.trans (hb4.mono hB3.size)
      clear hv hb4
      go_wp2
      go_ret
      exact ⟨rfl, hB⟩

end Go.Proofs.Ytnccalbeidkeiaa
