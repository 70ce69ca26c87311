import Derived.Test.YtcdcfgkgighmhaaGreatDoorSk
namespace Go.Proofs.YtcdcfgkgighmhaaGreatDoor
open Go.RowKit Go.Shelf

set_option maxRecDepth 100000 in
set_option maxHeartbeats 8000000 in
theorem word_any {B : Nat} {w : World} {b : Nat} {t : List UInt8} {s : JS} {nv ov : Value} {mb : Nat} {c q : Int} (h : RS B w b t s nv ov mb c q) (hG : GL B w) (hok : OKs s) (hp : s.pos < t.length) (ht : t.length ≤ 1000000) :
    Calls Tryz.prog 44 #[.pointer (some ⟨b, 0, none⟩)] w fun e w' => Below B w w' ∧
      (∀ s', wordF t s = .go s' → e = .returned (.bool true) ∧ ∃ nv' ov', RS B w' b t s' nv' ov' mb c q) ∧
      (∀ c' p', wordF t s = .bad c' p' → e = .returned (.bool false) ∧ Bd w' b c' p') := by
  obtain ⟨R, hR⟩ : ∃ R, wordF t s = R := ⟨_, rfl⟩
  rw [hR]
  have HE : Hid (wordF t s = R) := hR
  have c2 := h.rb.c2
  simp only at c2
  have H : Hid (RS B w b t s nv ov mb c q) := h
  have HG : Hid (GL B w) := hG
  have HOK : Hid (OKs s) := hok
  have hcnt := hok.cnt
  have HNE : Hid (s.aw ≠ 1 → s.aw ≠ 7 → s.opn ≠ []) := hok.ne
  have HT : Hid (∀ sg : UInt8, Calls Tryz.prog 42 #[.pointer (some ⟨b, 0, none⟩), .string { data := #[sg] }] w fun e w' => e = .returned (.bool (tk t [sg] s.pos)) ∧ But w w' b ∧ RB w' b t (stp (tk t [sg] s.pos) s.pos) ⟨.int .i64 (s.aw : Int), nv, ov, .string ⟨s.key.toArray⟩, .map (some mb)⟩ c q) := fun sg => take_any w b t [sg] s.pos _ c q h.rb (by omega) (by omega)
  have HCL : Hid (s.opn ≠ [] → ∀ wq, RS B wq b t { s with pos := s.pos + 1 } nv ov mb c q → Calls Tryz.prog 56 #[.pointer (some ⟨b, 0, none⟩)] wq fun e w' => e = .returned (.bool true) ∧ Below B wq w' ∧ ∃ ov', RS B w' b t (clsF s) nv ov' mb c q) := fun hne wq hq => close_any hq hne hok.op hok.len (show s.nodes.length ≤ _ by omega)
  have HV : Hid (∀ wq, RS B wq b t s nv ov mb c q → GL B wq → Calls Tryz.prog 57 #[.pointer (some ⟨b, 0, none⟩)] wq fun e w' => Below B wq w' ∧
      (∀ s', valueF t s = .go s' → e = .returned (.bool true) ∧ ∃ nv' ov', RS B w' b t s' nv' ov' mb c q) ∧
      (∀ c' p', valueF t s = .bad c' p' → e = .returned (.bool false) ∧ Bd w' b c' p')) := fun wq hq hg => value_any hq hg hok hp ht
  have HN : Hid (s.opn ≠ [] → ∀ wq, RS B wq b t s nv ov mb c q → GL B wq → Calls Tryz.prog 58 #[.pointer (some ⟨b, 0, none⟩)] wq fun e w' => Below B wq w' ∧
      (∀ s', nameF t s = .go s' → e = .returned (.bool true) ∧ ∃ nv' ov', RS B w' b t s' nv' ov' mb c q) ∧
      (∀ c' p', nameF t s = .bad c' p' → e = .returned (.bool false) ∧ Bd w' b c' p')) := fun hne wq hq hg => (name_any hq hg hok hne hp (by omega)).mono fun e w' hx => ⟨hx.1, fun s' e1 => ⟨(hx.2.1 s' e1).1, _, _, (hx.2.1 s' e1).2⟩, hx.2.2⟩
  have HM : Hid (∀ (sg : UInt8) (a : Nat) wq, RS B wq b t s nv ov mb c q → Calls Tryz.prog 59 #[.pointer (some ⟨b, 0, none⟩), .string { data := #[sg] }, .int .i64 (a : Int)] wq fun e w' => Below B wq w' ∧
      (∀ s', markF t sg a s = .go s' → e = .returned (.bool true) ∧ ∃ nv' ov', RS B w' b t s' nv' ov' mb c q) ∧
      (∀ c' p', markF t sg a s = .bad c' p' → e = .returned (.bool false) ∧ Bd w' b c' p')) := fun sg a wq hq => (mark_any sg a hq (by omega) (by omega)).mono fun e w' hx => ⟨hx.1, fun s' e1 => ⟨(hx.2.1 s' e1).1, _, _, (hx.2.1 s' e1).2⟩, fun c' p' e1 => ⟨(hx.2.2 c' p' e1).1, (hx.2.2 c' p' e1).2.elim fun s2 h2 => h2.rb.bd⟩⟩
  clear hR h hG hok
  by_cases haw : s.aw = 0
  · skip
    have hne : s.opn ≠ [] := HNE.out (by omega) (by omega)
    cases htk : tk t [93] s.pos
    · have HZ : valueF t s = R := by rw [← HE.out]; unfold wordF; simp only [haw]; rw [htk]; rfl
      have C := HT.out 93
      rw [htk] at C
      have HZ' : Hid _ := HZ
      have HNE2 : Hid (s.opn ≠ []) := hne
      have HZ := HZ'
      rw [haw] at c2
      clear htk HE hne HZ'
      clear haw
      go_enter Tryz.func44, Tryz.ntmps44
      go_wp2_with fail
      refine C.mono ?_
      clear C
      rintro e w1 ⟨rfl, hB1, hR1⟩
      have HS1 : Hid (RS B w1 b t s nv ov mb c q) := H.out.but hB1 hR1 rfl rfl rfl
      have HB1 : Hid (Below B w w1) := H.out.bel hB1
      clear hB1 hR1
      have C9 := HV.out w1 HS1.out (HG.out.below HB1.out)
      have Hz : Hid (valueF t s = R) := HZ
      rw [Hz.out] at C9
      go_wp2_with fail
      refine C9.mono ?_
      clear C9
      rintro e w9 ⟨hB9, h1, h2⟩
      have HP1 : Hid (∀ s', R = .go s' → e = .returned (.bool true) ∧ ∃ nv' ov', RS B w9 b t s' nv' ov' mb c q) := h1
      have HP2 : Hid (∀ c' p', R = .bad c' p' → e = .returned (.bool false) ∧ Bd w9 b c' p') := h2
      have HB9 : Hid (Below B w w9) := HB1.out.trans (hB9)
      clear h1 h2 hB9
      cases hRR : R with
      | go s' =>
        obtain ⟨rfl, hx⟩ := HP1.out s' hRR
        have HX : Hid (∃ nv' ov', RS B w9 b t s' nv' ov' mb c q) := hx
        have HRR : Hid (R = .go s') := hRR
        clear HP1 HP2 hRR hx
        go_wp2
        go_ret
        refine ⟨HB9.out, ?_, ?_⟩
        · intro s' e; rw [HRR.out] at e; cases e; exact ⟨rfl, HX.out⟩
        · intro c' p' e; rw [HRR.out] at e; cases e
      | bad c' p' =>
        obtain ⟨rfl, hx⟩ := HP2.out c' p' hRR
        have HX : Hid (Bd w9 b c' p') := hx
        have HRR : Hid (R = .bad c' p') := hRR
        clear HP1 HP2 hRR hx
        go_wp2
        go_ret
        refine ⟨HB9.out, ?_, ?_⟩
        · intro s' e; rw [HRR.out] at e; cases e
        · intro c' p' e; rw [HRR.out] at e; cases e; exact ⟨rfl, HX.out⟩
    · have HZ : Hid (R = .go (clsF s)) := by show _ = _; rw [← HE.out]; unfold wordF; simp only [haw]; rw [htk]; rfl
      have C := HT.out 93
      rw [htk] at C
      have HNE2 : Hid (s.opn ≠ []) := hne
      rw [haw] at c2
      clear htk HE hne haw
      go_enter Tryz.func44, Tryz.ntmps44
      go_wp2_with fail
      refine C.mono ?_
      clear C
      rintro e w1 ⟨rfl, hB1, hR1⟩
      have HS1 : Hid (RS B w1 b t { s with pos := s.pos + 1 } nv ov mb c q) := H.out.but hB1 hR1 rfl rfl rfl
      have HB1 : Hid (Below B w w1) := H.out.bel hB1
      clear hB1 hR1
      have C2 := HCL.out HNE2.out w1 HS1.out
      go_wp2_with fail
      refine C2.mono ?_
      rintro e w2 ⟨rfl, hB2, ov', hR2⟩
      go_wp2
      go_ret
      refine ⟨HB1.out.trans hB2, ?_, ?_⟩
      · intro s' e; rw [HZ.out] at e; cases e; exact ⟨rfl, _, _, hR2⟩
      · intro c' p' e; rw [HZ.out] at e; cases e
  · have n0 : ((s.aw : Int) == 0) = false := by simp; omega
    have m0 := haw
    clear haw
    by_cases haw : s.aw = 1
    · skip
      have HZ : valueF t s = R := by rw [← HE.out]; unfold wordF; simp only [haw]; rfl
      have HZ' : Hid _ := HZ
      have HZ := HZ'
      rw [haw] at c2
      clear HE HZ' haw
      go_enter Tryz.func44, Tryz.ntmps44
      have C9 := HV.out w H.out HG.out
      have Hz : Hid (valueF t s = R) := HZ
      rw [Hz.out] at C9
      go_wp2_with fail
      refine C9.mono ?_
      clear C9
      rintro e w9 ⟨hB9, h1, h2⟩
      have HP1 : Hid (∀ s', R = .go s' → e = .returned (.bool true) ∧ ∃ nv' ov', RS B w9 b t s' nv' ov' mb c q) := h1
      have HP2 : Hid (∀ c' p', R = .bad c' p' → e = .returned (.bool false) ∧ Bd w9 b c' p') := h2
      have HB9 : Hid (Below B w w9) := hB9
      clear h1 h2 hB9
      cases hRR : R with
      | go s' =>
        obtain ⟨rfl, hx⟩ := HP1.out s' hRR
        have HX : Hid (∃ nv' ov', RS B w9 b t s' nv' ov' mb c q) := hx
        have HRR : Hid (R = .go s') := hRR
        clear HP1 HP2 hRR hx
        go_wp2
        go_ret
        refine ⟨HB9.out, ?_, ?_⟩
        · intro s' e; rw [HRR.out] at e; cases e; exact ⟨rfl, HX.out⟩
        · intro c' p' e; rw [HRR.out] at e; cases e
      | bad c' p' =>
        obtain ⟨rfl, hx⟩ := HP2.out c' p' hRR
        have HX : Hid (Bd w9 b c' p') := hx
        have HRR : Hid (R = .bad c' p') := hRR
        clear HP1 HP2 hRR hx
        go_wp2
        go_ret
        refine ⟨HB9.out, ?_, ?_⟩
        · intro s' e; rw [HRR.out] at e; cases e
        · intro c' p' e; rw [HRR.out] at e; cases e; exact ⟨rfl, HX.out⟩
    · have n1 : ((s.aw : Int) == 1) = false := by simp; omega
      have m1 := haw
      clear haw
      by_cases haw : s.aw = 2
      · skip
        have hne : s.opn ≠ [] := HNE.out (by omega) (by omega)
        cases htk : tk t [125] s.pos
        · have HZ : nameF t s = R := by rw [← HE.out]; unfold wordF; simp only [haw]; rw [htk]; rfl
          have C := HT.out 125
          rw [htk] at C
          have HZ' : Hid _ := HZ
          have HNE2 : Hid (s.opn ≠ []) := hne
          have HZ := HZ'
          rw [haw] at c2
          clear htk HE hne HZ'
          clear haw
          go_enter Tryz.func44, Tryz.ntmps44
          go_wp2_with fail
          refine C.mono ?_
          clear C
          rintro e w1 ⟨rfl, hB1, hR1⟩
          have HS1 : Hid (RS B w1 b t s nv ov mb c q) := H.out.but hB1 hR1 rfl rfl rfl
          have HB1 : Hid (Below B w w1) := H.out.bel hB1
          clear hB1 hR1
          have C9 := HN.out HNE2.out w1 HS1.out (HG.out.below HB1.out)
          have Hz : Hid (nameF t s = R) := HZ
          rw [Hz.out] at C9
          go_wp2_with fail
          refine C9.mono ?_
          clear C9
          rintro e w9 ⟨hB9, h1, h2⟩
          have HP1 : Hid (∀ s', R = .go s' → e = .returned (.bool true) ∧ ∃ nv' ov', RS B w9 b t s' nv' ov' mb c q) := h1
          have HP2 : Hid (∀ c' p', R = .bad c' p' → e = .returned (.bool false) ∧ Bd w9 b c' p') := h2
          have HB9 : Hid (Below B w w9) := HB1.out.trans (hB9)
          clear h1 h2 hB9
          cases hRR : R with
          | go s' =>
            obtain ⟨rfl, hx⟩ := HP1.out s' hRR
            have HX : Hid (∃ nv' ov', RS B w9 b t s' nv' ov' mb c q) := hx
            have HRR : Hid (R = .go s') := hRR
            clear HP1 HP2 hRR hx
            go_wp2
            go_ret
            refine ⟨HB9.out, ?_, ?_⟩
            · intro s' e; rw [HRR.out] at e; cases e; exact ⟨rfl, HX.out⟩
            · intro c' p' e; rw [HRR.out] at e; cases e
          | bad c' p' =>
            obtain ⟨rfl, hx⟩ := HP2.out c' p' hRR
            have HX : Hid (Bd w9 b c' p') := hx
            have HRR : Hid (R = .bad c' p') := hRR
            clear HP1 HP2 hRR hx
            go_wp2
            go_ret
            refine ⟨HB9.out, ?_, ?_⟩
            · intro s' e; rw [HRR.out] at e; cases e
            · intro c' p' e; rw [HRR.out] at e; cases e; exact ⟨rfl, HX.out⟩
        · have HZ : Hid (R = .go (clsF s)) := by show _ = _; rw [← HE.out]; unfold wordF; simp only [haw]; rw [htk]; rfl
          have C := HT.out 125
          rw [htk] at C
          have HNE2 : Hid (s.opn ≠ []) := hne
          rw [haw] at c2
          clear htk HE hne haw
          go_enter Tryz.func44, Tryz.ntmps44
          go_wp2_with fail
          refine C.mono ?_
          clear C
          rintro e w1 ⟨rfl, hB1, hR1⟩
          have HS1 : Hid (RS B w1 b t { s with pos := s.pos + 1 } nv ov mb c q) := H.out.but hB1 hR1 rfl rfl rfl
          have HB1 : Hid (Below B w w1) := H.out.bel hB1
          clear hB1 hR1
          have C2 := HCL.out HNE2.out w1 HS1.out
          go_wp2_with fail
          refine C2.mono ?_
          rintro e w2 ⟨rfl, hB2, ov', hR2⟩
          go_wp2
          go_ret
          refine ⟨HB1.out.trans hB2, ?_, ?_⟩
          · intro s' e; rw [HZ.out] at e; cases e; exact ⟨rfl, _, _, hR2⟩
          · intro c' p' e; rw [HZ.out] at e; cases e
      · have n2 : ((s.aw : Int) == 2) = false := by simp; omega
        have m2 := haw
        clear haw
        by_cases haw : s.aw = 3
        · skip
          have hne : s.opn ≠ [] := HNE.out (by omega) (by omega)
          have HZ : nameF t s = R := by rw [← HE.out]; unfold wordF; simp only [haw]; rfl
          have HZ' : Hid _ := HZ
          have HNE2 : Hid (s.opn ≠ []) := hne
          have HZ := HZ'
          rw [haw] at c2
          clear HE HZ' haw hne
          go_enter Tryz.func44, Tryz.ntmps44
          have C9 := HN.out HNE2.out w H.out HG.out
          have Hz : Hid (nameF t s = R) := HZ
          rw [Hz.out] at C9
          go_wp2_with fail
          refine C9.mono ?_
          clear C9
          rintro e w9 ⟨hB9, h1, h2⟩
          have HP1 : Hid (∀ s', R = .go s' → e = .returned (.bool true) ∧ ∃ nv' ov', RS B w9 b t s' nv' ov' mb c q) := h1
          have HP2 : Hid (∀ c' p', R = .bad c' p' → e = .returned (.bool false) ∧ Bd w9 b c' p') := h2
          have HB9 : Hid (Below B w w9) := hB9
          clear h1 h2 hB9
          cases hRR : R with
          | go s' =>
            obtain ⟨rfl, hx⟩ := HP1.out s' hRR
            have HX : Hid (∃ nv' ov', RS B w9 b t s' nv' ov' mb c q) := hx
            have HRR : Hid (R = .go s') := hRR
            clear HP1 HP2 hRR hx
            go_wp2
            go_ret
            refine ⟨HB9.out, ?_, ?_⟩
            · intro s' e; rw [HRR.out] at e; cases e; exact ⟨rfl, HX.out⟩
            · intro c' p' e; rw [HRR.out] at e; cases e
          | bad c' p' =>
            obtain ⟨rfl, hx⟩ := HP2.out c' p' hRR
            have HX : Hid (Bd w9 b c' p') := hx
            have HRR : Hid (R = .bad c' p') := hRR
            clear HP1 HP2 hRR hx
            go_wp2
            go_ret
            refine ⟨HB9.out, ?_, ?_⟩
            · intro s' e; rw [HRR.out] at e; cases e
            · intro c' p' e; rw [HRR.out] at e; cases e; exact ⟨rfl, HX.out⟩
        · have n3 : ((s.aw : Int) == 3) = false := by simp; omega
          have m3 := haw
          clear haw
          by_cases haw : s.aw = 4
          · skip
            have HZ : markF t 58 1 s = R := by rw [← HE.out]; unfold wordF; simp only [haw]; rfl
            have HZ' : Hid _ := HZ
            have HZ := HZ'
            rw [haw] at c2
            clear HE HZ' haw
            go_enter Tryz.func44, Tryz.ntmps44
            have C9 := HM.out 58 1 w H.out
            have Hz : Hid (markF t 58 1 s = R) := HZ
            rw [Hz.out] at C9
            go_wp2_with fail
            refine C9.mono ?_
            clear C9
            rintro e w9 ⟨hB9, h1, h2⟩
            have HP1 : Hid (∀ s', R = .go s' → e = .returned (.bool true) ∧ ∃ nv' ov', RS B w9 b t s' nv' ov' mb c q) := h1
            have HP2 : Hid (∀ c' p', R = .bad c' p' → e = .returned (.bool false) ∧ Bd w9 b c' p') := h2
            have HB9 : Hid (Below B w w9) := hB9
            clear h1 h2 hB9
            cases hRR : R with
            | go s' =>
              obtain ⟨rfl, hx⟩ := HP1.out s' hRR
              have HX : Hid (∃ nv' ov', RS B w9 b t s' nv' ov' mb c q) := hx
              have HRR : Hid (R = .go s') := hRR
              clear HP1 HP2 hRR hx
              go_wp2
              go_ret
              refine ⟨HB9.out, ?_, ?_⟩
              · intro s' e; rw [HRR.out] at e; cases e; exact ⟨rfl, HX.out⟩
              · intro c' p' e; rw [HRR.out] at e; cases e
            | bad c' p' =>
              obtain ⟨rfl, hx⟩ := HP2.out c' p' hRR
              have HX : Hid (Bd w9 b c' p') := hx
              have HRR : Hid (R = .bad c' p') := hRR
              clear HP1 HP2 hRR hx
              go_wp2
              go_ret
              refine ⟨HB9.out, ?_, ?_⟩
              · intro s' e; rw [HRR.out] at e; cases e
              · intro c' p' e; rw [HRR.out] at e; cases e; exact ⟨rfl, HX.out⟩
          · have n4 : ((s.aw : Int) == 4) = false := by simp; omega
            have m4 := haw
            clear haw
            by_cases haw : s.aw = 5
            · skip
              have hne : s.opn ≠ [] := HNE.out (by omega) (by omega)
              cases htk : tk t [93] s.pos
              · have HZ : markF t 44 1 s = R := by rw [← HE.out]; unfold wordF; simp only [haw]; rw [htk]; rfl
                have C := HT.out 93
                rw [htk] at C
                have HZ' : Hid _ := HZ
                have HNE2 : Hid (s.opn ≠ []) := hne
                have HZ := HZ'
                rw [haw] at c2
                clear htk HE hne HZ'
                clear haw
                go_enter Tryz.func44, Tryz.ntmps44
                go_wp2_with fail
                refine C.mono ?_
                clear C
                rintro e w1 ⟨rfl, hB1, hR1⟩
                have HS1 : Hid (RS B w1 b t s nv ov mb c q) := H.out.but hB1 hR1 rfl rfl rfl
                have HB1 : Hid (Below B w w1) := H.out.bel hB1
                clear hB1 hR1
                have C9 := HM.out 44 1 w1 HS1.out
                have Hz : Hid (markF t 44 1 s = R) := HZ
                rw [Hz.out] at C9
                go_wp2_with fail
                refine C9.mono ?_
                clear C9
                rintro e w9 ⟨hB9, h1, h2⟩
                have HP1 : Hid (∀ s', R = .go s' → e = .returned (.bool true) ∧ ∃ nv' ov', RS B w9 b t s' nv' ov' mb c q) := h1
                have HP2 : Hid (∀ c' p', R = .bad c' p' → e = .returned (.bool false) ∧ Bd w9 b c' p') := h2
                have HB9 : Hid (Below B w w9) := HB1.out.trans (hB9)
                clear h1 h2 hB9
                cases hRR : R with
                | go s' =>
                  obtain ⟨rfl, hx⟩ := HP1.out s' hRR
                  have HX : Hid (∃ nv' ov', RS B w9 b t s' nv' ov' mb c q) := hx
                  have HRR : Hid (R = .go s') := hRR
                  clear HP1 HP2 hRR hx
                  go_wp2
                  go_ret
                  refine ⟨HB9.out, ?_, ?_⟩
                  · intro s' e; rw [HRR.out] at e; cases e; exact ⟨rfl, HX.out⟩
                  · intro c' p' e; rw [HRR.out] at e; cases e
                | bad c' p' =>
                  obtain ⟨rfl, hx⟩ := HP2.out c' p' hRR
                  have HX : Hid (Bd w9 b c' p') := hx
                  have HRR : Hid (R = .bad c' p') := hRR
                  clear HP1 HP2 hRR hx
                  go_wp2
                  go_ret
                  refine ⟨HB9.out, ?_, ?_⟩
                  · intro s' e; rw [HRR.out] at e; cases e
                  · intro c' p' e; rw [HRR.out] at e; cases e; exact ⟨rfl, HX.out⟩
              · have HZ : Hid (R = .go (clsF s)) := by show _ = _; rw [← HE.out]; unfold wordF; simp only [haw]; rw [htk]; rfl
                have C := HT.out 93
                rw [htk] at C
                have HNE2 : Hid (s.opn ≠ []) := hne
                rw [haw] at c2
                clear htk HE hne haw
                go_enter Tryz.func44, Tryz.ntmps44
                go_wp2_with fail
                refine C.mono ?_
                clear C
                rintro e w1 ⟨rfl, hB1, hR1⟩
                have HS1 : Hid (RS B w1 b t { s with pos := s.pos + 1 } nv ov mb c q) := H.out.but hB1 hR1 rfl rfl rfl
                have HB1 : Hid (Below B w w1) := H.out.bel hB1
                clear hB1 hR1
                have C2 := HCL.out HNE2.out w1 HS1.out
                go_wp2_with fail
                refine C2.mono ?_
                rintro e w2 ⟨rfl, hB2, ov', hR2⟩
                go_wp2
                go_ret
                refine ⟨HB1.out.trans hB2, ?_, ?_⟩
                · intro s' e; rw [HZ.out] at e; cases e; exact ⟨rfl, _, _, hR2⟩
                · intro c' p' e; rw [HZ.out] at e; cases e
            · have n5 : ((s.aw : Int) == 5) = false := by simp; omega
              have m5 := haw
              clear haw
              by_cases haw : s.aw = 6
              · skip
                have hne : s.opn ≠ [] := HNE.out (by omega) (by omega)
                cases htk : tk t [125] s.pos
                · have HZ : markF t 44 3 s = R := by rw [← HE.out]; unfold wordF; simp only [haw]; rw [htk]; rfl
                  have C := HT.out 125
                  rw [htk] at C
                  have HZ' : Hid _ := HZ
                  have HNE2 : Hid (s.opn ≠ []) := hne
                  have HZ := HZ'
                  rw [haw] at c2
                  clear htk HE hne HZ'
                  clear haw
                  go_enter Tryz.func44, Tryz.ntmps44
                  go_wp2_with fail
                  refine C.mono ?_
                  clear C
                  rintro e w1 ⟨rfl, hB1, hR1⟩
                  have HS1 : Hid (RS B w1 b t s nv ov mb c q) := H.out.but hB1 hR1 rfl rfl rfl
                  have HB1 : Hid (Below B w w1) := H.out.bel hB1
                  clear hB1 hR1
                  have C9 := HM.out 44 3 w1 HS1.out
                  have Hz : Hid (markF t 44 3 s = R) := HZ
                  rw [Hz.out] at C9
                  go_wp2_with fail
                  refine C9.mono ?_
                  clear C9
                  rintro e w9 ⟨hB9, h1, h2⟩
                  have HP1 : Hid (∀ s', R = .go s' → e = .returned (.bool true) ∧ ∃ nv' ov', RS B w9 b t s' nv' ov' mb c q) := h1
                  have HP2 : Hid (∀ c' p', R = .bad c' p' → e = .returned (.bool false) ∧ Bd w9 b c' p') := h2
                  have HB9 : Hid (Below B w w9) := HB1.out.trans (hB9)
                  clear h1 h2 hB9
                  cases hRR : R with
                  | go s' =>
                    obtain ⟨rfl, hx⟩ := HP1.out s' hRR
                    have HX : Hid (∃ nv' ov', RS B w9 b t s' nv' ov' mb c q) := hx
                    have HRR : Hid (R = .go s') := hRR
                    clear HP1 HP2 hRR hx
                    go_wp2
                    go_ret
                    refine ⟨HB9.out, ?_, ?_⟩
                    · intro s' e; rw [HRR.out] at e; cases e; exact ⟨rfl, HX.out⟩
                    · intro c' p' e; rw [HRR.out] at e; cases e
                  | bad c' p' =>
                    obtain ⟨rfl, hx⟩ := HP2.out c' p' hRR
                    have HX : Hid (Bd w9 b c' p') := hx
                    have HRR : Hid (R = .bad c' p') := hRR
                    clear HP1 HP2 hRR hx
                    go_wp2
                    go_ret
                    refine ⟨HB9.out, ?_, ?_⟩
                    · intro s' e; rw [HRR.out] at e; cases e
                    · intro c' p' e; rw [HRR.out] at e; cases e; exact ⟨rfl, HX.out⟩
                · have HZ : Hid (R = .go (clsF s)) := by show _ = _; rw [← HE.out]; unfold wordF; simp only [haw]; rw [htk]; rfl
                  have C := HT.out 125
                  rw [htk] at C
                  have HNE2 : Hid (s.opn ≠ []) := hne
                  rw [haw] at c2
                  clear htk HE hne haw
                  go_enter Tryz.func44, Tryz.ntmps44
                  go_wp2_with fail
                  refine C.mono ?_
                  clear C
                  rintro e w1 ⟨rfl, hB1, hR1⟩
                  have HS1 : Hid (RS B w1 b t { s with pos := s.pos + 1 } nv ov mb c q) := H.out.but hB1 hR1 rfl rfl rfl
                  have HB1 : Hid (Below B w w1) := H.out.bel hB1
                  clear hB1 hR1
                  have C2 := HCL.out HNE2.out w1 HS1.out
                  go_wp2_with fail
                  refine C2.mono ?_
                  rintro e w2 ⟨rfl, hB2, ov', hR2⟩
                  go_wp2
                  go_ret
                  refine ⟨HB1.out.trans hB2, ?_, ?_⟩
                  · intro s' e; rw [HZ.out] at e; cases e; exact ⟨rfl, _, _, hR2⟩
                  · intro c' p' e; rw [HZ.out] at e; cases e
              · have n6 : ((s.aw : Int) == 6) = false := by simp; omega
                have m6 := haw
                clear haw
                have HZ : Hid (R = .bad 31 s.pos) := by show _ = _; rw [← HE.out]; unfold wordF; rw [if_neg m0, if_neg m1, if_neg m2, if_neg m3, if_neg m4, if_neg m5, if_neg m6]
                have C := wrong_any w b t s.pos _ c q H.out.rb
                clear HE m0 m1 m2 m3 m4 m5 m6
                go_enter Tryz.func44, Tryz.ntmps44
                go_wp2_with fail
                refine C.mono ?_
                rintro e w1 ⟨rfl, hB1, hR1⟩
                go_wp2
                go_ret
                refine ⟨H.out.bel hB1, ?_, ?_⟩
                · intro s' e; rw [HZ.out] at e; cases e
                · intro c' p' e; rw [HZ.out] at e; cases e; exact ⟨rfl, hR1.bd⟩

end Go.Proofs.YtcdcfgkgighmhaaGreatDoor
