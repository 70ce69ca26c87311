import Derived.Test.YtcdcfgkgighmhaaGreatDoorRZ
namespace Go.Proofs.YtcdcfgkgighmhaaGreatDoor
open Go.RowKit Go.Shelf

theorem decodeRune_any (l : List UInt8) (w : World) (hT : U8 w) (hne : l ≠ []) :
    Calls Tryz.prog 93 #[.string ⟨l.toArray⟩] w fun e w' => e = .returned (.tuple #[.int .i32 ((Lib.decodeL l).1 : Int), .int .i64 ((Lib.decodeL l).2 : Int)]) ∧ Below w.heap.size w w' := by
  have h : Lib.decodeGo ⟨l.toArray⟩ = Lib.decodeL l := by
    unfold Lib.decodeGo Lib.decodeL
    rw [if_neg]
    show ¬ l.toArray.size = 0
    simpa using hne
  have := Any.utf8_DecodeRuneInString Tryz.laysDec ⟨l.toArray⟩ w hT
  rw [h] at this
  exact this

theorem suf_drop (t : List UInt8) (p : Nat) : (⟨t.toArray⟩ : ByteArray).extract p t.length = ⟨(t.drop p).toArray⟩ := by
  rw [Lib.extract_eq]
  simp only [ByteArray.mk.injEq]
  rw [List.take_of_length_le (by simp)]

theorem fullR_ne {l : List UInt8} (h : fullR l = true) : l ≠ [] := fun e => by subst e; cases h

set_option maxRecDepth 100000 in
set_option maxHeartbeats 4000000 in
theorem char_any (w : World) (b : Nat) (t : List UInt8) (p : Nat) (x : X5) (c q : Int) (h : RB w b t p x c q) (hT : U8 w) (hp : p ≤ t.length) (ht : t.length ≤ 1073741824) :
    Calls Tryz.prog 76 #[.pointer (some ⟨b, 0, none⟩)] w fun e w' => But w w' b ∧
      (∀ u p', chrF t p = .ok u p' → e = .returned (.tuple #[.int .i32 u, .bool true]) ∧ RB w' b t p' x c q) ∧
      (∀ c' p', chrF t p = .bad c' p' → ∃ v, e = .returned (.tuple #[.int .i32 v, .bool false]) ∧ ∃ p2, RB w' b t p2 x c' p') := by
  obtain ⟨R, hR⟩ : ∃ R, chrF t p = R := ⟨_, rfl⟩
  rw [hR]
  have HE : Hid (chrF t p = R) := hR
  have c0 := h.c0
  have c1 := h.c1
  have HR0 : Hid (RB w b t p x c q) := h
  have HTT : Hid (U8 w) := hT
  have hdl : (t.drop p).length ≤ 1073741824 := by rw [List.length_drop]; omega
  have C1 : ∀ n, Calls Tryz.prog 91 #[.string ⟨(t.drop p).toArray⟩] (w.drewN n) fun e w' => e = .returned (.bool (fullR (t.drop p))) ∧ Below (w.drewN n).heap.size (w.drewN n) w' := fun n => fullRune_any (t.drop p) (w.drewN n) hT hdl
  have Hsl : Hid ((⟨t.toArray⟩ : ByteArray).extract p t.length = ⟨(t.drop p).toArray⟩) := suf_drop t p
  have HESC : Hid (∀ (w : World), RB w b t p x c q → p < t.length → Calls Tryz.prog 92 #[.pointer (some ⟨b, 0, none⟩)] w fun e w' => But w w' b ∧
      (∀ u p', escF t p = .ok u p' → e = .returned (.tuple #[.int .i32 u, .bool true]) ∧ RB w' b t p' x c q) ∧
      (∀ c' p', escF t p = .bad c' p' → ∃ v, e = .returned (.tuple #[.int .i32 v, .bool false]) ∧ ∃ p2, RB w' b t p2 x c' p')) := fun w h hk => escape_any w b t p x c q h hk ht
  have HF : Hid (∀ (w : World) (k : Nat) (c' q' : Int), RB w b t k x c q → Calls Tryz.prog 55 #[.pointer (some ⟨b, 0, none⟩), .int .i64 c', .int .i64 q'] w fun e w' => e = .returned (.bool false) ∧ But w w' b ∧ RB w' b t k x c' q') := fun w k c' q' h => fail_any w b t k x c q c' q' h
  have HW : Hid (∀ (w : World) (k : Nat), RB w b t k x c q → Calls Tryz.prog 43 #[.pointer (some ⟨b, 0, none⟩)] w fun e w' => e = .returned (.bool false) ∧ But w w' b ∧ RB w' b t k x 31 k) := fun w k h => wrong_any w b t k x c q h
  clear h hR hT
  cases hf : fullR (t.drop p)
  · have Hz : Hid (R = .bad 31 t.length) := by show _ = _; rw [← HE.out]; unfold chrF; simp only; rw [if_pos hf]
    rw [hf] at C1
    have HC1 : Hid (∀ n, Calls Tryz.prog 91 #[.string ⟨(t.drop p).toArray⟩] (w.drewN n) fun e w' => e = .returned (.bool false) ∧ Below (w.drewN n).heap.size (w.drewN n) w') := C1
    clear HE hf C1
    go_enter Tryz.func76, Tryz.ntmps76
    go_wp2
    go_quiet (fail)
    go_wp2_with fail
    rw [Hsl.out]
    refine (HC1.out _).mono ?_
    rintro e w1 ⟨rfl, hB1⟩
    have hR1 : RB w1 b t p x c q := (HR0.out.drewN _).below hB1 (Nat.le_refl _)
    have HB1 : Hid (But w w1 b) := ((But.refl w b).drewN _).trans (But.of_below hB1)
    have c01 := hR1.c0
    have c11 := hR1.c1
    have f11 := hR1.fz 1
    have HB2 : Hid (But w (w1.setCell ⟨b, 1, none⟩ (.int .i64 (t.length : Nat))) b) := HB1.out.set _ _
    have C2 := HW.out _ t.length (hR1.pos t.length)
    clear hR1 hB1
    go_wp2_with fail
    refine C2.mono ?_
    rintro e w2 ⟨rfl, hB2, hR2⟩
    go_wp2
    go_ret2
    refine ⟨HB2.out.trans hB2, ?_, ?_⟩
    · intro u' p' e; rw [Hz.out] at e; cases e
    · intro c' p' e; rw [Hz.out] at e; cases e; exact ⟨0, rfl, _, hR2⟩
  · have hne := fullR_ne hf
    have hl : p < t.length := by
      rcases Nat.lt_or_ge p t.length with h | h
      · exact h
      · exact absurd (List.drop_eq_nil_of_le h) hne
    obtain ⟨d, hd⟩ : ∃ d, t.getD p 0 = d := ⟨_, rfl⟩
    have gx : (⟨(t.drop p).toArray⟩ : ByteArray)[0]'(by show 0 < (t.drop p).toArray.size; simp; omega) = d := by
      rw [← hd]
      show (t.drop p).toArray[0]'(by simp; omega) = _
      simp [List.getD_eq_getElem?_getD, hl]
    have hdlt : d.toNat < 256 := d.toNat_lt
    have HE2 : Hid ((if d = 92 then escF t p else if d < 32 then .bad 31 p else
        if (Lib.decodeL (t.drop p)).1 = 65533 ∧ (Lib.decodeL (t.drop p)).2 = 1 then .bad 32 p else
        Lx.ok ((Lib.decodeL (t.drop p)).1 : Int) (p + (Lib.decodeL (t.drop p)).2)) = R) := by
      show _ = _
      rw [← HE.out]
      unfold chrF
      simp only
      rw [hf, if_neg (show ¬ (true = false) by simp), hd]
    have Cd := fun w hT => decodeRune_any (t.drop p) w hT hne
    have hw1 := Lib.decodeL_le _ hne
    have hw2 := Lib.decodeL_rune (t.drop p)
    rw [List.length_drop] at hw1
    have hsz : 0 < (t.drop p).length := by rw [List.length_drop]; omega
    rw [hf] at C1
    have HCd : Hid (∀ w, U8 w → Calls Tryz.prog 93 #[.string ⟨(t.drop p).toArray⟩] w fun e w' => e = .returned (.tuple #[.int .i32 ((Lib.decodeL (t.drop p)).1 : Int), .int .i64 ((Lib.decodeL (t.drop p)).2 : Int)]) ∧ Below w.heap.size w w') := Cd
    clear HE hf hd Cd hne
    generalize Lib.decodeL (t.drop p) = dd at *
    obtain ⟨dr, ds⟩ := dd
    simp only at HE2 HCd hw1 hw2
    obtain ⟨s, hs⟩ : ∃ s : ByteArray, s = ⟨(t.drop p).toArray⟩ := ⟨_, rfl⟩
    have hss : s.size = (t.drop p).length := by rw [hs]; rfl
    have hs0 : 0 < s.size := by omega
    have gs : s[0]'hs0 = d := by subst hs; exact gx
    rw [← hs] at C1 Hsl HCd
    have HC1 : Hid (∀ n, Calls Tryz.prog 91 #[.string s] (w.drewN n) fun e w' => e = .returned (.bool true) ∧ Below (w.drewN n).heap.size (w.drewN n) w') := C1
    clear gx hs hdl hss hsz C1
    by_cases h92 : d = 92
    · subst h92
      have Hz : Hid (escF t p = R) := by show _ = _; rw [← HE2.out]; rfl
      clear HE2
      go_enter Tryz.func76, Tryz.ntmps76
      go_wp2
      go_quiet (fail)
      go_wp2_with fail
      rw [Hsl.out]
      refine (HC1.out _).mono ?_
      rintro e w1 ⟨rfl, hB1⟩
      have hR1 : RB w1 b t p x c q := (HR0.out.drewN _).below hB1 (Nat.le_refl _)
      have HB1 : Hid (But w w1 b) := ((But.refl w b).drewN _).trans (But.of_below hB1)
      have C2 := HESC.out w1 hR1 hl
      rw [Hz.out] at C2
      clear hR1 hB1 Hz
      go_wp2_with fail
      refine C2.mono ?_
      rintro e w2 ⟨hB2, h2, h3⟩
      have HP2 : Hid (∀ u p', R = .ok u p' → e = .returned (.tuple #[.int .i32 u, .bool true]) ∧ RB w2 b t p' x c q) := h2
      have HP3 : Hid (∀ c' p', R = .bad c' p' → ∃ v, e = .returned (.tuple #[.int .i32 v, .bool false]) ∧ ∃ p2, RB w2 b t p2 x c' p') := h3
      clear h2 h3
      cases hRR : R with
      | ok u p' =>
        obtain ⟨rfl, hR3⟩ := HP2.out u p' hRR
        have HRR : Hid (R = .ok u p') := hRR
        clear HP2 HP3 hRR
        go_wp2
        go_ret2
        refine ⟨HB1.out.trans hB2, ?_, ?_⟩
        · intro u' p' e; rw [HRR.out] at e; cases e; exact ⟨rfl, hR3⟩
        · intro c' p' e; rw [HRR.out] at e; cases e
      | bad c' p' =>
        obtain ⟨v, rfl, p2, hR3⟩ := HP3.out c' p' hRR
        have HRR : Hid (R = .bad c' p') := hRR
        clear HP2 HP3 hRR
        go_wp2
        go_ret2
        refine ⟨HB1.out.trans hB2, ?_, ?_⟩
        · intro u' p' e; rw [HRR.out] at e; cases e
        · intro c' p' e; rw [HRR.out] at e; cases e; exact ⟨v, rfl, p2, hR3⟩
    · have h92n : ((d.toNat : Int) == 92) = false := by
        have : d.toNat ≠ 92 := fun e => h92 (UInt8.toNat_inj.1 e)
        simp; omega
      by_cases h32 : d < 32
      · have Hz : Hid (R = .bad 31 p) := by show _ = _; rw [← HE2.out, if_neg h92, if_pos h32]
        have h32n : d.toNat < 32 := h32
        have h32d : decide ((d.toNat : Int) < 32) = true := by simp; omega
        clear HE2 h32 h92
        go_enter Tryz.func76, Tryz.ntmps76
        go_wp2
        go_quiet (fail)
        go_wp2_with fail
        rw [Hsl.out]
        refine (HC1.out _).mono ?_
        rintro e w1 ⟨rfl, hB1⟩
        have hR1 : RB w1 b t p x c q := (HR0.out.drewN _).below hB1 (Nat.le_refl _)
        have HB1 : Hid (But w w1 b) := ((But.refl w b).drewN _).trans (But.of_below hB1)
        have C2 := HW.out w1 p hR1
        clear hR1 hB1
        go_wp2_with fail
        refine C2.mono ?_
        rintro e w2 ⟨rfl, hB2, hR2⟩
        go_wp2
        go_ret2
        refine ⟨HB1.out.trans hB2, ?_, ?_⟩
        · intro u' p' e; rw [Hz.out] at e; cases e
        · intro c' p' e; rw [Hz.out] at e; cases e; exact ⟨0, rfl, _, hR2⟩
      · have h32n : ¬ d.toNat < 32 := h32
        have h32d : decide ((d.toNat : Int) < 32) = false := by simp; omega
        have HE3 : Hid ((if dr = 65533 ∧ ds = 1 then .bad 32 p else Lx.ok (dr : Int) (p + ds)) = R) := by show _ = _; rw [← HE2.out, if_neg h92, if_neg h32]
        clear HE2 h32 h92
        by_cases hbad : dr = 65533 ∧ ds = 1
        · have Hz : Hid (R = .bad 32 p) := by show _ = _; rw [← HE3.out, if_pos hbad]
          obtain ⟨rfl, rfl⟩ := hbad
          clear HE3
          go_enter Tryz.func76, Tryz.ntmps76
          go_wp2
          go_quiet (fail)
          go_wp2_with fail
          rw [Hsl.out]
          refine (HC1.out _).mono ?_
          rintro e w1 ⟨rfl, hB1⟩
          have C2 := HCd.out w1 ((HTT.out.drewN _).below hB1)
          have HR1 : Hid (RB w1 b t p x c q) := (HR0.out.drewN _).below hB1 (Nat.le_refl _)
          have HB1 : Hid (But w w1 b) := ((But.refl w b).drewN _).trans (But.of_below hB1)
          clear hB1
          go_wp2_with fail
          refine C2.mono ?_
          rintro e w2 ⟨rfl, hB2⟩
          have hR2 : RB w2 b t p x c q := HR1.out.below hB2 (Nat.le_refl _)
          have HB2 : Hid (But w w2 b) := HB1.out.trans (But.of_below hB2)
          have c12 := hR2.c1
          have C3 := HF.out w2 p 32 (p : Int) hR2
          clear hB2 hR2
          go_wp2_with fail
          refine C3.mono ?_
          rintro e w3 ⟨rfl, hB3, hR3⟩
          go_wp2
          go_ret2
          refine ⟨HB2.out.trans hB3, ?_, ?_⟩
          · intro u' p' e; rw [Hz.out] at e; cases e
          · intro c' p' e; rw [Hz.out] at e; cases e; exact ⟨0, rfl, _, hR3⟩
        · have Hz : Hid (R = .ok (dr : Int) (p + ds)) := by show _ = _; rw [← HE3.out, if_neg hbad]
          have hq : ((dr : Int) == 65533) = false ∨ (((dr : Int) == 65533) = true ∧ ((ds : Int) == 1) = false) := by
            by_cases h1 : dr = 65533
            · right
              refine ⟨by simp; omega, ?_⟩
              have : ds ≠ 1 := fun e => hbad ⟨h1, e⟩
              simp; omega
            · left; simp; omega
          clear HE3 hbad
          rcases hq with hq | ⟨hq, hq2⟩
          all_goals
            go_enter Tryz.func76, Tryz.ntmps76
            go_wp2
            go_quiet (fail)
            go_wp2_with fail
            rw [Hsl.out]
            refine (HC1.out _).mono ?_
            rintro e w1 ⟨rfl, hB1⟩
            have C2 := HCd.out w1 ((HTT.out.drewN _).below hB1)
            have HR1 : Hid (RB w1 b t p x c q) := (HR0.out.drewN _).below hB1 (Nat.le_refl _)
            have HB1 : Hid (But w w1 b) := ((But.refl w b).drewN _).trans (But.of_below hB1)
            clear hB1
            go_wp2_with fail
            refine C2.mono ?_
            rintro e w2 ⟨rfl, hB2⟩
            have hR2 : RB w2 b t p x c q := HR1.out.below hB2 (Nat.le_refl _)
            have HB2 : Hid (But w (w2.setCell ⟨b, 1, none⟩ (.int .i64 (p + ds : Nat))) b) := (HB1.out.trans (But.of_below hB2)).set _ _
            have HR3 : Hid (RB (w2.setCell ⟨b, 1, none⟩ (.int .i64 (p + ds : Nat))) b t (p + ds) x c q) := hR2.pos (p + ds)
            have c12 := hR2.c1
            have f12 := hR2.fz 1
            clear hB2 hR2
            go_wp2
            go_ret2
            refine ⟨HB2.out, ?_, ?_⟩
            · intro u' p' e; rw [Hz.out] at e; cases e; exact ⟨rfl, HR3.out⟩
            · intro c' p' e; rw [Hz.out] at e; cases e

end Go.Proofs.YtcdcfgkgighmhaaGreatDoor
