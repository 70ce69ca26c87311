import Derived.Test.YtjehkpndchadbaaGreatDoorRZ
import Derived.Laws.IdiomStrings
namespace Go.Proofs.YtjehkpndchadbaaGreatDoor
open Go.RowKit Go.Shelf

theorem decodeRune_any (l : List UInt8) (w : World) (hT : U8 w) (hne : l ≠ []) :
    Calls Tryz.prog 65 #[.string ⟨l.toArray⟩] w fun e w' => e = .returned (.tuple #[.int .i32 ((Lib.decodeL l).1 : Int), .int .i64 ((Lib.decodeL l).2 : Int)]) ∧ Below w.heap.size w w' := by
  have h : Lib.decodeGo ⟨l.toArray⟩ = Lib.decodeL l := by
    unfold Lib.decodeGo Lib.decodeL
    rw [if_neg]
    show ¬ l.toArray.size = 0
    simpa using hne
  have := Any.utf8_DecodeRuneInString Tryz.laysDec ⟨l.toArray⟩ w hT
  rw [h] at this
  exact this

theorem suf_drop (t : List UInt8) (p : Nat) : (⟨t.toArray⟩ : ByteArray).extract p t.length = ⟨(t.drop p).toArray⟩ := by
  rw [Lib.extract_eq]
  simp only [ByteArray.mk.injEq]
  rw [List.take_of_length_le (by simp)]

theorem fullR_ne {l : List UInt8} (h : fullR l = true) : l ≠ [] := fun e => by subst e; cases h

set_option maxRecDepth 100000 in
set_option maxHeartbeats 4000000 in
theorem char_any (w : World) (b : Nat) (t : List UInt8) (p : Nat) (x : X5) (c q : Int) (h : RB w b t p x c q) (hT : U8 w) (hp : p ≤ t.length) (ht : t.length ≤ 1073741824) :
    Calls Tryz.prog 56 #[.pointer (some ⟨b, 0, none⟩)] w fun e w' => But w w' b ∧
      (∀ u p', chrF t p = .ok u p' → e = .returned (.tuple #[.int .i32 u, .bool true]) ∧ RB w' b t p' x c q) ∧
      (∀ c' p', chrF t p = .bad c' p' → ∃ v, e = .returned (.tuple #[.int .i32 v, .bool false]) ∧ ∃ p2, RB w' b t p2 x c' p') := by
  obtain ⟨R, hR⟩ : ∃ R, chrF t p = R := ⟨_, rfl⟩
  rw [hR]
  have HE : Hid (chrF t p = R) := hR
  have c0 := h.c0
  have c1 := h.c1
  have HR0 : Hid (RB w b t p x c q) := h
  have HTT : Hid (U8 w) := hT
  have hdl : (t.drop p).length ≤ 1073741824 := by rw [List.length_drop]; omega
  have C1 : ∀ n, Calls Tryz.prog 63 #[.string ⟨(t.drop p).toArray⟩] (w.drewN n) fun e w' => e = .returned (.bool (fullR (t.drop p))) ∧ Below (w.drewN n).heap.size (w.drewN n) w' := fun n => fullRune_any (t.drop p) (w.drewN n) hT hdl
  have Hsl : Hid ((⟨t.toArray⟩ : ByteArray).extract p t.length = ⟨(t.drop p).toArray⟩) := suf_drop t p
  have HESC : Hid (∀ (w : World), RB w b t p x c q → p < t.length → Calls Tryz.prog 64 #[.pointer (some ⟨b, 0, none⟩)] w fun e w' => But w w' b ∧
      (∀ u p', escF t p = .ok u p' → e = .returned (.tuple #[.int .i32 u, .bool true]) ∧ RB w' b t p' x c q) ∧
      (∀ c' p', escF t p = .bad c' p' → ∃ v, e = .returned (.tuple #[.int .i32 v, .bool false]) ∧ ∃ p2, RB w' b t p2 x c' p')) := fun w h hk => escape_any w b t p x c q h hk ht
  have HF : Hid (∀ (w : World) (k : Nat) (c' q' : Int), RB w b t k x c q → Calls Tryz.prog 37 #[.pointer (some ⟨b, 0, none⟩), .int .i64 c', .int .i64 q'] w fun e w' => e = .returned (.bool false) ∧ But w w' b ∧ RB w' b t k x c' q') := fun w k c' q' h => fail_any w b t k x c q c' q' h
  have HW : Hid (∀ (w : World) (k : Nat), RB w b t k x c q → Calls Tryz.prog 32 #[.pointer (some ⟨b, 0, none⟩)] w fun e w' => e = .returned (.bool false) ∧ But w w' b ∧ RB w' b t k x 31 k) := fun w k h => wrong_any w b t k x c q h
  clear h hR hT
  cases hf : fullR (t.drop p)
  · have Hz : Hid (R = .bad 31 t.length) := by show _ = _; rw [← HE.out]; unfold chrF; simp only; rw [if_pos hf]
    rw [hf] at C1
    have HC1 : Hid (∀ n, Calls Tryz.prog 63 #[.string ⟨(t.drop p).toArray⟩] (w.drewN n) fun e w' => e = .returned (.bool false) ∧ Below (w.drewN n).heap.size (w.drewN n) w') := C1
    clear HE hf C1
    go_enter Tryz.func56, Tryz.ntmps56
    go_wp2
    go_quiet (fail)
    go_wp2_with fail
    rw [Hsl.out]
    refine (HC1.out _).mono ?_
    rintro e w1 ⟨rfl, hB1⟩
    have hR1 : RB w1 b t p x c q := (HR0.out.drewN _).below hB1 (Nat.le_refl _)
    have HB1 : Hid (But w w1 b) := ((But.refl w b).drewN _).trans (But.of_below hB1)
    have c01 := hR1.c0
    have c11 := hR1.c1
    have f11 := hR1.fz 1
    have HB2 : Hid (But w (w1.setCell ⟨b, 1, none⟩ (.int .i64 (t.length : Nat))) b) := HB1.out.set _ _
    have C2 := HW.out _ t.length (hR1.pos t.length)
    clear hR1 hB1
    go_wp2_with fail
    refine C2.mono ?_
    rintro e w2 ⟨rfl, hB2, hR2⟩
    go_wp2
    go_ret2
    refine ⟨HB2.out.trans hB2, ?_, ?_⟩
    · intro u' p' e; rw [Hz.out] at e; cases e
    · intro c' p' e; rw [Hz.out] at e; cases e; exact ⟨0, rfl, _, hR2⟩
  · have hne := fullR_ne hf
    have hl : p < t.length := by
      rcases Nat.lt_or_ge p t.length with h | h
      · exact h
      · exact absurd (List.drop_eq_nil_of_le h) hne
    obtain ⟨d, hd⟩ : ∃ d, t.getD p 0 = d := ⟨_, rfl⟩
    have gx : (⟨(t.drop p).toArray⟩ : ByteArray)[0]'(by show 0 < (t.drop p).toArray.size; simp; omega) = d := by
      rw [← hd]
      show (t.drop p).toArray[0]'(by simp; omega) = _
      simp [List.getD_eq_getElem?_getD, hl]
    have hdlt : d.toNat < 256 := d.toNat_lt
    have HE2 : Hid ((if d = 92 then escF t p else if d < 32 then .bad 31 p else
        if (Lib.decodeL (t.drop p)).1 = 65533 ∧ (Lib.decodeL (t.drop p)).2 = 1 then .bad 32 p else
        Lx.ok ((Lib.decodeL (t.drop p)).1 : Int) (p + (Lib.decodeL (t.drop p)).2)) = R) := by
      show _ = _
      rw [← HE.out]
      unfold chrF
      simp only
      rw [hf, if_neg (show ¬ (true = false) by simp), hd]
    have Cd := fun w hT => decodeRune_any (t.drop p) w hT hne
    have hw1 := Lib.decodeL_le _ hne
    have hw2 := Lib.decodeL_rune (t.drop p)
    rw [List.length_drop] at hw1
    have hsz : 0 < (t.drop p).length := by rw [List.length_drop]; omega
    rw [hf] at C1
    have HCd : Hid (∀ w, U8 w → Calls Tryz.prog 65 #[.string ⟨(t.drop p).toArray⟩] w fun e w' => e = .returned (.tuple #[.int .i32 ((Lib.decodeL (t.drop p)).1 : Int), .int .i64 ((Lib.decodeL (t.drop p)).2 : Int)]) ∧ Below w.heap.size w w') := Cd
    clear HE hf hd Cd hne
    generalize Lib.decodeL (t.drop p) = dd at *
    obtain ⟨dr, ds⟩ := dd
    simp only at HE2 HCd hw1 hw2
    obtain ⟨s, hs⟩ : ∃ s : ByteArray, s = ⟨(t.drop p).toArray⟩ := ⟨_, rfl⟩
    have hss : s.size = (t.drop p).length := by rw [hs]; rfl
    have hs0 : 0 < s.size := by omega
    have gs : s[0]'hs0 = d := by subst hs; exact gx
    rw [← hs] at C1 Hsl HCd
    have HC1 : Hid (∀ n, Calls Tryz.prog 63 #[.string s] (w.drewN n) fun e w' => e = .returned (.bool true) ∧ Below (w.drewN n).heap.size (w.drewN n) w') := C1
    clear gx hs hdl hss hsz C1
    by_cases h92 : d = 92
    · subst h92
      have Hz : Hid (escF t p = R) := by show _ = _; rw [← HE2.out]; rfl
      clear HE2
      go_enter Tryz.func56, Tryz.ntmps56
      go_wp2
      go_quiet (fail)
      go_wp2_with fail
      rw [Hsl.out]
      refine (HC1.out _).mono ?_
      rintro e w1 ⟨rfl, hB1⟩
      have hR1 : RB w1 b t p x c q := (HR0.out.drewN _).below hB1 (Nat.le_refl _)
      have HB1 : Hid (But w w1 b) := ((But.refl w b).drewN _).trans (But.of_below hB1)
      have C2 := HESC.out w1 hR1 hl
      rw [Hz.out] at C2
      clear hR1 hB1 Hz
      go_wp2_with fail
      refine C2.mono ?_
      rintro e w2 ⟨hB2, h2, h3⟩
      have HP2 : Hid (∀ u p', R = .ok u p' → e = .returned (.tuple #[.int .i32 u, .bool true]) ∧ RB w2 b t p' x c q) := h2
      have HP3 : Hid (∀ c' p', R = .bad c' p' → ∃ v, e = .returned (.tuple #[.int .i32 v, .bool false]) ∧ ∃ p2, RB w2 b t p2 x c' p') := h3
      clear h2 h3
      cases hRR : R with
      | ok u p' =>
        obtain ⟨rfl, hR3⟩ := HP2.out u p' hRR
        have HRR : Hid (R = .ok u p') := hRR
        clear HP2 HP3 hRR
        go_wp2
        go_ret2
        refine ⟨HB1.out.trans hB2, ?_, ?_⟩
        · intro u' p' e; rw [HRR.out] at e; cases e; exact ⟨rfl, hR3⟩
        · intro c' p' e; rw [HRR.out] at e; cases e
      | bad c' p' =>
        obtain ⟨v, rfl, p2, hR3⟩ := HP3.out c' p' hRR
        have HRR : Hid (R = .bad c' p') := hRR
        clear HP2 HP3 hRR
        go_wp2
        go_ret2
        refine ⟨HB1.out.trans hB2, ?_, ?_⟩
        · intro u' p' e; rw [HRR.out] at e; cases e
        · intro c' p' e; rw [HRR.out] at e; cases e; exact ⟨v, rfl, p2, hR3⟩
    · have h92n : ((d.toNat : Int) == 92) = false := by
        have : d.toNat ≠ 92 := fun e => h92 (UInt8.toNat_inj.1 e)
        simp; omega
      by_cases h32 : d < 32
      · have Hz : Hid (R = .bad 31 p) := by show _ = _; rw [← HE2.out, if_neg h92, if_pos h32]
        have h32n : d.toNat < 32 := h32
        have h32d : decide ((d.toNat : Int) < 32) = true := by simp; omega
        clear HE2 h32 h92
        go_enter Tryz.func56, Tryz.ntmps56
        go_wp2
        go_quiet (fail)
        go_wp2_with fail
        rw [Hsl.out]
        refine (HC1.out _).mono ?_
        rintro e w1 ⟨rfl, hB1⟩
        have hR1 : RB w1 b t p x c q := (HR0.out.drewN _).below hB1 (Nat.le_refl _)
        have HB1 : Hid (But w w1 b) := ((But.refl w b).drewN _).trans (But.of_below hB1)
        have C2 := HW.out w1 p hR1
        clear hR1 hB1
        go_wp2_with fail
        refine C2.mono ?_
        rintro e w2 ⟨rfl, hB2, hR2⟩
        go_wp2
        go_ret2
        refine ⟨HB1.out.trans hB2, ?_, ?_⟩
        · intro u' p' e; rw [Hz.out] at e; cases e
        · intro c' p' e; rw [Hz.out] at e; cases e; exact ⟨0, rfl, _, hR2⟩
      · have h32n : ¬ d.toNat < 32 := h32
        have h32d : decide ((d.toNat : Int) < 32) = false := by simp; omega
        have HE3 : Hid ((if dr = 65533 ∧ ds = 1 then .bad 32 p else Lx.ok (dr : Int) (p + ds)) = R) := by show _ = _; rw [← HE2.out, if_neg h92, if_neg h32]
        clear HE2 h32 h92
        by_cases hbad : dr = 65533 ∧ ds = 1
        · have Hz : Hid (R = .bad 32 p) := by show _ = _; rw [← HE3.out, if_pos hbad]
          obtain ⟨rfl, rfl⟩ := hbad
          clear HE3
          go_enter Tryz.func56, Tryz.ntmps56
          go_wp2
          go_quiet (fail)
          go_wp2_with fail
          rw [Hsl.out]
          refine (HC1.out _).mono ?_
          rintro e w1 ⟨rfl, hB1⟩
          have C2 := HCd.out w1 ((HTT.out.drewN _).below hB1)
          have HR1 : Hid (RB w1 b t p x c q) := (HR0.out.drewN _).below hB1 (Nat.le_refl _)
          have HB1 : Hid (But w w1 b) := ((But.refl w b).drewN _).trans (But.of_below hB1)
          clear hB1
          go_wp2_with fail
          refine C2.mono ?_
          rintro e w2 ⟨rfl, hB2⟩
          have hR2 : RB w2 b t p x c q := HR1.out.below hB2 (Nat.le_refl _)
          have HB2 : Hid (But w w2 b) := HB1.out.trans (But.of_below hB2)
          have c12 := hR2.c1
          have C3 := HF.out w2 p 32 (p : Int) hR2
          clear hB2 hR2
          go_wp2_with fail
          refine C3.mono ?_
          rintro e w3 ⟨rfl, hB3, hR3⟩
          go_wp2
          go_ret2
          refine ⟨HB2.out.trans hB3, ?_, ?_⟩
          · intro u' p' e; rw [Hz.out] at e; cases e
          · intro c' p' e; rw [Hz.out] at e; cases e; exact ⟨0, rfl, _, hR3⟩
        · have Hz : Hid (R = .ok (dr : Int) (p + ds)) := by show _ = _; rw [← HE3.out, if_neg hbad]
          have hq : ((dr : Int) == 65533) = false ∨ (((dr : Int) == 65533) = true ∧ ((ds : Int) == 1) = false) := by
            by_cases h1 : dr = 65533
            · right
              refine ⟨by simp; omega, ?_⟩
              have : ds ≠ 1 := fun e => hbad ⟨h1, e⟩
              simp; omega
            · left; simp; omega
          clear HE3 hbad
          rcases hq with hq | ⟨hq, hq2⟩
          all_goals
            go_enter Tryz.func56, Tryz.ntmps56
            go_wp2
            go_quiet (fail)
            go_wp2_with fail
            rw [Hsl.out]
            refine (HC1.out _).mono ?_
            rintro e w1 ⟨rfl, hB1⟩
            have C2 := HCd.out w1 ((HTT.out.drewN _).below hB1)
            have HR1 : Hid (RB w1 b t p x c q) := (HR0.out.drewN _).below hB1 (Nat.le_refl _)
            have HB1 : Hid (But w w1 b) := ((But.refl w b).drewN _).trans (But.of_below hB1)
            clear hB1
            go_wp2_with fail
            refine C2.mono ?_
            rintro e w2 ⟨rfl, hB2⟩
            have hR2 : RB w2 b t p x c q := HR1.out.below hB2 (Nat.le_refl _)
            have HB2 : Hid (But w (w2.setCell ⟨b, 1, none⟩ (.int .i64 (p + ds : Nat))) b) := (HB1.out.trans (But.of_below hB2)).set _ _
            have HR3 : Hid (RB (w2.setCell ⟨b, 1, none⟩ (.int .i64 (p + ds : Nat))) b t (p + ds) x c q) := hR2.pos (p + ds)
            have c12 := hR2.c1
            have f12 := hR2.fz 1
            clear hB2 hR2
            go_wp2
            go_ret2
            refine ⟨HB2.out, ?_, ?_⟩
            · intro u' p' e; rw [Hz.out] at e; cases e; exact ⟨rfl, HR3.out⟩
            · intro c' p' e; rw [Hz.out] at e; cases e

end Go.Proofs.YtjehkpndchadbaaGreatDoor

namespace Go.Proofs.YtjehkpndchadbaaGreatDoor
open Go.RowKit Go.Shelf

theorem escF_rg {t : List UInt8} {p q : Nat} {r : Int} (h : escF t p = .ok r q) : 0 ≤ r ∧ r < 1114112 := by
  unfold escF at h
  split at h
  · simp only at h
    split at h
    · unfold pointF at h
      split at h
      · cases h
      · rename_i hi q1 e1
        have a1 := unitF_rg 4 0 _ hi q1 e1
        have a2 : hi < 65536 := by have := a1.2.1; omega
        split at h
        · cases h
          omega
        · rename_i hn
          unfold pairF at h
          split at h
          · cases h
          · split at h
            · cases h
            · rename_i lo q3 e3
              have b1 := unitF_rg 4 0 _ lo _ e3
              have b2 := awF_second (b1.2.2 (by omega))
              cases h
              omega
    · split at h
      · cases h; omega
      · split at h
        · rename_i r' er
          cases h
          unfold escL at er
          split at er
          · cases er
          · cases er
            have : (escB.getD (Lib.indexByte escS (t.getD (p + 1) 0)).toNat 0).toNat < 256 := UInt8.toNat_lt _
            omega
        · cases h
  · cases h

theorem chrF_rg {t : List UInt8} {p q : Nat} {r : Int} (h : chrF t p = .ok r q) : 0 ≤ r ∧ r < 1114112 := by
  unfold chrF at h
  simp only at h
  split at h
  · cases h
  · split at h
    · exact escF_rg h
    · split at h
      · cases h
      · split at h
        · cases h
        · cases h
          have := Lib.decodeL_rune (t.drop p)
          omega

theorem conv_any (w : World) (a : Option Addr) (c : Nat) (l : List UInt8) (h : Rd w a l) : (convert 95 9 (.slice a l.length c)).run Tryz.prog w = .ok (.string ⟨l.toArray⟩) w := by
  rcases h with h | ⟨g, off, rfl, hg, hc⟩
  · subst h
    rw [run_convert_bytes_string w 95 9 5 a ([] : List UInt8).length c Tryz.underlying95 Tryz.underlying5 Tryz.underlying9]
    cases a <;> simp [Conv.bytesToString, loadCells] <;> rfl
  · refine run_convert_bytes_back w 95 9 5 ⟨g, off, none⟩ c l Tryz.underlying95 Tryz.underlying5 Tryz.underlying9 ?_
    intro j hj
    rw [Addr.add_mid, hc j hj, List.getD_eq_getElem?_getD, List.getElem?_eq_getElem hj]
    rfl

theorem rowF_rd {w : World} {base : Nat} {v : Value} {l : List UInt8} (h : w.ownsRowF base 5 1 v l.length (l.map B)) : ∃ a c, v = .slice a l.length c ∧ Rd w a l := by
  rcases h.2 with ⟨hv, hn⟩ | ⟨g, cap, cur, fz, hv, hb, hg, hf, hc1, hc2, hs, ht⟩
  · have : l = [] := List.eq_nil_of_length_eq_zero hn
    subst this
    exact ⟨none, 0, hv, .inl rfl⟩
  · refine ⟨_, cap, hv, .inr ⟨g, 0, rfl, (Array.getElem?_eq_some_iff.1 hg).1, fun j hj => ?_⟩⟩
    have := h.cells (g := g) (by rw [hv]; rfl) j (B (l.getD j 0)) (by simp [List.getD_eq_getElem?_getD, hj])
    rw [Addr.add_mid] at this
    exact this

theorem rowF_type {w : World} {base n size : Nat} {e : TypeId} {v : Value} {xs : List Value} (h : w.ownsRowF base e size v n xs) {g : Nat} (hg : v.ownBlock = some g) : ∃ cur fz, w.heap[g]? = some (.cells cur e fz) := by
  rcases h.2 with ⟨h', _⟩ | ⟨g', cap', cur, fz, h', _, hg', _⟩
  · subst h'; simp [Value.ownBlock] at hg
  · subst h'
    simp only [Value.ownBlock, Option.some.injEq] at hg
    subst hg
    exact ⟨cur, fz, hg'⟩
theorem rowF_ne {w : World} {base n size : Nat} {e t : TypeId} {v : Value} {xs vs : List Value} {b : Nat} (h : w.ownsRowF base e size v n xs) (h2 : Bl t w b vs) (hne : e ≠ t) : v.ownBlock ≠ some b := by
  intro hg
  obtain ⟨cur, fz, hc⟩ := rowF_type h hg
  unfold Bl at h2
  rw [hc] at h2
  simp only [Option.some.injEq, Obj.cells.injEq] at h2
  exact hne h2.2.1
theorem rowF_keep {w w' : World} {base n size : Nat} {e : TypeId} {v : Value} {xs : List Value} (h : w.ownsRowF base e size v n xs) (hk : ∀ g, v.ownBlock = some g → w'.heap[g]? = w.heap[g]?) : w'.ownsRowF base e size v n xs := by
  refine ⟨h.1, ?_⟩
  rcases h.2 with h' | ⟨g', cap', cur, fz, h', h1, hg', h2⟩
  · exact .inl h'
  · exact .inr ⟨g', cap', cur, fz, h', h1, by rw [hk g' (by rw [h']; rfl)]; exact hg', h2⟩
theorem rowF_but {w w' : World} {base n size : Nat} {e t : TypeId} {v : Value} {xs vs : List Value} {b : Nat} (h : w.ownsRowF base e size v n xs) (h2 : Bl t w b vs) (hne : e ≠ t) (hb : But w w' b) : w'.ownsRowF base e size v n xs :=
  rowF_keep h fun g hg => hb.block g (h.lt g hg).2 fun e => rowF_ne h h2 hne (by rw [hg, e])

theorem U8.but {w w' : World} {b : Nat} {t : List UInt8} {p : Nat} {x : X5} {c q : Int} (h : U8 w) (hr : RB w b t p x c q) (hb : But w w' b) : U8 w' := by
  have c0 := hr.c0
  have h3 := h.1 0 (by omega)
  have h4 := (h.2 0 (by omega)).1
  have n3 : 1 ≠ b := fun e => by rw [← e, h3] at c0; cases c0
  have n4 : 2 ≠ b := fun e => by rw [← e] at c0; rw [Nat.mul_zero] at h4; rw [h4] at c0; cases c0
  exact ⟨fun c hc => cell_but (h.1 c hc) fun hg => hb.block _ hg n3, fun i hi => ⟨cell_but (h.2 i hi).1 fun hg => hb.block _ hg n4, cell_but (h.2 i hi).2 fun hg => hb.block _ hg n4⟩⟩

theorem infoU8 : (Tryz.prog.info? 5).map (fun i => (i.zero, i.size, i.bytes)) = some (some (.int .u8 0), 1, 1) := by kernel_rfl

theorem runeCells_B (r : Int) : Lib.runeCells r = (Lib.encodeRune r).map B := by
  unfold Lib.runeCells Lib.encodeRune
  rw [List.map_map]
  refine List.map_congr_left fun z hz => ?_
  have := Lib.encodeRuneZ_byte r z hz
  simp only [Function.comp_apply, B]
  congr 1
  have h1 : z.toNat.toUInt8.toNat = z.toNat := by
    have h2 : z.toNat.toUInt8.toNat = z.toNat % 256 := by simp
    rw [h2]
    omega
  rw [h1]
  omega
theorem encodeRune_len (r : Int) : 1 ≤ (Lib.encodeRune r).length ∧ (Lib.encodeRune r).length ≤ 4 := by
  unfold Lib.encodeRune
  rw [List.length_map]
  exact Lib.encodeRuneZ_length r

theorem appendRune_any (base : Nat) (v : Value) (l : List UInt8) (r : Int) (w : World) (hr0 : 0 ≤ r) (hr1 : r < 1114112) (h : w.ownsRowF base 5 1 v l.length (l.map B)) (hl : l.length ≤ 10000000000) (hb : base ≤ w.heap.size) :
    Calls Tryz.prog 57 #[v, .int .i32 r] w fun e w' => ∃ v', e = .returned v' ∧ w'.ownsRowF base 5 1 v' (l ++ Lib.encodeRune r).length ((l ++ Lib.encodeRune r).map B) ∧ (∀ k, k < w.heap.size → some k ≠ v.ownBlock → w'.heap[k]? = w.heap[k]?) ∧ w.heap.size ≤ w'.heap.size ∧ w'.os = w.os ∧ w'.tape = w.tape ∧ w'.output = w.output := by
  have C := Any.utf8_AppendRune_row Tryz.laysApp infoU8 base v l.length (l.map B) r (by omega) (by omega) w h (by omega) hb
  refine C.mono ?_
  rintro e w' ⟨v', he, ho, o, hg⟩
  have hs := hg.size
  rw [alloc_size] at hs
  refine ⟨v', he, ?_, fun k hk hne => ?_, by omega, hg.os, hg.tape, hg.output⟩
  · rw [List.map_append, ← runeCells_B, List.length_append, ← Lib.runeCells_length]
    exact ho
  · rw [hg.block k (by rw [alloc_size]; omega) hne]
    exact (alloc_below w o).block k hk

end Go.Proofs.YtjehkpndchadbaaGreatDoor
