import Derived.Test.YtjehkpndchadbaaGreatDoorRY
import Derived.Test.YtjehkpndchadbaaGreatDoorShelf
namespace Go.Proofs.YtjehkpndchadbaaGreatDoor
open Go.RowKit Go.Shelf

theorem clone_any (l : List UInt8) (w : World) (hl : l.length ≤ 1073741824) : Calls Tryz.prog 59 #[.string ⟨l.toArray⟩] w fun e w' => e = .returned (.string ⟨l.toArray⟩) ∧ Below w.heap.size w w' := by
  have c : Calls Tryz.prog 67 #[.string ⟨l.toArray⟩] w fun e w' => e = .returned (.string ⟨l.toArray⟩) ∧ Below w.heap.size w w' :=
    Any.stringslite_Clone Tryz.laysClone ⟨l.toArray⟩ w (by show l.toArray.size ≤ _; simp; omega)
  go_enter Tryz.func59, Tryz.ntmps59
  go_wp2_with fail
  refine c.mono ?_
  rintro e w1 ⟨rfl, hB⟩
  go_wp2
  go_ret
  exact ⟨rfl, hB⟩

theorem ext_sgl (t : List UInt8) (a b : Nat) : (⟨t.toArray⟩ : ByteArray).extract a b = ⟨(sgl t a b).toArray⟩ := by rw [Lib.extract_eq]; rfl
theorem sgl_le (t : List UInt8) (a b : Nat) : (sgl t a b).length ≤ t.length := by unfold sgl; rw [List.length_take, List.length_drop]; omega
theorem stp_eq (c : Bool) (p : Nat) : stp c p = if c = true then p + 1 else p := rfl
theorem stp_le {t set : List UInt8} {p : Nat} (h : p ≤ t.length) : stp (tk t set p) p ≤ t.length := by
  unfold stp
  split
  · rename_i e
    exact tk_lt e
  · exact h

set_option maxRecDepth 100000 in
set_option maxHeartbeats 4000000 in
theorem number_any (w : World) (b : Nat) (t : List UInt8) (p : Nat) (x : X5) (c q : Int) (h : RB w b t p x c q) (hp : p ≤ t.length) (ht : t.length ≤ 1073741824) :
    Calls Tryz.prog 49 #[.pointer (some ⟨b, 0, none⟩)] w fun e w' => But w w' b ∧
      (∀ u p', numL t p = .ok u p' → e = .returned (.tuple #[.string ⟨(sgl t p p').toArray⟩, .bool true]) ∧ RB w' b t p' x c q) ∧
      (∀ c' p', numL t p = .bad c' p' → e = .returned (.tuple #[.string ⟨#[]⟩, .bool false]) ∧ ∃ p2, RB w' b t p2 x c' p') := by
  have c1 := h.c1
  have HQ : Hid (∀ u p', numL t p = .ok u p' → p ≤ p' ∧ p' ≤ t.length) := fun u p' e => by have := numL_ok e; omega
  obtain ⟨R, hR⟩ : ∃ R, numL t p = R := ⟨_, rfl⟩
  rw [hR] at HQ ⊢
  have HK0 : Hid (numL t p = R) := hR
  have HT : Hid (∀ (w : World) (k : Nat) (set : List UInt8), RB w b t k x c q → k ≤ t.length → Calls Tryz.prog 31 #[.pointer (some ⟨b, 0, none⟩), .string ⟨set.toArray⟩] w fun e w' => e = .returned (.bool (tk t set k)) ∧ But w w' b ∧ RB w' b t (stp (tk t set k) k) x c q) := fun w k set h hk => take_any w b t set k x c q h hk ht
  have HD : Hid (∀ (w : World) (k : Nat), RB w b t k x c q → k ≤ t.length → Calls Tryz.prog 58 #[.pointer (some ⟨b, 0, none⟩)] w fun e w' => e = .returned (.bool (tk t digitsS k)) ∧ But w w' b ∧ RB w' b t (skp t digitsS k) x c q) := fun w k h hk => digits_any w b t k x c q h hk ht
  have HW : Hid (∀ (w : World) (k : Nat), RB w b t k x c q → Calls Tryz.prog 32 #[.pointer (some ⟨b, 0, none⟩)] w fun e w' => e = .returned (.bool false) ∧ But w w' b ∧ RB w' b t k x 31 k) := fun w k h => wrong_any w b t k x c q h
  have HB0 : Hid (But w w b) := But.refl _ _
  have HR0 : Hid (RB w b t p x c q) := h
  clear h hR
  go_enter Tryz.func49, Tryz.ntmps49
  go_wp2_with fail
  have C1 := HT.out w p [45] HR0.out hp
  refine C1.mono ?_
  clear C1
  rintro e w1 ⟨rfl, hB1, hR1⟩
  have HB1 : Hid (But w w1 b) := hB1
  clear hB1
  obtain ⟨p1, hp1⟩ : ∃ p1, p1 = stp (tk t [45] p) p := ⟨_, rfl⟩
  rw [← hp1] at hR1
  have HK1 : Hid (numI t p1 = R) := by show _ = _; rw [← HK0.out]; unfold numL; rw [hp1, stp_eq]
  have hl1 : p1 ≤ t.length := by rw [hp1]; exact stp_le hp
  have HR1 : Hid (RB w1 b t p1 x c q) := hR1
  clear hp1 hR1
  have C2 := HT.out w1 p1 [48] HR1.out hl1
  go_wp2_with fail
  refine C2.mono ?_
  clear C2
  rintro e w2 ⟨rfl, hB2, hR2⟩
  have HB2 : Hid (But w w2 b) := HB1.out.trans hB2
  clear hB2
  cases hs2 : tk t [48] p1
  · rw [hs2] at hR2
    have HR2 : Hid (RB w2 b t p1 x c q) := hR2
    clear hR2
    have C3 := HD.out w2 p1 HR2.out hl1
    go_wp2_with fail
    refine C3.mono ?_
    clear C3
    rintro e w3 ⟨rfl, hB3, hR3⟩
    have HB3 : Hid (But w w3 b) := HB2.out.trans hB3
    clear hB3
    cases hs3 : tk t digitsS p1
    · have hz : skp t digitsS p1 = p1 := skp_stop hs3
      rw [hz] at hR3
      have HK3 : Hid (R = Lx.bad 31 p1) := by show _ = _; rw [← HK1.out]; unfold numI; rw [hs2, if_neg Bool.false_ne_true, hs3]; rfl
      clear hs3 hs2 hz
      have HR3 : Hid (RB w3 b t (p1) x c q) := hR3
      clear hR3
      have C9 := HW.out w3 (p1) HR3.out
      go_wp2_with fail
      refine C9.mono ?_
      rintro e w9 ⟨rfl, hB9, hR9⟩
      go_wp2
      go_ret2
      refine ⟨HB3.out.trans hB9, ?_, ?_⟩
      · intro u p' e; rw [HK3.out] at e; cases e
      · intro c' p' e; rw [HK3.out] at e; cases e; exact ⟨rfl, _, hR9⟩
    · have hd3 := skp_dg hs3
      have HK3 : Hid (numF t (skp t digitsS p1) = R) := by show _ = _; rw [← HK1.out]; conv => rhs; unfold numI; rw [hs2, if_neg Bool.false_ne_true, hs3, if_pos rfl]
      generalize skp t digitsS p1 = s3 at hR3 HK3 hd3
      clear hs3 hs2
      have HR3 : Hid (RB w3 b t (s3) x c q) := hR3
      clear hR3
      have C11 := HT.out w3 (s3) [46] HR3.out (by omega)
      go_wp2_with fail
      refine C11.mono ?_
      clear C11
      rintro e w11 ⟨rfl, hB11, hR11⟩
      have HB11 : Hid (But w w11 b) := HB3.out.trans hB11
      clear hB11
      cases hs11 : tk t [46] (s3)
      · have HK11 : Hid (numE t (s3) = R) := by show _ = _; rw [← HK3.out]; conv => rhs; unfold numF; rw [hs11, if_neg Bool.false_ne_true]
        rw [hs11] at hR11
        have HR11 : Hid (RB w11 b t (s3) x c q) := hR11
        clear hR11
        clear hs11
        have C12 := HT.out w11 (s3) [101, 69] HR11.out (by omega)
        go_wp2_with fail
        refine C12.mono ?_
        clear C12
        rintro e w12 ⟨rfl, hB12, hR12⟩
        have HB12 : Hid (But w w12 b) := HB11.out.trans hB12
        clear hB12
        cases hs12 : tk t [101, 69] (s3)
        · have HK12 : Hid (Lx.ok () (s3) = R) := by rw [← HK11.out]; unfold numE; rw [hs12]; rfl
          rw [hs12] at hR12
          have HR12 : Hid (RB w12 b t (s3) x c q) := hR12
          clear hR12
          clear hs12
          have Hz : Hid (R = .ok () (s3)) := HK12.out.symm
          obtain ⟨pz, hpz⟩ : ∃ pz, pz = s3 := ⟨_, rfl⟩
          rw [← hpz] at Hz
          have HRz : Hid (RB w12 b t pz x c q) := by rw [hpz]; exact HR12.out
          have hpq : p ≤ pz ∧ pz ≤ t.length := HQ.out _ _ Hz.out
          have c0z := HRz.out.c0
          have c1z := HRz.out.c1
          have hp1 := hpq.1
          have hp2 := hpq.2
          have Hsl : Hid ((⟨t.toArray⟩ : ByteArray).extract p pz = ⟨(sgl t p pz).toArray⟩) := ext_sgl t p pz
          have HCl : Hid (∀ w, Calls Tryz.prog 59 #[.string ⟨(sgl t p pz).toArray⟩] w fun e w' => e = .returned (.string ⟨(sgl t p pz).toArray⟩) ∧ Below w.heap.size w w') := fun w => clone_any _ w (by have := sgl_le t p pz; omega)
          clear hpq hpz
          go_wp2
          refine wp_region_tail 10 (by kernel_rfl) (by kernel_rfl) ?_
          simp only [List.take_succ_cons, List.take_zero, List.drop_succ_cons, List.drop_zero]
          repeat (first | go_big_quiet_skip | (go_big_quiet_want; go_big_quiet_op; go_big_quiet_on))
          refine wpQuiet_nil ?_
          go_wp2_with fail
          rw [Hsl.out]
          refine (HCl.out _).mono ?_
          rintro e wz ⟨rfl, hBz⟩
          go_wp2
          go_ret2
          refine ⟨(HB12.out.drewN 1).trans (But.of_below hBz), ?_, ?_⟩
          · intro u p' e; rw [Hz.out] at e; cases e; exact ⟨rfl, (HRz.out.drewN 1).below hBz (Nat.le_refl _)⟩
          · intro c' p' e; rw [Hz.out] at e; cases e
        · have hl12 := tk_lt hs12
          rw [hs12] at hR12
          have HR12 : Hid (RB w12 b t (s3 + 1) x c q) := hR12
          clear hR12
          have C13 := HT.out w12 (s3 + 1) [43, 45] HR12.out (by omega)
          go_wp2_with fail
          refine C13.mono ?_
          clear C13
          rintro e w13 ⟨rfl, hB13, hR13⟩
          have HB13 : Hid (But w w13 b) := HB12.out.trans hB13
          clear hB13
          obtain ⟨p13, hp13⟩ : ∃ p13, p13 = stp (tk t [43, 45] (s3 + 1)) (s3 + 1) := ⟨_, rfl⟩
          rw [← hp13] at hR13
          have HK13 : Hid ((if tk t digitsS p13 then Lx.ok () (skp t digitsS p13) else Lx.bad 31 p13) = R) := by rw [← HK11.out]; unfold numE; rw [hs12, if_pos rfl, hp13, stp_eq]; rfl
          have hl13 : p13 ≤ t.length := by rw [hp13]; exact stp_le (by omega)
          clear hs12 hp13
          have HR13 : Hid (RB w13 b t (p13) x c q) := hR13
          clear hR13
          have C14 := HD.out w13 p13 HR13.out (by omega)
          go_wp2_with fail
          refine C14.mono ?_
          clear C14
          rintro e w14 ⟨rfl, hB14, hR14⟩
          have HB14 : Hid (But w w14 b) := HB13.out.trans hB14
          clear hB14
          cases hs14 : tk t digitsS p13
          · have hz : skp t digitsS p13 = p13 := skp_stop hs14
            rw [hz] at hR14
            have HK14 : Hid (R = Lx.bad 31 p13) := by show _ = _; rw [← HK13.out, hs14]; rfl
            clear hs14 hz
            have HR14 : Hid (RB w14 b t (p13) x c q) := hR14
            clear hR14
            have C9 := HW.out w14 (p13) HR14.out
            go_wp2_with fail
            refine C9.mono ?_
            rintro e w9 ⟨rfl, hB9, hR9⟩
            go_wp2
            go_ret2
            refine ⟨HB14.out.trans hB9, ?_, ?_⟩
            · intro u p' e; rw [HK14.out] at e; cases e
            · intro c' p' e; rw [HK14.out] at e; cases e; exact ⟨rfl, _, hR9⟩
          · have hd14 := skp_dg hs14
            have HK14 : Hid (Lx.ok () (skp t digitsS p13) = R) := by show _ = _; rw [← HK13.out, hs14]; rfl
            generalize skp t digitsS p13 = s14 at hR14 HK14 hd14
            clear hs14
            have HR14 : Hid (RB w14 b t (s14) x c q) := hR14
            clear hR14
            have Hz : Hid (R = .ok () (s14)) := HK14.out.symm
            obtain ⟨pz, hpz⟩ : ∃ pz, pz = s14 := ⟨_, rfl⟩
            rw [← hpz] at Hz
            have HRz : Hid (RB w14 b t pz x c q) := by rw [hpz]; exact HR14.out
            have hpq : p ≤ pz ∧ pz ≤ t.length := HQ.out _ _ Hz.out
            have c0z := HRz.out.c0
            have c1z := HRz.out.c1
            have hp1 := hpq.1
            have hp2 := hpq.2
            have Hsl : Hid ((⟨t.toArray⟩ : ByteArray).extract p pz = ⟨(sgl t p pz).toArray⟩) := ext_sgl t p pz
            have HCl : Hid (∀ w, Calls Tryz.prog 59 #[.string ⟨(sgl t p pz).toArray⟩] w fun e w' => e = .returned (.string ⟨(sgl t p pz).toArray⟩) ∧ Below w.heap.size w w') := fun w => clone_any _ w (by have := sgl_le t p pz; omega)
            clear hpq hpz
            go_wp2
            refine wp_region_tail 10 (by kernel_rfl) (by kernel_rfl) ?_
            simp only [List.take_succ_cons, List.take_zero, List.drop_succ_cons, List.drop_zero]
            repeat (first | go_big_quiet_skip | (go_big_quiet_want; go_big_quiet_op; go_big_quiet_on))
            refine wpQuiet_nil ?_
            go_wp2_with fail
            rw [Hsl.out]
            refine (HCl.out _).mono ?_
            rintro e wz ⟨rfl, hBz⟩
            go_wp2
            go_ret2
            refine ⟨(HB14.out.drewN 1).trans (But.of_below hBz), ?_, ?_⟩
            · intro u p' e; rw [Hz.out] at e; cases e; exact ⟨rfl, (HRz.out.drewN 1).below hBz (Nat.le_refl _)⟩
            · intro c' p' e; rw [Hz.out] at e; cases e
      · have hl11 := tk_lt hs11
        rw [hs11] at hR11
        have HR11 : Hid (RB w11 b t (s3 + 1) x c q) := hR11
        clear hR11
        have C15 := HD.out w11 (s3 + 1) HR11.out (by omega)
        go_wp2_with fail
        refine C15.mono ?_
        clear C15
        rintro e w15 ⟨rfl, hB15, hR15⟩
        have HB15 : Hid (But w w15 b) := HB11.out.trans hB15
        clear hB15
        cases hs15 : tk t digitsS (s3 + 1)
        · have hz : skp t digitsS (s3 + 1) = s3 + 1 := skp_stop hs15
          rw [hz] at hR15
          have HK15 : Hid (R = Lx.bad 31 (s3 + 1)) := by show _ = _; rw [← HK3.out]; unfold numF; rw [hs11, if_pos rfl, hs15]; rfl
          clear hs15 hs11 hz
          have HR15 : Hid (RB w15 b t (s3 + 1) x c q) := hR15
          clear hR15
          have C9 := HW.out w15 (s3 + 1) HR15.out
          go_wp2_with fail
          refine C9.mono ?_
          rintro e w9 ⟨rfl, hB9, hR9⟩
          go_wp2
          go_ret2
          refine ⟨HB15.out.trans hB9, ?_, ?_⟩
          · intro u p' e; rw [HK15.out] at e; cases e
          · intro c' p' e; rw [HK15.out] at e; cases e; exact ⟨rfl, _, hR9⟩
        · have hd15 := skp_dg hs15
          have HK15 : Hid (numE t (skp t digitsS (s3 + 1)) = R) := by show _ = _; rw [← HK3.out]; conv => rhs; unfold numF; rw [hs11, if_pos rfl, hs15, if_pos rfl]
          generalize skp t digitsS (s3 + 1) = s15 at hR15 HK15 hd15
          clear hs15 hs11
          have HR15 : Hid (RB w15 b t (s15) x c q) := hR15
          clear hR15
          have C16 := HT.out w15 (s15) [101, 69] HR15.out (by omega)
          go_wp2_with fail
          refine C16.mono ?_
          clear C16
          rintro e w16 ⟨rfl, hB16, hR16⟩
          have HB16 : Hid (But w w16 b) := HB15.out.trans hB16
          clear hB16
          cases hs16 : tk t [101, 69] (s15)
          · have HK16 : Hid (Lx.ok () (s15) = R) := by rw [← HK15.out]; unfold numE; rw [hs16]; rfl
            rw [hs16] at hR16
            have HR16 : Hid (RB w16 b t (s15) x c q) := hR16
            clear hR16
            clear hs16
            have Hz : Hid (R = .ok () (s15)) := HK16.out.symm
            obtain ⟨pz, hpz⟩ : ∃ pz, pz = s15 := ⟨_, rfl⟩
            rw [← hpz] at Hz
            have HRz : Hid (RB w16 b t pz x c q) := by rw [hpz]; exact HR16.out
            have hpq : p ≤ pz ∧ pz ≤ t.length := HQ.out _ _ Hz.out
            have c0z := HRz.out.c0
            have c1z := HRz.out.c1
            have hp1 := hpq.1
            have hp2 := hpq.2
            have Hsl : Hid ((⟨t.toArray⟩ : ByteArray).extract p pz = ⟨(sgl t p pz).toArray⟩) := ext_sgl t p pz
            have HCl : Hid (∀ w, Calls Tryz.prog 59 #[.string ⟨(sgl t p pz).toArray⟩] w fun e w' => e = .returned (.string ⟨(sgl t p pz).toArray⟩) ∧ Below w.heap.size w w') := fun w => clone_any _ w (by have := sgl_le t p pz; omega)
            clear hpq hpz
            go_wp2
            refine wp_region_tail 10 (by kernel_rfl) (by kernel_rfl) ?_
            simp only [List.take_succ_cons, List.take_zero, List.drop_succ_cons, List.drop_zero]
            repeat (first | go_big_quiet_skip | (go_big_quiet_want; go_big_quiet_op; go_big_quiet_on))
            refine wpQuiet_nil ?_
            go_wp2_with fail
            rw [Hsl.out]
            refine (HCl.out _).mono ?_
            rintro e wz ⟨rfl, hBz⟩
            go_wp2
            go_ret2
            refine ⟨(HB16.out.drewN 1).trans (But.of_below hBz), ?_, ?_⟩
            · intro u p' e; rw [Hz.out] at e; cases e; exact ⟨rfl, (HRz.out.drewN 1).below hBz (Nat.le_refl _)⟩
            · intro c' p' e; rw [Hz.out] at e; cases e
          · have hl16 := tk_lt hs16
            rw [hs16] at hR16
            have HR16 : Hid (RB w16 b t (s15 + 1) x c q) := hR16
            clear hR16
            have C17 := HT.out w16 (s15 + 1) [43, 45] HR16.out (by omega)
            go_wp2_with fail
            refine C17.mono ?_
            clear C17
            rintro e w17 ⟨rfl, hB17, hR17⟩
            have HB17 : Hid (But w w17 b) := HB16.out.trans hB17
            clear hB17
            obtain ⟨p17, hp17⟩ : ∃ p17, p17 = stp (tk t [43, 45] (s15 + 1)) (s15 + 1) := ⟨_, rfl⟩
            rw [← hp17] at hR17
            have HK17 : Hid ((if tk t digitsS p17 then Lx.ok () (skp t digitsS p17) else Lx.bad 31 p17) = R) := by rw [← HK15.out]; unfold numE; rw [hs16, if_pos rfl, hp17, stp_eq]; rfl
            have hl17 : p17 ≤ t.length := by rw [hp17]; exact stp_le (by omega)
            clear hs16 hp17
            have HR17 : Hid (RB w17 b t (p17) x c q) := hR17
            clear hR17
            have C18 := HD.out w17 p17 HR17.out (by omega)
            go_wp2_with fail
            refine C18.mono ?_
            clear C18
            rintro e w18 ⟨rfl, hB18, hR18⟩
            have HB18 : Hid (But w w18 b) := HB17.out.trans hB18
            clear hB18
            cases hs18 : tk t digitsS p17
            · have hz : skp t digitsS p17 = p17 := skp_stop hs18
              rw [hz] at hR18
              have HK18 : Hid (R = Lx.bad 31 p17) := by show _ = _; rw [← HK17.out, hs18]; rfl
              clear hs18 hz
              have HR18 : Hid (RB w18 b t (p17) x c q) := hR18
              clear hR18
              have C9 := HW.out w18 (p17) HR18.out
              go_wp2_with fail
              refine C9.mono ?_
              rintro e w9 ⟨rfl, hB9, hR9⟩
              go_wp2
              go_ret2
              refine ⟨HB18.out.trans hB9, ?_, ?_⟩
              · intro u p' e; rw [HK18.out] at e; cases e
              · intro c' p' e; rw [HK18.out] at e; cases e; exact ⟨rfl, _, hR9⟩
            · have hd18 := skp_dg hs18
              have HK18 : Hid (Lx.ok () (skp t digitsS p17) = R) := by show _ = _; rw [← HK17.out, hs18]; rfl
              generalize skp t digitsS p17 = s18 at hR18 HK18 hd18
              clear hs18
              have HR18 : Hid (RB w18 b t (s18) x c q) := hR18
              clear hR18
              have Hz : Hid (R = .ok () (s18)) := HK18.out.symm
              obtain ⟨pz, hpz⟩ : ∃ pz, pz = s18 := ⟨_, rfl⟩
              rw [← hpz] at Hz
              have HRz : Hid (RB w18 b t pz x c q) := by rw [hpz]; exact HR18.out
              have hpq : p ≤ pz ∧ pz ≤ t.length := HQ.out _ _ Hz.out
              have c0z := HRz.out.c0
              have c1z := HRz.out.c1
              have hp1 := hpq.1
              have hp2 := hpq.2
              have Hsl : Hid ((⟨t.toArray⟩ : ByteArray).extract p pz = ⟨(sgl t p pz).toArray⟩) := ext_sgl t p pz
              have HCl : Hid (∀ w, Calls Tryz.prog 59 #[.string ⟨(sgl t p pz).toArray⟩] w fun e w' => e = .returned (.string ⟨(sgl t p pz).toArray⟩) ∧ Below w.heap.size w w') := fun w => clone_any _ w (by have := sgl_le t p pz; omega)
              clear hpq hpz
              go_wp2
              refine wp_region_tail 10 (by kernel_rfl) (by kernel_rfl) ?_
              simp only [List.take_succ_cons, List.take_zero, List.drop_succ_cons, List.drop_zero]
              repeat (first | go_big_quiet_skip | (go_big_quiet_want; go_big_quiet_op; go_big_quiet_on))
              refine wpQuiet_nil ?_
              go_wp2_with fail
              rw [Hsl.out]
              refine (HCl.out _).mono ?_
              rintro e wz ⟨rfl, hBz⟩
              go_wp2
              go_ret2
              refine ⟨(HB18.out.drewN 1).trans (But.of_below hBz), ?_, ?_⟩
              · intro u p' e; rw [Hz.out] at e; cases e; exact ⟨rfl, (HRz.out.drewN 1).below hBz (Nat.le_refl _)⟩
              · intro c' p' e; rw [Hz.out] at e; cases e
  · have hl2 := tk_lt hs2
    have HK2 : Hid (numF t (p1 + 1) = R) := by show _ = _; rw [← HK1.out]; conv => rhs; unfold numI; rw [hs2, if_pos rfl]
    rw [hs2] at hR2
    have HR2 : Hid (RB w2 b t (p1 + 1) x c q) := hR2
    clear hR2 hs2
    have C19 := HT.out w2 (p1 + 1) [46] HR2.out (by omega)
    go_wp2_with fail
    refine C19.mono ?_
    clear C19
    rintro e w19 ⟨rfl, hB19, hR19⟩
    have HB19 : Hid (But w w19 b) := HB2.out.trans hB19
    clear hB19
    cases hs19 : tk t [46] (p1 + 1)
    · have HK19 : Hid (numE t (p1 + 1) = R) := by show _ = _; rw [← HK2.out]; conv => rhs; unfold numF; rw [hs19, if_neg Bool.false_ne_true]
      rw [hs19] at hR19
      have HR19 : Hid (RB w19 b t (p1 + 1) x c q) := hR19
      clear hR19
      clear hs19
      have C20 := HT.out w19 (p1 + 1) [101, 69] HR19.out (by omega)
      go_wp2_with fail
      refine C20.mono ?_
      clear C20
      rintro e w20 ⟨rfl, hB20, hR20⟩
      have HB20 : Hid (But w w20 b) := HB19.out.trans hB20
      clear hB20
      cases hs20 : tk t [101, 69] (p1 + 1)
      · have HK20 : Hid (Lx.ok () (p1 + 1) = R) := by rw [← HK19.out]; unfold numE; rw [hs20]; rfl
        rw [hs20] at hR20
        have HR20 : Hid (RB w20 b t (p1 + 1) x c q) := hR20
        clear hR20
        clear hs20
        have Hz : Hid (R = .ok () (p1 + 1)) := HK20.out.symm
        obtain ⟨pz, hpz⟩ : ∃ pz, pz = p1 + 1 := ⟨_, rfl⟩
        rw [← hpz] at Hz
        have HRz : Hid (RB w20 b t pz x c q) := by rw [hpz]; exact HR20.out
        have hpq : p ≤ pz ∧ pz ≤ t.length := HQ.out _ _ Hz.out
        have c0z := HRz.out.c0
        have c1z := HRz.out.c1
        have hp1 := hpq.1
        have hp2 := hpq.2
        have Hsl : Hid ((⟨t.toArray⟩ : ByteArray).extract p pz = ⟨(sgl t p pz).toArray⟩) := ext_sgl t p pz
        have HCl : Hid (∀ w, Calls Tryz.prog 59 #[.string ⟨(sgl t p pz).toArray⟩] w fun e w' => e = .returned (.string ⟨(sgl t p pz).toArray⟩) ∧ Below w.heap.size w w') := fun w => clone_any _ w (by have := sgl_le t p pz; omega)
        clear hpq hpz
        go_wp2
        refine wp_region_tail 10 (by kernel_rfl) (by kernel_rfl) ?_
        simp only [List.take_succ_cons, List.take_zero, List.drop_succ_cons, List.drop_zero]
        repeat (first | go_big_quiet_skip | (go_big_quiet_want; go_big_quiet_op; go_big_quiet_on))
        refine wpQuiet_nil ?_
        go_wp2_with fail
        rw [Hsl.out]
        refine (HCl.out _).mono ?_
        rintro e wz ⟨rfl, hBz⟩
        go_wp2
        go_ret2
        refine ⟨(HB20.out.drewN 1).trans (But.of_below hBz), ?_, ?_⟩
        · intro u p' e; rw [Hz.out] at e; cases e; exact ⟨rfl, (HRz.out.drewN 1).below hBz (Nat.le_refl _)⟩
        · intro c' p' e; rw [Hz.out] at e; cases e
      · have hl20 := tk_lt hs20
        rw [hs20] at hR20
        have HR20 : Hid (RB w20 b t (p1 + 1 + 1) x c q) := hR20
        clear hR20
        have C21 := HT.out w20 (p1 + 1 + 1) [43, 45] HR20.out (by omega)
        go_wp2_with fail
        refine C21.mono ?_
        clear C21
        rintro e w21 ⟨rfl, hB21, hR21⟩
        have HB21 : Hid (But w w21 b) := HB20.out.trans hB21
        clear hB21
        obtain ⟨p21, hp21⟩ : ∃ p21, p21 = stp (tk t [43, 45] (p1 + 1 + 1)) (p1 + 1 + 1) := ⟨_, rfl⟩
        rw [← hp21] at hR21
        have HK21 : Hid ((if tk t digitsS p21 then Lx.ok () (skp t digitsS p21) else Lx.bad 31 p21) = R) := by rw [← HK19.out]; unfold numE; rw [hs20, if_pos rfl, hp21, stp_eq]; rfl
        have hl21 : p21 ≤ t.length := by rw [hp21]; exact stp_le (by omega)
        clear hs20 hp21
        have HR21 : Hid (RB w21 b t (p21) x c q) := hR21
        clear hR21
        have C22 := HD.out w21 p21 HR21.out (by omega)
        go_wp2_with fail
        refine C22.mono ?_
        clear C22
        rintro e w22 ⟨rfl, hB22, hR22⟩
        have HB22 : Hid (But w w22 b) := HB21.out.trans hB22
        clear hB22
        cases hs22 : tk t digitsS p21
        · have hz : skp t digitsS p21 = p21 := skp_stop hs22
          rw [hz] at hR22
          have HK22 : Hid (R = Lx.bad 31 p21) := by show _ = _; rw [← HK21.out, hs22]; rfl
          clear hs22 hz
          have HR22 : Hid (RB w22 b t (p21) x c q) := hR22
          clear hR22
          have C9 := HW.out w22 (p21) HR22.out
          go_wp2_with fail
          refine C9.mono ?_
          rintro e w9 ⟨rfl, hB9, hR9⟩
          go_wp2
          go_ret2
          refine ⟨HB22.out.trans hB9, ?_, ?_⟩
          · intro u p' e; rw [HK22.out] at e; cases e
          · intro c' p' e; rw [HK22.out] at e; cases e; exact ⟨rfl, _, hR9⟩
        · have hd22 := skp_dg hs22
          have HK22 : Hid (Lx.ok () (skp t digitsS p21) = R) := by show _ = _; rw [← HK21.out, hs22]; rfl
          generalize skp t digitsS p21 = s22 at hR22 HK22 hd22
          clear hs22
          have HR22 : Hid (RB w22 b t (s22) x c q) := hR22
          clear hR22
          have Hz : Hid (R = .ok () (s22)) := HK22.out.symm
          obtain ⟨pz, hpz⟩ : ∃ pz, pz = s22 := ⟨_, rfl⟩
          rw [← hpz] at Hz
          have HRz : Hid (RB w22 b t pz x c q) := by rw [hpz]; exact HR22.out
          have hpq : p ≤ pz ∧ pz ≤ t.length := HQ.out _ _ Hz.out
          have c0z := HRz.out.c0
          have c1z := HRz.out.c1
          have hp1 := hpq.1
          have hp2 := hpq.2
          have Hsl : Hid ((⟨t.toArray⟩ : ByteArray).extract p pz = ⟨(sgl t p pz).toArray⟩) := ext_sgl t p pz
          have HCl : Hid (∀ w, Calls Tryz.prog 59 #[.string ⟨(sgl t p pz).toArray⟩] w fun e w' => e = .returned (.string ⟨(sgl t p pz).toArray⟩) ∧ Below w.heap.size w w') := fun w => clone_any _ w (by have := sgl_le t p pz; omega)
          clear hpq hpz
          go_wp2
          refine wp_region_tail 10 (by kernel_rfl) (by kernel_rfl) ?_
          simp only [List.take_succ_cons, List.take_zero, List.drop_succ_cons, List.drop_zero]
          repeat (first | go_big_quiet_skip | (go_big_quiet_want; go_big_quiet_op; go_big_quiet_on))
          refine wpQuiet_nil ?_
          go_wp2_with fail
          rw [Hsl.out]
          refine (HCl.out _).mono ?_
          rintro e wz ⟨rfl, hBz⟩
          go_wp2
          go_ret2
          refine ⟨(HB22.out.drewN 1).trans (But.of_below hBz), ?_, ?_⟩
          · intro u p' e; rw [Hz.out] at e; cases e; exact ⟨rfl, (HRz.out.drewN 1).below hBz (Nat.le_refl _)⟩
          · intro c' p' e; rw [Hz.out] at e; cases e
    · have hl19 := tk_lt hs19
      rw [hs19] at hR19
      have HR19 : Hid (RB w19 b t (p1 + 1 + 1) x c q) := hR19
      clear hR19
      have C23 := HD.out w19 (p1 + 1 + 1) HR19.out (by omega)
      go_wp2_with fail
      refine C23.mono ?_
      clear C23
      rintro e w23 ⟨rfl, hB23, hR23⟩
      have HB23 : Hid (But w w23 b) := HB19.out.trans hB23
      clear hB23
      cases hs23 : tk t digitsS (p1 + 1 + 1)
      · have hz : skp t digitsS (p1 + 1 + 1) = p1 + 1 + 1 := skp_stop hs23
        rw [hz] at hR23
        have HK23 : Hid (R = Lx.bad 31 (p1 + 1 + 1)) := by show _ = _; rw [← HK2.out]; unfold numF; rw [hs19, if_pos rfl, hs23]; rfl
        clear hs23 hs19 hz
        have HR23 : Hid (RB w23 b t (p1 + 1 + 1) x c q) := hR23
        clear hR23
        have C9 := HW.out w23 (p1 + 1 + 1) HR23.out
        go_wp2_with fail
        refine C9.mono ?_
        rintro e w9 ⟨rfl, hB9, hR9⟩
        go_wp2
        go_ret2
        refine ⟨HB23.out.trans hB9, ?_, ?_⟩
        · intro u p' e; rw [HK23.out] at e; cases e
        · intro c' p' e; rw [HK23.out] at e; cases e; exact ⟨rfl, _, hR9⟩
      · have hd23 := skp_dg hs23
        have HK23 : Hid (numE t (skp t digitsS (p1 + 1 + 1)) = R) := by show _ = _; rw [← HK2.out]; conv => rhs; unfold numF; rw [hs19, if_pos rfl, hs23, if_pos rfl]
        generalize skp t digitsS (p1 + 1 + 1) = s23 at hR23 HK23 hd23
        clear hs23 hs19
        have HR23 : Hid (RB w23 b t (s23) x c q) := hR23
        clear hR23
        have C24 := HT.out w23 (s23) [101, 69] HR23.out (by omega)
        go_wp2_with fail
        refine C24.mono ?_
        clear C24
        rintro e w24 ⟨rfl, hB24, hR24⟩
        have HB24 : Hid (But w w24 b) := HB23.out.trans hB24
        clear hB24
        cases hs24 : tk t [101, 69] (s23)
        · have HK24 : Hid (Lx.ok () (s23) = R) := by rw [← HK23.out]; unfold numE; rw [hs24]; rfl
          rw [hs24] at hR24
          have HR24 : Hid (RB w24 b t (s23) x c q) := hR24
          clear hR24
          clear hs24
          have Hz : Hid (R = .ok () (s23)) := HK24.out.symm
          obtain ⟨pz, hpz⟩ : ∃ pz, pz = s23 := ⟨_, rfl⟩
          rw [← hpz] at Hz
          have HRz : Hid (RB w24 b t pz x c q) := by rw [hpz]; exact HR24.out
          have hpq : p ≤ pz ∧ pz ≤ t.length := HQ.out _ _ Hz.out
          have c0z := HRz.out.c0
          have c1z := HRz.out.c1
          have hp1 := hpq.1
          have hp2 := hpq.2
          have Hsl : Hid ((⟨t.toArray⟩ : ByteArray).extract p pz = ⟨(sgl t p pz).toArray⟩) := ext_sgl t p pz
          have HCl : Hid (∀ w, Calls Tryz.prog 59 #[.string ⟨(sgl t p pz).toArray⟩] w fun e w' => e = .returned (.string ⟨(sgl t p pz).toArray⟩) ∧ Below w.heap.size w w') := fun w => clone_any _ w (by have := sgl_le t p pz; omega)
          clear hpq hpz
          go_wp2
          refine wp_region_tail 10 (by kernel_rfl) (by kernel_rfl) ?_
          simp only [List.take_succ_cons, List.take_zero, List.drop_succ_cons, List.drop_zero]
          repeat (first | go_big_quiet_skip | (go_big_quiet_want; go_big_quiet_op; go_big_quiet_on))
          refine wpQuiet_nil ?_
          go_wp2_with fail
          rw [Hsl.out]
          refine (HCl.out _).mono ?_
          rintro e wz ⟨rfl, hBz⟩
          go_wp2
          go_ret2
          refine ⟨(HB24.out.drewN 1).trans (But.of_below hBz), ?_, ?_⟩
          · intro u p' e; rw [Hz.out] at e; cases e; exact ⟨rfl, (HRz.out.drewN 1).below hBz (Nat.le_refl _)⟩
          · intro c' p' e; rw [Hz.out] at e; cases e
        · have hl24 := tk_lt hs24
          rw [hs24] at hR24
          have HR24 : Hid (RB w24 b t (s23 + 1) x c q) := hR24
          clear hR24
          have C25 := HT.out w24 (s23 + 1) [43, 45] HR24.out (by omega)
          go_wp2_with fail
          refine C25.mono ?_
          clear C25
          rintro e w25 ⟨rfl, hB25, hR25⟩
          have HB25 : Hid (But w w25 b) := HB24.out.trans hB25
          clear hB25
          obtain ⟨p25, hp25⟩ : ∃ p25, p25 = stp (tk t [43, 45] (s23 + 1)) (s23 + 1) := ⟨_, rfl⟩
          rw [← hp25] at hR25
          have HK25 : Hid ((if tk t digitsS p25 then Lx.ok () (skp t digitsS p25) else Lx.bad 31 p25) = R) := by rw [← HK23.out]; unfold numE; rw [hs24, if_pos rfl, hp25, stp_eq]; rfl
          have hl25 : p25 ≤ t.length := by rw [hp25]; exact stp_le (by omega)
          clear hs24 hp25
          have HR25 : Hid (RB w25 b t (p25) x c q) := hR25
          clear hR25
          have C26 := HD.out w25 p25 HR25.out (by omega)
          go_wp2_with fail
          refine C26.mono ?_
          clear C26
          rintro e w26 ⟨rfl, hB26, hR26⟩
          have HB26 : Hid (But w w26 b) := HB25.out.trans hB26
          clear hB26
          cases hs26 : tk t digitsS p25
          · have hz : skp t digitsS p25 = p25 := skp_stop hs26
            rw [hz] at hR26
            have HK26 : Hid (R = Lx.bad 31 p25) := by show _ = _; rw [← HK25.out, hs26]; rfl
            clear hs26 hz
            have HR26 : Hid (RB w26 b t (p25) x c q) := hR26
            clear hR26
            have C9 := HW.out w26 (p25) HR26.out
            go_wp2_with fail
            refine C9.mono ?_
            rintro e w9 ⟨rfl, hB9, hR9⟩
            go_wp2
            go_ret2
            refine ⟨HB26.out.trans hB9, ?_, ?_⟩
            · intro u p' e; rw [HK26.out] at e; cases e
            · intro c' p' e; rw [HK26.out] at e; cases e; exact ⟨rfl, _, hR9⟩
          · have hd26 := skp_dg hs26
            have HK26 : Hid (Lx.ok () (skp t digitsS p25) = R) := by show _ = _; rw [← HK25.out, hs26]; rfl
            generalize skp t digitsS p25 = s26 at hR26 HK26 hd26
            clear hs26
            have HR26 : Hid (RB w26 b t (s26) x c q) := hR26
            clear hR26
            have Hz : Hid (R = .ok () (s26)) := HK26.out.symm
            obtain ⟨pz, hpz⟩ : ∃ pz, pz = s26 := ⟨_, rfl⟩
            rw [← hpz] at Hz
            have HRz : Hid (RB w26 b t pz x c q) := by rw [hpz]; exact HR26.out
            have hpq : p ≤ pz ∧ pz ≤ t.length := HQ.out _ _ Hz.out
            have c0z := HRz.out.c0
            have c1z := HRz.out.c1
            have hp1 := hpq.1
            have hp2 := hpq.2
            have Hsl : Hid ((⟨t.toArray⟩ : ByteArray).extract p pz = ⟨(sgl t p pz).toArray⟩) := ext_sgl t p pz
            have HCl : Hid (∀ w, Calls Tryz.prog 59 #[.string ⟨(sgl t p pz).toArray⟩] w fun e w' => e = .returned (.string ⟨(sgl t p pz).toArray⟩) ∧ Below w.heap.size w w') := fun w => clone_any _ w (by have := sgl_le t p pz; omega)
            clear hpq hpz
            go_wp2
            refine wp_region_tail 10 (by kernel_rfl) (by kernel_rfl) ?_
            simp only [List.take_succ_cons, List.take_zero, List.drop_succ_cons, List.drop_zero]
            repeat (first | go_big_quiet_skip | (go_big_quiet_want; go_big_quiet_op; go_big_quiet_on))
            refine wpQuiet_nil ?_
            go_wp2_with fail
            rw [Hsl.out]
            refine (HCl.out _).mono ?_
            rintro e wz ⟨rfl, hBz⟩
            go_wp2
            go_ret2
            refine ⟨(HB26.out.drewN 1).trans (But.of_below hBz), ?_, ?_⟩
            · intro u p' e; rw [Hz.out] at e; cases e; exact ⟨rfl, (HRz.out.drewN 1).below hBz (Nat.le_refl _)⟩
            · intro c' p' e; rw [Hz.out] at e; cases e

end Go.Proofs.YtjehkpndchadbaaGreatDoor

namespace Go.Proofs.YtjehkpndchadbaaGreatDoor
open Go.RowKit Go.Shelf

/-- The tables of unicode/utf8 stand. -/
def U8 (w : World) : Prop := Lib.Utf8Tabs 1 2 w

theorem U8.below {w w' : World} (h : U8 w) (hb : Below w.heap.size w w') : U8 w' := Utf8Tabs_below h hb
theorem U8.drewN {w : World} (h : U8 w) (n : Nat) : U8 (w.drewN n) := h

theorem firstT_lt (b : Nat) : Lib.firstT b < 256 := by
  rcases Lib.firstT_cases b with h | h | h | h | h | h | h | h | h <;> omega
theorem firstT_16 (b : Nat) (h : 2 ≤ Lib.firstT b % 8) : Lib.firstT b / 16 < 5 := by
  rcases Lib.firstT_cases b with h1 | h1 | h1 | h1 | h1 | h1 | h1 | h1 | h1 <;> rw [h1] at h ⊢ <;> omega

set_option maxRecDepth 100000 in
set_option maxHeartbeats 4000000 in
theorem fullRune_row (s : ByteArray) (X : Nat) (b0 b1 b2 : UInt8) (w : World) (hl : s.size ≤ 1073741824)
    (h00 : (h : 0 < s.size) → s[0]'h = b0) (h11 : (h : 1 < s.size) → s[1]'h = b1) (h22 : (h : 2 < s.size) → s[2]'h = b2)
    (hX : Lib.firstT b0.toNat = X) (hT : U8 w) :
    Calls Tryz.prog 63 #[.string s] w fun e w' => e = .returned (.bool (fullN s.size b0.toNat b1.toNat b2.toNat)) ∧ Below w.heap.size w w' := by
  rcases Nat.eq_zero_or_pos s.size with h0 | h0
  · have hF : fullN s.size b0.toNat b1.toNat b2.toNat = false := by rw [h0]; rfl
    rw [hF]
    clear hF h00 h11 h22 hT hX
    have hzb : ((s.size : Int) == 0) = true := by rw [h0]; rfl
    clear h0
    go_enter Tryz.func63, Tryz.ntmps63
    go_wp2
    go_ret
    exact ⟨rfl, Below.refl _ _⟩
  · have hX5 : 2 ≤ X % 8 → X / 16 < 5 := by rw [← hX]; exact firstT_16 _
    have hXl : X < 256 := by rw [← hX]; exact firstT_lt _
    have h00 := h00 h0
    have cX : w.cell? ⟨1, b0.toNat, none⟩ = some (.int .u8 X) := by rw [← hX]; exact hT.1 _ b0.toNat_lt
    have hand : bits .and .u8 (X : Int) 7 = ((X % 8 : Nat) : Int) := and7 ⟨X, hXl⟩
    have HF2 : Hid (fullN s.size b0.toNat b1.toNat b2.toNat = if X % 8 ≤ s.size then true else if 1 < s.size ∧ (b1.toNat < Lib.accLo (X / 16) ∨ Lib.accHi (X / 16) < b1.toNat) then true else decide (2 < s.size ∧ (b2.toNat < 128 ∨ 191 < b2.toNat))) := by
      show _ = _
      unfold fullN
      rw [if_neg (by omega), hX]
    clear hX
    have hzb : ((s.size : Int) == 0) = false := by
      have : (s.size : Int) ≠ 0 := by omega
      simpa using this
    have hlt0 : (0 : Int) < (s.size : Int) := by omega
    have hbl : b0.toNat < 256 := b0.toNat_lt
    have hbl1 : b1.toNat < 256 := b1.toNat_lt
    have hbl2 : b2.toNat < 256 := b2.toNat_lt
    obtain ⟨sz, hsz8⟩ : ∃ sz, X % 8 = sz := ⟨_, rfl⟩
    rw [hsz8] at hand HF2 hX5
    by_cases hA : sz ≤ s.size
    · have hAd : decide ((s.size : Int) ≥ (sz : Int)) = true := by simp; omega
      have hF := HF2.out
      rw [if_pos hA] at hF
      rw [hF]
      clear HF2 hF hsz8 h11 h22 hX5 hT
      go_enter Tryz.func63, Tryz.ntmps63
      go_wp2
      go_ret
      exact ⟨rfl, Below.refl _ _⟩
    · have hAd : decide ((s.size : Int) ≥ (sz : Int)) = false := by simp; omega
      obtain ⟨I, hI⟩ : ∃ I, X / 16 = I := ⟨_, rfl⟩
      have hI5 : I < 5 := by rw [← hI]; exact hX5 (by omega)
      have cL : w.cell? ⟨2, I * 2, none⟩ = some (.int .u8 (Lib.accLo I)) := by rw [Nat.mul_comm]; exact (hT.2 I (by omega)).1
      have cH : w.cell? ⟨2, I * 2 + 1, none⟩ = some (.int .u8 (Lib.accHi I)) := by rw [Nat.mul_comm]; exact (hT.2 I (by omega)).2
      have hshr0 : (X : Int) / 16 = (I : Int) := by omega
      rw [hI] at HF2
      clear hX5 hT hI
      generalize Lib.accLo I = lo at *
      generalize Lib.accHi I = hi at *
      have hshr : (X : Int) / 16 = (I : Int) := hshr0
      have hs8 : sz < 8 := by omega
      have hwz : wrap64 (sz : Int) = (sz : Int) := (by unfold wrap64; omega)
      by_cases h1 : 1 < s.size
      · have h1d : decide ((s.size : Int) > 1) = true := by simp; omega
        have h1i : (1 : Int) < (s.size : Int) := by omega
        have h11 := h11 h1
        by_cases hlo : b1.toNat < lo
        · have q1 : decide ((b1.toNat : Int) < (lo : Int)) = true := by simp; omega
          have hF := HF2.out
          rw [if_neg hA, if_pos ⟨h1, Or.inl hlo⟩] at hF
          rw [hF]
          clear HF2 hF hsz8 hshr0
          clear h22
          go_enter Tryz.func63, Tryz.ntmps63
          go_wp2
          go_quiet (fail)
          go_wp2
          go_ret
          exact ⟨rfl, by (repeat' (first | with_reducible assumption | with_reducible exact Below.refl _ _ | with_reducible exact Nat.le_refl _ | with_reducible refine Below.setCell ?_ ?_ _ | with_reducible refine Below.alloc ?_ ?_ _ | with_reducible apply Below.drew | with_reducible apply below_drewN | omega | (simp; done) | (simp; omega)))⟩
        · have q1 : decide ((b1.toNat : Int) < (lo : Int)) = false := by simp; omega
          by_cases hhi : hi < b1.toNat
          · have q2 : decide ((hi : Int) < (b1.toNat : Int)) = true := by simp; omega
            have hF := HF2.out
            rw [if_neg hA, if_pos ⟨h1, Or.inr hhi⟩] at hF
            rw [hF]
            clear HF2 hF hsz8 hshr0
            clear h22
            go_enter Tryz.func63, Tryz.ntmps63
            go_wp2
            go_quiet (fail)
            go_wp2
            go_ret
            exact ⟨rfl, by (repeat' (first | with_reducible assumption | with_reducible exact Below.refl _ _ | with_reducible exact Nat.le_refl _ | with_reducible refine Below.setCell ?_ ?_ _ | with_reducible refine Below.alloc ?_ ?_ _ | with_reducible apply Below.drew | with_reducible apply below_drewN | omega | (simp; done) | (simp; omega)))⟩
          · have q2 : decide ((hi : Int) < (b1.toNat : Int)) = false := by simp; omega
            have hF := HF2.out
            rw [if_neg hA, if_neg (by omega)] at hF
            rw [hF]
            clear HF2 hF hsz8 hshr0
            by_cases h2 : 2 < s.size
            · have h2d : decide ((s.size : Int) > 2) = true := by simp; omega
              have h2i : (2 : Int) < (s.size : Int) := by omega
              have h22 := h22 h2
              by_cases hb : b2.toNat < 128
              · have q3 : decide ((b2.toNat : Int) < 128) = true := by simp; omega
                have hE : decide (2 < s.size ∧ (b2.toNat < 128 ∨ 191 < b2.toNat)) = true := by simp; omega
                rw [hE]
                clear hE
                go_enter Tryz.func63, Tryz.ntmps63
                go_wp2
                go_quiet (fail)
                go_wp2
                go_ret
                exact ⟨rfl, by (repeat' (first | with_reducible assumption | with_reducible exact Below.refl _ _ | with_reducible exact Nat.le_refl _ | with_reducible refine Below.setCell ?_ ?_ _ | with_reducible refine Below.alloc ?_ ?_ _ | with_reducible apply Below.drew | with_reducible apply below_drewN | omega | (simp; done) | (simp; omega)))⟩
              · have q3 : decide ((b2.toNat : Int) < 128) = false := by simp; omega
                by_cases hb2 : 191 < b2.toNat
                · have q4 : decide ((191 : Int) < (b2.toNat : Int)) = true := by simp; omega
                  have hE : decide (2 < s.size ∧ (b2.toNat < 128 ∨ 191 < b2.toNat)) = true := by simp; omega
                  rw [hE]
                  clear hE
                  go_enter Tryz.func63, Tryz.ntmps63
                  go_wp2
                  go_quiet (fail)
                  go_wp2
                  go_ret
                  exact ⟨rfl, by (repeat' (first | with_reducible assumption | with_reducible exact Below.refl _ _ | with_reducible exact Nat.le_refl _ | with_reducible refine Below.setCell ?_ ?_ _ | with_reducible refine Below.alloc ?_ ?_ _ | with_reducible apply Below.drew | with_reducible apply below_drewN | omega | (simp; done) | (simp; omega)))⟩
                · have q4 : decide ((191 : Int) < (b2.toNat : Int)) = false := by simp; omega
                  have hE : decide (2 < s.size ∧ (b2.toNat < 128 ∨ 191 < b2.toNat)) = false := by simp; omega
                  rw [hE]
                  clear hE
                  go_enter Tryz.func63, Tryz.ntmps63
                  go_wp2
                  go_quiet (fail)
                  go_wp2
                  go_ret
                  exact ⟨rfl, by (repeat' (first | with_reducible assumption | with_reducible exact Below.refl _ _ | with_reducible exact Nat.le_refl _ | with_reducible refine Below.setCell ?_ ?_ _ | with_reducible refine Below.alloc ?_ ?_ _ | with_reducible apply Below.drew | with_reducible apply below_drewN | omega | (simp; done) | (simp; omega)))⟩
            · have h2d : decide ((s.size : Int) > 2) = false := by simp; omega
              have hE : decide (2 < s.size ∧ (b2.toNat < 128 ∨ 191 < b2.toNat)) = false := by simp; omega
              rw [hE]
              clear hE h22
              go_enter Tryz.func63, Tryz.ntmps63
              go_wp2
              go_quiet (fail)
              go_wp2
              go_ret
              exact ⟨rfl, by (repeat' (first | with_reducible assumption | with_reducible exact Below.refl _ _ | with_reducible exact Nat.le_refl _ | with_reducible refine Below.setCell ?_ ?_ _ | with_reducible refine Below.alloc ?_ ?_ _ | with_reducible apply Below.drew | with_reducible apply below_drewN | omega | (simp; done) | (simp; omega)))⟩
      · have h1d : decide ((s.size : Int) > 1) = false := by simp; omega
        have h2d : decide ((s.size : Int) > 2) = false := by simp; omega
        have hE : decide (2 < s.size ∧ (b2.toNat < 128 ∨ 191 < b2.toNat)) = false := by simp; omega
        have hF := HF2.out
        rw [if_neg hA, if_neg (by omega), hE] at hF
        rw [hF]
        clear HF2 hF hsz8 hE h11 h22 hshr0
        go_enter Tryz.func63, Tryz.ntmps63
        go_wp2
        go_quiet (fail)
        go_wp2
        go_ret
        exact ⟨rfl, by (repeat' (first | with_reducible assumption | with_reducible exact Below.refl _ _ | with_reducible exact Nat.le_refl _ | with_reducible refine Below.setCell ?_ ?_ _ | with_reducible refine Below.alloc ?_ ?_ _ | with_reducible apply Below.drew | with_reducible apply below_drewN | omega | (simp; done) | (simp; omega)))⟩

theorem fullRune_any (l : List UInt8) (w : World) (hT : U8 w) (hl : l.length ≤ 1073741824) :
    Calls Tryz.prog 63 #[.string ⟨l.toArray⟩] w fun e w' => e = .returned (.bool (fullR l)) ∧ Below w.heap.size w w' := by
  have gx : ∀ k (h : k < l.length), (⟨l.toArray⟩ : ByteArray)[k]'(by show k < l.toArray.size; simpa using h) = l.getD k 0 := by
    intro k h
    show l.toArray[k]'(by simp; omega) = _
    simp [List.getD_eq_getElem?_getD, h]
  exact fullRune_row ⟨l.toArray⟩ _ _ _ _ w hl (gx 0) (gx 1) (gx 2) rfl hT

end Go.Proofs.YtjehkpndchadbaaGreatDoor
