import Derived.Test.YtmngdaolgdhgmaaGreatDoorNtY5
import Derived.Test.YtmngdaolgdhgmaaGreatDoorNtY3
import Derived.Deep.LoopGhost
namespace Go.Proofs.YtmngdaolgdhgmaaGreatDoor
open Go.RowKit

set_option maxHeartbeats 4000000 in
theorem dinv (a m : Value) (A M : Nat) (w : World) (ha : Nd w a A 3000000) (hm : Nd w m M 3000000) :
    Calls Tryz.prog 120 #[a, m] w fun e w' => AnsI w w' e A M := by
  obtain ⟨a0, a1, a2, rfl⟩ := ha.shape
  have C := dwrong1 m _ M A w hm ha
  by_cases h0 : rcode M (Lg A) = 0
  · have hM : 2 ≤ M := (rcode_zero h0).2.2
    have HR0 : Hid (rcode M (Lg A) = 0) := h0
    rw [h0] at C
    have HA : Hid (Nd w (.slice a0 a1 a2) A 3000000) := ha
    have HM : Hid (Nd w m M 3000000) := hm
    clear ha hm h0
    go_enter Tryz.func120, Tryz.ntmps120
    go_wp2_with fail
    refine C.mono ?_
    clear C
    rintro e w1 ⟨rfl, hbel⟩
    have HB1 : Hid (Below w.heap.size w w1) := hbel
    clear hbel
    have C := dtrim m M _ w1 (HM.out.below HB1.out (Nat.le_refl _)) (by decide)
    go_wp2_with fail
    refine C.mono ?_
    clear C
    rintro e w2 ⟨m', rfl, hn⟩
    have NM2 : Hid (Re w w2 m' M) := Re.later HB1.out hn
    clear hn HM
    have C := drest _ m' A M w2 ((HA.out.below NM2.out.bel (Nat.le_refl _)).le (by decide)) NM2.out.nd (by omega)
    go_wp2_with fail
    refine C.mono ?_
    clear C
    rintro e w3 ⟨s0, rfl, hn⟩
    have NM3 : Hid (Re w w3 m' M) := NM2.out.keep hn.bel
    have NS3 : Hid (Re w w3 s0 (A % M)) := Re.later NM2.out.bel hn
    clear hn NM2 HA
    go_wp2_with fail
    refine (done1 w3).mono ?_
    rintro e w4 ⟨y0, rfl, hn⟩
    have NM4 : Hid (Re w w4 m' M) := NM3.out.keep hn.bel
    have NS4 : Hid (Re w w4 s0 (A % M)) := NS3.out.keep hn.bel
    have NY4 : Hid (Re w w4 y0 1) := Re.later NM3.out.bel hn
    have NX4 : Hid (Re w w4 (.slice none 0 0) 0) := ⟨by rw [dg_zero]; exact Ow.nil _ _, by rw [dg_zero]; exact Nat.zero_le _, NM4.out.bel⟩
    clear hn NM3 NS3
    go_wp2
    go_loopg [7, 8, 9, 10] (A % M) (fun k s7 s8 s9 s10 wr => ∃ L X D Y : Nat, Hid (Re w wr s7 D) ∧ Hid (Re w wr s8 L) ∧ Hid (Re w wr s9 Y) ∧ Hid (Re w wr s10 X) ∧ Hid (Re w wr m' M) ∧ Hid (Inq A M L X D Y) ∧ Hid (L ≤ k))
    case atStart => exact ⟨A % M, 1, M, 0, NM4, NS4, NX4, NY4, NM4, Inq.start hM, Nat.le_refl _⟩
    case round =>
      clear NM4 NS4 NX4 NY4
      obtain ⟨L, X, D, Y, H7, H8, H9, H10, HM, HI, Hk⟩ := hrel
      obtain ⟨la, lc, hls, _⟩ := H8.out.1.nm (dg_sm Bs_two _)
      obtain ⟨nl, Hnl⟩ : ∃ nl, Hid ((dg Bs L).length = nl) := ⟨_, rfl⟩
      rw [Hnl.out] at hls
      have hnl : nl ≤ 3000000 := by rw [← Hnl.out]; exact H8.out.2.1
      subst hls
      by_cases hL : L = 0
      · have hn0 : nl = 0 := by rw [← Hnl.out, hL, dg_zero]; rfl
        subst hL
        subst hn0
        have Hgcd : Hid (D = Nat.gcd A M) := HI.out.done
        have HYz : Hid (D = 1 → Inz A M Y) := fun e => by have h := HI.out; rw [e] at h; exact h.inz hM
        have hD0 : 0 < D := HI.out.hD
        have HyM : Hid (Y < M) := HI.out.hy
        clear HI H8 H10
        go_wp2_with fail
        refine (done1 wr).mono ?_
        rintro e w6 ⟨o1, rfl, hn⟩
        have NY6 : Hid (Re w w6 u9 Y) := H9.out.keep hn.bel
        have NM6 : Hid (Re w w6 m' M) := HM.out.keep hn.bel
        have C := dcmp u7 o1 D 1 _ _ w6 (H7.out.keep hn.bel).nu hn.nu (by decide) (by decide)
        clear hn H7 H9 HM
        by_cases hD : D = 1
        · subst hD
          rw [cmp3_eq rfl] at C
          go_wp2_with fail
          refine C.mono ?_
          clear C
          rintro e w7 ⟨rfl, rfl⟩
          have C := drest u9 m' Y M w7 (NY6.out.nd.le (by decide)) NM6.out.nd (by omega)
          rw [Nat.mod_eq_of_lt HyM.out] at C
          go_wp2_with fail
          refine C.mono ?_
          clear C
          rintro e w8 ⟨r, rfl, hn⟩
          have H : Hid (Re w w8 r Y) := Re.later NY6.out.bel hn
          clear hn
          go_wp2
          go_ret2
          exact .inr (.inr ⟨HR0.out, Y, r, HYz.out trivial, rfl, H.out⟩)
        · have hcb : (cmp3 ((D : Nat) : Int) ((1 : Nat) : Int) != 0) = true := by rw [cmp3_gt (by omega)]; rfl
          have HD : Hid (D ≠ 1) := hD
          generalize cmp3 ((D : Nat) : Int) ((1 : Nat) : Int) = oo at C hcb
          clear hD
          go_wp2_with fail
          refine C.mono ?_
          clear C
          rintro e w7 ⟨rfl, rfl⟩
          go_wp2
          go_ret2
          exact .inr (.inl ⟨HR0.out, by rw [← Hgcd.out]; exact HD.out, rfl, NM6.out.bel⟩)
      · have hn0 : 0 < nl := by rw [← Hnl.out, dg_pos Bs_two hL]; simp
        have hnI : (0 : Int) < (nl : Int) := by omega
        have HL : Hid (L ≠ 0) := hL
        clear hL
        have C := ddivide u7 (.slice la nl lc) D L _ _ wr H7.out.nd H8.out.nd (by decide) (by decide) HL.out
        go_wp2_with fail
        refine C.mono ?_
        clear C
        rintro e w6 ⟨q, t, rfl, hq, ht⟩
        have NQ6 : Hid (Re w w6 q (D / L)) := Re.later HM.out.bel hq
        have NT6 : Hid (Re w w6 t (D % L)) := Re.later HM.out.bel ht
        have N8 : Hid (Re w w6 (.slice la nl lc) L) := H8.out.keep hq.2.2
        have N9 : Hid (Re w w6 u9 Y) := H9.out.keep hq.2.2
        have N10 : Hid (Re w w6 u10 X) := H10.out.keep hq.2.2
        have NM6 : Hid (Re w w6 m' M) := HM.out.keep hq.2.2
        clear hq ht H7 H8 H9 H10 HM
        have C := dplus u9 m' _ _ _ _ w6 N9.out.nu NM6.out.nu (by decide) (by decide)
        go_wp2_with fail
        refine C.mono ?_
        clear C
        rintro e w7 ⟨p, rfl, hn⟩
        have NP7 : Hid (Vl w7 p (Y + M) 6000001) := hn.vl
        replace NQ6 : Hid (Re w w7 q (D / L)) := NQ6.out.keep hn.2.2
        replace NT6 : Hid (Re w w7 t (D % L)) := NT6.out.keep hn.2.2
        replace N8 : Hid (Re w w7 (.slice la nl lc) L) := N8.out.keep hn.2.2
        replace N10 : Hid (Re w w7 u10 X) := N10.out.keep hn.2.2
        replace NM6 : Hid (Re w w7 m' M) := NM6.out.keep hn.2.2
        clear hn N9
        have C := dtimes q u10 _ _ _ _ w7 NQ6.out.nu N10.out.nu (by decide) (by decide)
        go_wp2_with fail
        refine C.mono ?_
        clear C
        rintro e w8 ⟨p2, rfl, hn⟩
        have NP8 : Hid (Nd w8 p2 (D / L * X) 10000000) := hn.nd.le (by decide)
        replace NP7 : Hid (Vl w8 p (Y + M) 6000001) := NP7.out.below hn.2.2 (Nat.le_refl _)
        replace NT6 : Hid (Re w w8 t (D % L)) := NT6.out.keep hn.2.2
        replace N8 : Hid (Re w w8 (.slice la nl lc) L) := N8.out.keep hn.2.2
        replace N10 : Hid (Re w w8 u10 X) := N10.out.keep hn.2.2
        replace NM6 : Hid (Re w w8 m' M) := NM6.out.keep hn.2.2
        clear hn NQ6
        have C := drest p2 m' _ M w8 NP8.out NM6.out.nd (by omega)
        go_wp2_with fail
        refine C.mono ?_
        clear C
        rintro e w9 ⟨p3, rfl, hn⟩
        have NP9 : Hid (Nu w9 p3 (D / L * X % M)) := hn.nu
        replace NP7 : Hid (Vl w9 p (Y + M) 6000001) := NP7.out.below hn.2.2 (Nat.le_refl _)
        replace NT6 : Hid (Re w w9 t (D % L)) := NT6.out.keep hn.2.2
        replace N8 : Hid (Re w w9 (.slice la nl lc) L) := N8.out.keep hn.2.2
        replace N10 : Hid (Re w w9 u10 X) := N10.out.keep hn.2.2
        replace NM6 : Hid (Re w w9 m' M) := NM6.out.keep hn.2.2
        clear hn NP8
        have C := dminus p p3 _ _ _ _ w9 NP7.out NP9.out (by decide) (by have := Nat.mod_lt (D / L * X) (show 0 < M by omega); omega)
        go_wp2_with fail
        refine C.mono ?_
        clear C
        rintro e w10 ⟨p4, rfl, hn⟩
        have NP10 : Hid (Nd w10 p4 (Y + M - D / L * X % M) 10000000) := hn.nd.le (by decide)
        replace NT6 : Hid (Re w w10 t (D % L)) := NT6.out.keep hn.2.2
        replace N8 : Hid (Re w w10 (.slice la nl lc) L) := N8.out.keep hn.2.2
        replace N10 : Hid (Re w w10 u10 X) := N10.out.keep hn.2.2
        replace NM6 : Hid (Re w w10 m' M) := NM6.out.keep hn.2.2
        clear hn NP7 NP9
        have C := drest p4 m' _ M w10 NP10.out NM6.out.nd (by omega)
        rw [← lessV_mod HI.out.hy (Nat.mod_lt (D / L * X) (show 0 < M by omega))] at C
        go_wp2_with fail
        refine C.mono ?_
        clear C
        rintro e w11 ⟨z, rfl, hn⟩
        have NZ11 : Hid (Re w w11 z (lessV M Y (D / L * X % M))) := Re.later NM6.out.bel hn
        replace NT6 : Hid (Re w w11 t (D % L)) := NT6.out.keep hn.2.2
        replace N8 : Hid (Re w w11 (.slice la nl lc) L) := N8.out.keep hn.2.2
        replace N10 : Hid (Re w w11 u10 X) := N10.out.keep hn.2.2
        replace NM6 : Hid (Re w w11 m' M) := NM6.out.keep hn.2.2
        have HI5 : Hid (Inq A M (D % L) (lessV M Y (D / L * X % M)) L X) := HI.out.divide (Nat.pos_of_ne_zero HL.out)
        have Hk5 : Hid (D % L < gk) := Nat.lt_of_lt_of_le (Nat.mod_lt D (Nat.pos_of_ne_zero HL.out)) Hk.out
        clear hn NP10 HI Hk
        go_wp2
        go_roundg (D % L)
        case measure => exact Hk5.out
        case rel => exact ⟨_, _, _, _, N8, NT6, N10, NZ11, NM6, HI5, Nat.le_refl _⟩
  · generalize hc0 : rcode M (Lg A) = c at C h0
    have hc : ((c : Int) != 0) = true := by simp; omega
    have Hc : Hid (rcode M (Lg A) = c ∧ c ≠ 0) := ⟨hc0, h0⟩
    clear ha hm h0 hc0
    go_enter Tryz.func120, Tryz.ntmps120
    go_wp2_with fail
    refine C.mono ?_
    clear C
    rintro e w1 ⟨rfl, hbel⟩
    have HB1 : Hid (Below w.heap.size w w1) := hbel
    clear hbel
    go_wp2
    go_ret2
    exact .inl ⟨by rw [Hc.out.1]; exact Hc.out.2, by rw [Hc.out.1]; rfl, HB1.out⟩

end Go.Proofs.YtmngdaolgdhgmaaGreatDoor
