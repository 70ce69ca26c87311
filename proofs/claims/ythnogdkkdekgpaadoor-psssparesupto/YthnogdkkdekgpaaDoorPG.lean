import Derived.Test.YthnogdkkdekgpaaDoorPF
namespace Go.Proofs.YthnogdkkdekgpaaDoor
open Go.RowKit

theorem lst_iff (V k : Nat) : lst V ≤ k ↔ V < 256 ^ k := by
  constructor
  · intro h
    have h1 := bl_lt V
    have h2 : bl V ≤ 8 * k := by unfold lst at h; omega
    have h3 : 2 ^ bl V ≤ 2 ^ (8 * k) := Nat.pow_le_pow_right (by decide) h2
    rw [Nat.pow_mul, show (2 : Nat) ^ 8 = 256 by rfl] at h3
    omega
  · exact lst_le V k
theorem pfixed_v (v : Value) (V k : Nat) (w : World) (hv : Nu w v V) (hk2 : k ≤ 16384) :
    Calls Tryd.prog 33 #[v, .int .i64 (k : Int)] w fun e w' => ∃ r, e = .returned (.tuple #[r, .bool (decide (V < 256 ^ k))]) ∧ OBb w.heap.size w w' r (if V < 256 ^ k then tobe k V else []) := by
  obtain ⟨xs, n1, rfl, k1⟩ := hv
  refine (fixed_nm v xs (k : Int) w n1 (by omega)).mono ?_
  rintro e w' ⟨r, l, rfl, h1, h2, h3⟩
  have hi := lst_iff (nv Bs xs) k
  by_cases hc : nv Bs xs < 256 ^ k
  · have hc2 : (lst (nv Bs xs) : Int) ≤ (k : Int) ∧ (k : Int) ≤ 16384 := by have := hi.2 hc; omega
    rw [if_pos hc2, Int.toNat_natCast] at h2
    rw [decide_eq_true hc2, decide_eq_true hc, if_pos hc]
    subst h2
    exact ⟨r, rfl, h1, h3⟩
  · have hc2 : ¬ ((lst (nv Bs xs) : Int) ≤ (k : Int) ∧ (k : Int) ≤ 16384) := fun x => hc (hi.1 (by omega))
    rw [if_neg hc2] at h2
    rw [decide_eq_false hc2, decide_eq_false hc, if_neg hc]
    subst h2
    exact ⟨r, rfl, h1, h3⟩
theorem cmp_geD (a b : Nat) : decide (cmp3 ((a : Nat) : Int) ((b : Nat) : Int) ≥ 0) = decide (b ≤ a) := by
  unfold cmp3
  apply decide_eq_decide.2
  split
  · constructor <;> intro <;> omega
  · split <;> constructor <;> intro <;> omega

set_option maxRecDepth 100000 in
set_option maxHeartbeats 4000000 in
theorem pverify_any (h : Int) (a1 a2 a3 a4 : Option Addr) (c1 c2 c3 c4 : Nat) (n e m s : List UInt8) (w : World) (T : Sha.Tb w) (r1 : Rd w a1 n) (r2 : Rd w a2 e) (r3 : Rd w a3 m) (r4 : Rd w a4 s)
    (m3 : m.length ≤ c3) (m3' : c3 ≤ 9223372036854775807) (l1 : n.length ≤ 3000000) (l2 : e.length ≤ 3000000) (l3 : m.length ≤ 100000000) (l4 : s.length ≤ 3000000) :
    Calls Tryd.prog 34 #[.int .i64 h, .slice a1 n.length c1, .slice a2 e.length c2, .slice a3 m.length c3, .slice a4 s.length c4] w fun x w' => x = .returned (.int .i64 (pverV h n e m s)) ∧ Below w.heap.size w w' := by
  have CK := Sha.size_any h w
  by_cases hh : isHB h = true
  · have hs0 := isHB_pos hh
    have hs64 := siz_le64 h
    have dz : ((Sha.siz h : Int) == 0) = false := by rw [beq_eq_false_iff_ne]; omega
    have CY := key_any a1 a2 c1 c2 n e w r1 r2 (by omega) (by omega)
    by_cases hk : keyC n e = 0
    · have KP := key_parts hk
      have dk : (keyC n e != 0) = false := by rw [hk]; rfl
      by_cases hs : s.length = n.length
      · have ds : ((s.length : Int) != (n.length : Int)) = false := by rw [hs]; simp
        have C1 := fromb a4 c4 s w r4 l4
        have H1 : Hid (Rd w a1 n) := r1
        have H2 : Hid (Rd w a2 e) := r2
        have H3 : Hid (Rd w a3 m) := r3
        have HT : Hid (Sha.Tb w) := T
        have HH : Hid (isHB h = true) := hh
        have HKP : Hid (KeyP n e) := KP
        have HV : Hid (pverV h n e m s = if bv n ≤ bv s then 91 else if bv s ^ bv e % bv n < 256 ^ wid (bl (bv n) - 1) ∧ holdsV h (Sha.sumF h m) (tobe (wid (bl (bv n) - 1)) (bv s ^ bv e % bv n)) ((bl (bv n) - 1 : Nat) : Int) = true then 0 else 91) := by
          show _ = _
          unfold pverV
          rw [hh, hk, hs]
          simp
        have Hs : Hid (s.length = n.length) := hs
        have hbl : bl (bv n) ≤ 4096 := bl_small KP.nl
        have hbl1 : 0 < bl (bv n) := bl_pos _ (by have := KP.two; omega)
        generalize keyC n e = kc at *
        obtain ⟨S, HS⟩ : ∃ S, Hid (Sha.siz h = S) := ⟨_, rfl⟩
        rw [HS.out] at CK dz hs0 hs64
        clear T r1 r2 r3 r4 hh hk KP hs
        go_enter Tryd.func34, Tryd.ntmps34
        go_wp2_with fail
        refine CK.mono ?_
        rintro x w' ⟨rfl, rfl⟩
        clear CK
        go_wp2_with fail
        refine CY.mono ?_
        rintro x w' ⟨rfl, rfl⟩
        clear CY
        go_wp2_with fail
        refine C1.mono ?_
        rintro x w1 ⟨rS, rfl, hS1⟩
        clear C1
        have C2 := fromb a1 c1 n w1 (H1.out.below hS1.bel (Nat.le_refl _)) l1
        have HS1 : Hid (Nu w1 rS (bv s)) := hS1.nu
        have HB1 : Hid (Below w'.heap.size w' w1) := hS1.bel
        clear hS1
        go_wp2_with fail
        refine C2.mono ?_
        rintro x w2 ⟨rN, rfl, hN2⟩
        clear C2
        have HS2 : Hid (Nu w2 rS (bv s)) := HS1.out.below hN2.bel (Nat.le_refl _)
        have HN2 : Hid (Nu w2 rN (bv n)) := hN2.nu
        have HB2 : Hid (Below w'.heap.size w' w2) := HB1.out.trans (hN2.bel.mono HB1.out.size)
        have C3 := vcmp rS rN _ _ _ _ w2 HS2.out HN2.out (by omega) (by omega)
        clear hN2 HS1 HB1
        go_wp2_with fail
        refine C3.mono ?_
        rintro x w3 ⟨rfl, q, hw3⟩
        clear C3
        have HS3 : Hid (Nu w3 rS (bv s)) := by rw [hw3]; exact HS2.out
        have HN3 : Hid (Nu w3 rN (bv n)) := by rw [hw3]; exact HN2.out
        have HB3 : Hid (Below w'.heap.size w' w3) := by rw [hw3]; exact below_drewN HB2.out q
        clear hw3 HS2 HN2 HB2
        have dc := cmp_geD (bv s) (bv n)
        have dc' : decide (0 ≤ cmp3 ((bv s : Nat) : Int) ((bv n : Nat) : Int)) = decide (bv n ≤ bv s) := dc
        by_cases hlt : bv n ≤ bv s
        · rw [decide_eq_true hlt] at dc dc'
          have HVv : Hid (pverV h n e m s = 91) := by have := HV.out; rw [if_pos hlt] at this; exact this
          clear HV hlt
          generalize cmp3 ((bv s : Nat) : Int) ((bv n : Nat) : Int) = cm at *
          go_wp2
          go_ret
          rw [HVv.out]
          exact ⟨rfl, HB3.out⟩
        · rw [decide_eq_false hlt] at dc dc'
          have C4 := fromb a2 c2 e w3 (H2.out.below HB3.out (Nat.le_refl _)) l2
          have hsn : bv s < bv n := by omega
          have HLt : Hid (bv s < bv n) := hsn
          have HV2 : Hid (pverV h n e m s = if bv s ^ bv e % bv n < 256 ^ wid (bl (bv n) - 1) ∧ holdsV h (Sha.sumF h m) (tobe (wid (bl (bv n) - 1)) (bv s ^ bv e % bv n)) ((bl (bv n) - 1 : Nat) : Int) = true then 0 else 91) := by have := HV.out; rw [if_neg hlt] at this; exact this
          clear HV hlt hsn
          generalize cmp3 ((bv s : Nat) : Int) ((bv n : Nat) : Int) = cm at *
          go_wp2_with fail
          refine C4.mono ?_
          rintro x w4 ⟨rE, rfl, hE4⟩
          clear C4
          have HB4 : Hid (Below w'.heap.size w' w4) := HB3.out.trans (hE4.bel.mono HB3.out.size)
          have HS4 := HS3.out.below hE4.bel (Nat.le_refl _)
          have HN4 := HN3.out.below hE4.bel (Nat.le_refl _)
          have HHN4 : Hid (Nu w4 rN (bv n)) := HN4
          have C5 := mexp_v rS rE rN _ _ _ w4 HS4 hE4.nu HN4
          have hrc : rcode (bv n) (Lg (bv s) || Lg (bv e)) = 0 := by
            have k := HKP.out
            have hls : Lg (bv s) = false := Lg_lt (Nat.le_of_lt HLt.out) k.n2
            unfold rcode
            rw [k.nl, k.el, hls, if_neg (by simp), if_neg (by have := k.two; omega)]
          rw [hrc] at C5
          clear hrc HS4 HN4 hE4 HS3 HN3 HB3
          go_wp2_with fail
          refine C5.mono ?_
          intro x w5 hA
          clear C5
          obtain ⟨rP, rfl, hP5⟩ := (hA.resolve_left (fun hx => hx.1 rfl)).2
          clear hA
          have HB5 : Hid (Below w'.heap.size w' w5) := HB4.out.trans (hP5.bel.mono HB4.out.size)
          obtain ⟨P, hP⟩ : ∃ P, bv s ^ bv e % bv n = P := ⟨_, rfl⟩
          rw [hP] at hP5 HV2
          have C5b := vbits rN (bv n) _ w5 (HHN4.out.below hP5.bel (Nat.le_refl _)) (by omega)
          obtain ⟨b, eb⟩ : ∃ b : Nat, ((bl (bv n) : Nat) : Int) - 1 = (b : Int) := ⟨bl (bv n) - 1, by omega⟩
          have hb2 : bl (bv n) - 1 = b := by omega
          rw [hb2] at HV2
          have hb3 : b ≤ 4096 := by omega
          have HP5 : Hid (Nu w5 rP P) := hP5.nu
          clear hP5 HB4 hP hb2 HHN4
          generalize bl (bv n) = bln at *
          go_wp2_with fail
          refine C5b.mono ?_
          rintro x wx ⟨rfl, rfl⟩
          clear C5b
          have CW := width_any b wx (by omega)
          have hwb : wid b ≤ 1000 := by unfold wid; omega
          have HVW : Hid (pverV h n e m s = if P < 256 ^ wid b ∧ holdsV h (Sha.sumF h m) (tobe (wid b) P) (b : Int) = true then 0 else 91) := HV2.out
          clear HV2
          go_wp2_with fail
          refine CW.mono ?_
          rintro x wy ⟨rfl, rfl⟩
          clear CW
          have C6 := pfixed_v rP P (wid b) wy HP5.out (by omega)
          generalize wid b = k at *
          by_cases hfit : P < 256 ^ k
          · rw [decide_eq_true hfit, if_pos hfit] at C6
            have HVW2 : Hid (pverV h n e m s = if holdsV h (Sha.sumF h m) (tobe k P) (b : Int) = true then 0 else 91) := by have := HVW.out; show _ = _; rw [this]; simp [hfit]
            clear HVW hfit
            go_wp2_with fail
            refine C6.mono ?_
            rintro x w6 ⟨rO, rfl, hO6⟩
            clear C6
            have HB6 : Below w'.heap.size w' w6 := HB5.out.trans (hO6.bel.mono HB5.out.size)
            have b7 := alloc_below w6 (.cells #[.slice a3 m.length c3] 23)
            have CQ := Sha.ssum_any h (some ⟨w6.heap.size, 0, none⟩) 1 [⟨a3, c3, m⟩] (w6.alloc (.cells #[.slice a3 m.length c3] 23)) ((HT.out.below HB6).below b7) (parts_one w6 ⟨a3, c3, m⟩ ⟨H3.out.below HB6 (Nat.le_refl _), m3, m3'⟩) (by simp) (by simp [Sha.cat]; omega)
            rw [show Sha.cat [⟨a3, c3, m⟩] = m by simp [Sha.cat], HS.out] at CQ
            obtain ⟨aO, cO, eO, hcO, qO⟩ := hO6.own.nb
            obtain ⟨cO2, hcO2⟩ : ∃ z, cO ≤ z ∧ z = 9223372036854775807 := by
              refine ⟨_, ?_, rfl⟩
              rcases hO6.own.2 with ⟨e0, _⟩ | ⟨g, cap, cur, e0, hg, _, _, hm, _⟩
              · rw [eO] at e0; injection e0 with _ _ e1; omega
              · rw [eO] at e0; injection e0 with _ _ e1; unfold maxLen at hm; omega
            have hcO3 : cO ≤ 9223372036854775807 := by omega
            rw [tobe_length] at eO hcO
            subst eO
            have HqO : Hid (Rd w6 aO (tobe k P)) := qO
            have HBB6 : Hid (Below w'.heap.size w' w6) := HB6
            clear hcO2 qO hO6 HB6 HB5 b7
            go_wp2_with fail
            refine CQ.mono ?_
            rintro x w8 ⟨aQ, rfl, hOQ, hb8⟩
            clear CQ
            have b7 := alloc_below w6 (.cells #[.slice a3 m.length c3] 23)
            have b68 : Below w6.heap.size w6 w8 := b7.trans (hb8.mono b7.size)
            have HB8 : Hid (Below w'.heap.size w' w8) := HBB6.out.trans (b68.mono HBB6.out.size)
            have hsl : (Sha.sumF h m).length = S := by rw [Sha.sumF_length]; exact HS.out
            have CH := pholds_any h aQ aO S cO (Sha.sumF h m) (tobe k P) (b : Int) w8 (HT.out.below HB8.out) (Sha.Own.rd hOQ) (HqO.out.below b68 (Nat.le_refl _)) (by rw [hsl]; exact Nat.le_refl _) (by omega) (by rw [tobe_length]; exact hcO) hcO3 (by rw [hsl]; omega) (by rw [tobe_length]; omega)
            rw [hsl, tobe_length] at CH
            generalize holdsV h (Sha.sumF h m) (tobe k P) (b : Int) = hv at *
            clear hOQ hb8 b7 b68 HqO HBB6 hsl
            cases hv with
            | true =>
              have HVv : Hid (pverV h n e m s = 0) := by have := HVW2.out; show _ = _; rw [this]; simp
              clear HVW2
              go_wp2_with fail
              refine CH.mono ?_
              rintro x w9 ⟨rfl, hb9⟩
              clear CH
              have HB9 : Hid (Below w'.heap.size w' w9) := HB8.out.trans (hb9.mono HB8.out.size)
              clear hb9
              go_wp2
              go_ret
              rw [HVv.out]
              exact ⟨rfl, HB9.out⟩
            | false =>
              have HVv : Hid (pverV h n e m s = 91) := by have := HVW2.out; show _ = _; rw [this]; simp
              clear HVW2
              go_wp2_with fail
              refine CH.mono ?_
              rintro x w9 ⟨rfl, hb9⟩
              clear CH
              have HB9 : Hid (Below w'.heap.size w' w9) := HB8.out.trans (hb9.mono HB8.out.size)
              clear hb9
              go_wp2
              go_ret
              rw [HVv.out]
              exact ⟨rfl, HB9.out⟩
          · rw [decide_eq_false hfit, if_neg hfit] at C6
            have HVv : Hid (pverV h n e m s = 91) := by have := HVW.out; show _ = _; rw [this]; simp [hfit]
            clear HVW hfit
            go_wp2_with fail
            refine C6.mono ?_
            rintro x w6 ⟨rO, rfl, hO6⟩
            clear C6
            have HB6 : Hid (Below w'.heap.size w' w6) := HB5.out.trans (hO6.bel.mono HB5.out.size)
            clear hO6
            go_wp2
            go_ret
            rw [HVv.out]
            exact ⟨rfl, HB6.out⟩
      · have ds : ((s.length : Int) != (n.length : Int)) = true := by simp; omega
        have HV : Hid (pverV h n e m s = 91) := by show _ = _; unfold pverV; rw [hh, hk, if_neg (by simp), if_neg (by simp), if_pos hs]
        generalize keyC n e = kc at *
        generalize Sha.siz h = S at *
        clear T r1 r2 r3 r4 hh hk KP hs
        go_enter Tryd.func34, Tryd.ntmps34
        go_wp2_with fail
        refine CK.mono ?_
        rintro x w' ⟨rfl, rfl⟩
        clear CK
        go_wp2_with fail
        refine CY.mono ?_
        rintro x w' ⟨rfl, rfl⟩
        clear CY
        go_wp2
        go_ret
        rw [HV.out]
        exact ⟨rfl, Below.refl _ _⟩
    · have dk : (keyC n e != 0) = true := by simpa using hk
      have HV : Hid (pverV h n e m s = 90) := by show _ = _; unfold pverV; rw [hh, if_neg (by simp), if_pos hk]
      generalize keyC n e = kc at *
      generalize Sha.siz h = S at *
      clear T r1 r2 r3 r4 hh hk
      go_enter Tryd.func34, Tryd.ntmps34
      go_wp2_with fail
      refine CK.mono ?_
      rintro x w' ⟨rfl, rfl⟩
      clear CK
      go_wp2_with fail
      refine CY.mono ?_
      rintro x w' ⟨rfl, rfl⟩
      clear CY
      go_wp2
      go_ret
      rw [HV.out]
      exact ⟨rfl, Below.refl _ _⟩
  · have hh2 : isHB h = false := by simpa using hh
    have HV : Hid (pverV h n e m s = 111) := by show _ = _; unfold pverV; rw [if_pos hh2]
    have CK0 : Calls Tryd.prog 13 #[.int .i64 h] w fun e w' => e = .returned (.int .i64 0) ∧ w' = w := by rw [siz_zero hh2] at CK; exact CK
    clear T r1 r2 r3 r4 hh hh2 CK
    go_enter Tryd.func34, Tryd.ntmps34
    go_wp2_with fail
    refine CK0.mono ?_
    rintro x w' ⟨rfl, rfl⟩
    clear CK0
    go_wp2
    go_ret
    rw [HV.out]
    exact ⟨rfl, Below.refl _ _⟩

end Go.Proofs.YthnogdkkdekgpaaDoor
