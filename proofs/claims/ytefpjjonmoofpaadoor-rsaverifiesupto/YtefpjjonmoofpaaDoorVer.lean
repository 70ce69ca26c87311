import Derived.Test.YtefpjjonmoofpaaDoorVerM
namespace Go.Proofs.YtefpjjonmoofpaaDoor
open Go.RowKit

theorem fixed_v (v : Value) (V k : Nat) (w : World) (hv : Nu w v V) (hk : V < 256 ^ k) (hk2 : k ≤ 16384) :
    Calls Tryd.prog 27 #[v, .int .i64 (k : Int)] w fun e w' => ∃ r, e = .returned (.tuple #[r, .bool true]) ∧ OBb w.heap.size w w' r (tobe k V) := by
  obtain ⟨xs, n1, rfl, k1⟩ := hv
  have hlst := lst_le _ k hk
  refine (fixed_nm v xs (k : Int) w n1 (by omega)).mono ?_
  rintro e w' ⟨r, l, rfl, h1, h2, h3⟩
  have hc : (lst (nv Bs xs) : Int) ≤ (k : Int) ∧ (k : Int) ≤ 16384 := by omega
  rw [if_pos hc, Int.toNat_natCast] at h2
  rw [decide_eq_true hc]
  subst h2
  exact ⟨r, rfl, h1, h3⟩

set_option maxRecDepth 100000 in
set_option maxHeartbeats 4000000 in
theorem verify_any (h : Int) (a1 a2 a3 a4 : Option Addr) (c1 c2 c3 c4 : Nat) (n e m s : List UInt8) (w : World) (T : Sha.Tb w) (I : Inf w) (r1 : Rd w a1 n) (r2 : Rd w a2 e) (r3 : Rd w a3 m) (r4 : Rd w a4 s)
    (m3 : m.length ≤ c3) (m3' : c3 ≤ 9223372036854775807) (l1 : n.length ≤ 3000000) (l2 : e.length ≤ 3000000) (l3 : m.length ≤ 100000000) (l4 : s.length ≤ 3000000) :
    Calls Tryd.prog 18 #[.int .i64 h, .slice a1 n.length c1, .slice a2 e.length c2, .slice a3 m.length c3, .slice a4 s.length c4] w fun x w' => x = .returned (.int .i64 (verV h n e m s)) ∧ Below w.heap.size w w' := by
  have CK := known_any h w
  by_cases hh : isHB h = true
  · rw [hh] at CK
    have CY := key_any a1 a2 c1 c2 n e w r1 r2 (by omega) (by omega)
    by_cases hk : keyC n e = 0
    · have KP := key_parts hk
      have dk : (keyC n e != 0) = false := by rw [hk]; rfl
      by_cases hs : s.length = n.length
      · have ds : ((s.length : Int) != (n.length : Int)) = false := by rw [hs]; simp
        have C1 := fromb a4 c4 s w r4 l4
        have H1 : Hid (Rd w a1 n) := r1
        have H2 : Hid (Rd w a2 e) := r2
        have H3 : Hid (Rd w a3 m) := r3
        have HT : Hid (Sha.Tb w) := T
        have HI : Hid (Inf w) := I
        have HH : Hid (isHB h = true) := hh
        have HKP : Hid (KeyP n e) := KP
        have HV : Hid (verV h n e m s = if bv n ≤ bv s then 91 else if bv s ^ bv e % bv n = bv (emV h m n.length) then 0 else 91) := by
          show _ = _
          unfold verV
          rw [hh, hk, hs]
          simp
        have Hs : Hid (s.length = n.length) := hs
        generalize keyC n e = kc at *
        clear T I r1 r2 r3 r4 hh hk KP hs
        go_enter Tryd.func18, Tryd.ntmps18
        go_wp2_with fail
        refine CK.mono ?_
        rintro x w' ⟨rfl, rfl⟩
        clear CK
        go_wp2_with fail
        refine CY.mono ?_
        rintro x w' ⟨rfl, rfl⟩
        clear CY
        go_wp2_with fail
        refine C1.mono ?_
        rintro x w1 ⟨rS, rfl, hS1⟩
        clear C1
        have C2 := fromb a1 c1 n w1 (H1.out.below hS1.bel (Nat.le_refl _)) l1
        have HS1 : Hid (Nu w1 rS (bv s)) := hS1.nu
        have HB1 : Hid (Below w'.heap.size w' w1) := hS1.bel
        clear hS1
        go_wp2_with fail
        refine C2.mono ?_
        rintro x w2 ⟨rN, rfl, hN2⟩
        clear C2
        have HS2 : Hid (Nu w2 rS (bv s)) := HS1.out.below hN2.bel (Nat.le_refl _)
        have HN2 : Hid (Nu w2 rN (bv n)) := hN2.nu
        have HB2 : Hid (Below w'.heap.size w' w2) := HB1.out.trans (hN2.bel.mono HB1.out.size)
        have C3 := vcmp rS rN _ _ _ _ w2 HS2.out HN2.out (by omega) (by omega)
        clear hN2 HS1 HB1
        go_wp2_with fail
        refine C3.mono ?_
        rintro x w3 ⟨rfl, q, hw3⟩
        clear C3
        have HS3 : Hid (Nu w3 rS (bv s)) := by rw [hw3]; exact HS2.out
        have HN3 : Hid (Nu w3 rN (bv n)) := by rw [hw3]; exact HN2.out
        have HB3 : Hid (Below w'.heap.size w' w3) := by rw [hw3]; exact below_drewN HB2.out q
        clear hw3 HS2 HN2 HB2
        by_cases hlt : bv n ≤ bv s
        · have dc : decide (cmp3 ((bv s : Nat) : Int) ((bv n : Nat) : Int) ≥ 0) = true := by
            apply decide_eq_true
            unfold cmp3
            rw [if_neg (by omega)]
            split <;> omega
          have dc' : decide (0 ≤ cmp3 ((bv s : Nat) : Int) ((bv n : Nat) : Int)) = true := dc
          have HVv : Hid (verV h n e m s = 91) := by have := HV.out; rw [if_pos hlt] at this; exact this
          clear HV hlt
          generalize cmp3 ((bv s : Nat) : Int) ((bv n : Nat) : Int) = cm at *
          go_wp2
          go_ret
          rw [HVv.out]
          exact ⟨rfl, HB3.out⟩
        · have dc : decide (cmp3 ((bv s : Nat) : Int) ((bv n : Nat) : Int) ≥ 0) = false := by
            apply decide_eq_false
            unfold cmp3
            rw [if_pos (by omega)]
            omega
          have dc' : decide (0 ≤ cmp3 ((bv s : Nat) : Int) ((bv n : Nat) : Int)) = false := dc
          have C4 := fromb a2 c2 e w3 (H2.out.below HB3.out (Nat.le_refl _)) l2
          have hsn : bv s < bv n := by omega
          have HLt : Hid (bv s < bv n) := hsn
          have HV2 : Hid (verV h n e m s = if bv s ^ bv e % bv n = bv (emV h m n.length) then 0 else 91) := by have := HV.out; rw [if_neg hlt] at this; exact this
          clear HV hlt hsn
          generalize cmp3 ((bv s : Nat) : Int) ((bv n : Nat) : Int) = cm at *
          go_wp2_with fail
          refine C4.mono ?_
          rintro x w4 ⟨rE, rfl, hE4⟩
          clear C4
          have HB4 : Hid (Below w'.heap.size w' w4) := HB3.out.trans (hE4.bel.mono HB3.out.size)
          have HS4 := HS3.out.below hE4.bel (Nat.le_refl _)
          have HN4 := HN3.out.below hE4.bel (Nat.le_refl _)
          have C5 := mexp_v rS rE rN _ _ _ w4 HS4 hE4.nu HN4
          have hrc : rcode (bv n) (Lg (bv s) || Lg (bv e)) = 0 := by
            have k := HKP.out
            have hls : Lg (bv s) = false := Lg_lt (Nat.le_of_lt HLt.out) k.n2
            unfold rcode
            rw [k.nl, k.el, hls, if_neg (by simp), if_neg (by have := k.two; omega)]
          rw [hrc] at C5
          clear hrc HS4 HN4 hE4 HS3 HN3 HB3
          go_wp2_with fail
          refine C5.mono ?_
          intro x w5 hA
          clear C5
          obtain ⟨rP, rfl, hP5⟩ := (hA.resolve_left (fun hx => hx.1 rfl)).2
          clear hA
          have HB5 : Hid (Below w'.heap.size w' w5) := HB4.out.trans (hP5.bel.mono HB4.out.size)
          obtain ⟨P, hP⟩ : ∃ P, bv s ^ bv e % bv n = P := ⟨_, rfl⟩
          rw [hP] at hP5 HV2
          have hPl : P < 256 ^ n.length := by
            rw [← hP]
            exact Nat.lt_trans (Nat.mod_lt _ (by have := HKP.out.two; omega)) (kbv_lt n)
          have C6 := fixed_v rP P n.length w5 hP5.nu hPl (by have := HKP.out.n2; omega)
          have HPl : Hid (P < 256 ^ n.length) := hPl
          clear hP5 HB4 hP hPl
          go_wp2_with fail
          refine C6.mono ?_
          rintro x w6 ⟨rO, rfl, hO6⟩
          clear C6
          have HB6 : Hid (Below w'.heap.size w' w6) := HB5.out.trans (hO6.bel.mono HB5.out.size)
          have HO6 : Hid (Owb w6 w5.heap.size rO (tobe n.length P)) := hO6.own
          have C7 := encode_any h a3 c3 m (n.length : Int) w6 (HT.out.below HB6.out) (HI.out.below HB6.out) (H3.out.below HB6.out (Nat.le_refl _)) m3 m3' l3
          have hec := ecode_ok h n.length HH.out HKP.out.n1 HKP.out.n2
          have hev : encV h m (n.length : Int) = emV h m n.length := by unfold encV; rw [hec, if_pos rfl, Int.toNat_natCast]
          rw [hec, hev] at C7
          clear hO6 HB5 hec hev
          go_wp2_with fail
          refine C7.mono ?_
          rintro x w7 ⟨rM, rfl, hM7⟩
          clear C7
          have HB7 : Hid (Below w'.heap.size w' w7) := HB6.out.trans (hM7.bel.mono HB6.out.size)
          obtain ⟨aO, cO, eO, _, qO⟩ := (HO6.out.below hM7.bel (Nat.le_refl _)).nb
          obtain ⟨aM, cM, eM, _, qM⟩ := hM7.own.nb
          subst eO
          subst eM
          have C8 := equal_any aO aM cO cM _ _ w7 qO qM
          have hde : decide (tobe n.length P = emV h m n.length) = decide (P = bv (emV h m n.length)) := by
            apply decide_eq_decide.2
            exact tobe_eq _ _ _ (emV_length h m _ (by have := siz_le64 h; have := HKP.out.n1; omega)) HPl.out
          rw [hde] at C8
          clear hde qO qM hM7 HO6 HB6 HT HI H1 H2 H3
          generalize (tobe n.length P).length = z1 at *
          generalize (emV h m n.length).length = z2 at *
          by_cases hq : P = bv (emV h m n.length)
          · rw [decide_eq_true hq] at C8
            have HVv : Hid (verV h n e m s = 0) := by have := HV2.out; rw [if_pos hq] at this; exact this
            clear HV2 hq
            go_wp2_with fail
            refine C8.mono ?_
            rintro x w8 ⟨rfl, rfl⟩
            clear C8
            go_wp2
            go_ret
            rw [HVv.out]
            exact ⟨rfl, HB7.out⟩
          · rw [decide_eq_false hq] at C8
            have HVv : Hid (verV h n e m s = 91) := by have := HV2.out; rw [if_neg hq] at this; exact this
            clear HV2 hq
            go_wp2_with fail
            refine C8.mono ?_
            rintro x w8 ⟨rfl, rfl⟩
            clear C8
            go_wp2
            go_ret
            rw [HVv.out]
            exact ⟨rfl, HB7.out⟩
      · have ds : ((s.length : Int) != (n.length : Int)) = true := by simp; omega
        have HV : Hid (verV h n e m s = 91) := by show _ = _; unfold verV; rw [hh, hk, if_neg (by simp), if_neg (by simp), if_pos hs]
        generalize keyC n e = kc at *
        clear T I r1 r2 r3 r4 hh hk KP hs
        go_enter Tryd.func18, Tryd.ntmps18
        go_wp2_with fail
        refine CK.mono ?_
        rintro x w' ⟨rfl, rfl⟩
        clear CK
        go_wp2_with fail
        refine CY.mono ?_
        rintro x w' ⟨rfl, rfl⟩
        clear CY
        go_wp2
        go_ret
        rw [HV.out]
        exact ⟨rfl, Below.refl _ _⟩
    · have dk : (keyC n e != 0) = true := by simpa using hk
      have HV : Hid (verV h n e m s = 90) := by show _ = _; unfold verV; rw [hh, if_neg (by simp), if_pos hk]
      generalize keyC n e = kc at *
      clear T I r1 r2 r3 r4 hh hk
      go_enter Tryd.func18, Tryd.ntmps18
      go_wp2_with fail
      refine CK.mono ?_
      rintro x w' ⟨rfl, rfl⟩
      clear CK
      go_wp2_with fail
      refine CY.mono ?_
      rintro x w' ⟨rfl, rfl⟩
      clear CY
      go_wp2
      go_ret
      rw [HV.out]
      exact ⟨rfl, Below.refl _ _⟩
  · have hh2 : isHB h = false := by simpa using hh
    have HV : Hid (verV h n e m s = 111) := by show _ = _; unfold verV; rw [if_pos hh2]
    rw [hh2] at CK
    clear T I r1 r2 r3 r4 hh hh2
    go_enter Tryd.func18, Tryd.ntmps18
    go_wp2_with fail
    refine CK.mono ?_
    rintro x w' ⟨rfl, rfl⟩
    clear CK
    go_wp2
    go_ret
    rw [HV.out]
    exact ⟨rfl, Below.refl _ _⟩

end Go.Proofs.YtefpjjonmoofpaaDoor
