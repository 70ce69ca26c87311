import Derived.Test.YthnogdkkdekgpaaGreatDoorRW
namespace Go.Proofs.YthnogdkkdekgpaaGreatDoor
open Go.RowKit

set_option maxRecDepth 100000 in
set_option maxHeartbeats 4000000 in
theorem rpverify_any (h : Int) (a1 a2 a3 a4 : Option Addr) (c1 c2 c3 c4 : Nat) (n e m s : List UInt8) (w : World) (R : Sha.Rt w) (r1 : Rd w a1 n) (r2 : Rd w a2 e) (r3 : Rd w a3 m) (r4 : Rd w a4 s)
    (n3 : a3 = none → m.length = 0 ∧ c3 = 0) (l1 : n.length ≤ 3000000) (l2 : e.length ≤ 3000000) (l3 : m.length ≤ 100000000) (l4 : s.length ≤ 3000000) :
    Calls Tryz.prog 6 #[.int .i64 h, .slice a1 n.length c1, .slice a2 e.length c2, .slice a3 m.length c3, .slice a4 s.length c4] w fun x w' => x = .returned (.int .i64 (pverV h n e m s)) ∧ Below w.heap.size w w' := by
  have CZ := Sha.rsize_any h w
  obtain ⟨V, HV⟩ : ∃ V, Hid (pverV h n e m s = V) := ⟨_, rfl⟩
  rw [HV.out]
  by_cases hh : isHB h = true
  case neg =>
    have hh2 : isHB h = false := by simpa using hh
    obtain rfl : V = 111 := by rw [← HV.out]; unfold pverV; rw [if_pos hh2]
    rw [siz_zero hh2] at CZ
    clear R r1 r2 r3 r4 n3 hh hh2 HV
    go_enter Tryz.func6, Tryz.ntmps6
    go_wp2_with fail
    refine CZ.mono ?_
    rintro x w' ⟨rfl, rfl⟩
    clear CZ
    go_wp2
    go_ret
    exact ⟨rfl, Below.refl _ _⟩
  have hs0 := isHB_pos hh
  have hs64 := siz_le64 h
  have dz : ((Sha.siz h : Int) == 0) = false := by rw [beq_eq_false_iff_ne]; omega
  have CK := rkey_any a1 a2 c1 c2 n e w r1 r2 (by omega) (by omega)
  have H1 : Hid (Rd w a1 n) := r1
  have H2 : Hid (Rd w a2 e) := r2
  have H3 : Hid (Rd w a3 m) := r3
  have H4 : Hid (Rd w a4 s) := r4
  have HR : Hid (Sha.Rt w) := R
  have HN3 : Hid (a3 = none → m.length = 0 ∧ c3 = 0) := n3
  have HH : Hid (isHB h = true) := hh
  obtain ⟨S, HS⟩ : ∃ S, Hid (Sha.siz h = S) := ⟨_, rfl⟩
  rw [HS.out] at CZ dz hs0 hs64
  clear R r1 r2 r3 r4 n3 hh
  by_cases hk : keyC n e = 0
  case neg =>
    have dk : (keyC n e != 0) = true := by simpa using hk
    obtain rfl : V = 90 := by rw [← HV.out]; unfold pverV; rw [HH.out, if_neg (by simp), if_pos hk]
    generalize keyC n e = kc at *
    clear hk HV
    go_enter Tryz.func6, Tryz.ntmps6
    go_wp2_with fail
    refine CZ.mono ?_
    rintro x w' ⟨rfl, rfl⟩
    clear CZ
    go_wp2_with fail
    refine CK.mono ?_
    rintro x w1 ⟨rfl, hb1⟩
    clear CK
    have HB1 : Hid (Below w'.heap.size w' w1) := hb1
    clear hb1
    go_wp2
    go_ret
    exact ⟨rfl, HB1.out⟩
  have dk : (keyC n e != 0) = false := by rw [hk]; rfl
  have HKP : Hid (KeyP n e) := key_parts hk
  have hbl : bl (bv n) ≤ 4096 := bl_small HKP.out.nl
  have hbl1 : 0 < bl (bv n) := bl_pos _ (by have := HKP.out.two; omega)
  have HV2 : Hid (V = if s.length ≠ n.length then 91 else if bv n ≤ bv s then 91 else if bv s ^ bv e % bv n < 256 ^ wid (bl (bv n) - 1) ∧ holdsV h (Sha.sumF h m) (tobe (wid (bl (bv n) - 1)) (bv s ^ bv e % bv n)) ((bl (bv n) - 1 : Nat) : Int) = true then 0 else 91) := by
    show _ = _
    rw [← HV.out]
    unfold pverV
    rw [HH.out, hk, if_neg (by simp), if_neg (by simp)]
  generalize keyC n e = kc at *
  clear hk HV
  go_enter Tryz.func6, Tryz.ntmps6
  go_wp2_with fail
  refine CZ.mono ?_
  rintro x w0 ⟨rfl, hw0⟩
  obtain rfl := hw0
  clear CZ
  go_wp2_with fail
  refine CK.mono ?_
  rintro x w1 ⟨rfl, hb1⟩
  clear CK
  have HB1 : Hid (Below w0.heap.size w0 w1) := hb1
  have C1 := rnumber_any a1 c1 n w1 (H1.out.below hb1 (Nat.le_refl _)) l1
  clear hb1
  go_wp2_with fail
  refine C1.mono ?_
  rintro x w2 ⟨rN, rfl, hN⟩
  clear C1
  have HB2 : Hid (Below w0.heap.size w0 w2) := HB1.out.trans (hN.bel.mono HB1.out.size)
  have HN2 : Hid (Nd w2 rN (bv n) 3000000) := hN.nd
  have C2 := rnumber_any a4 c4 s w2 (H4.out.below HB2.out (Nat.le_refl _)) l4
  clear hN HB1 dk dz
  go_wp2_with fail
  refine C2.mono ?_
  rintro x w3 ⟨rS, rfl, hS⟩
  clear C2
  have HB3 : Hid (Below w0.heap.size w0 w3) := HB2.out.trans (hS.bel.mono HB2.out.size)
  have HN3' : Hid (Nd w3 rN (bv n) 3000000) := HN2.out.below hS.bel (Nat.le_refl _)
  have HS3 : Hid (Nd w3 rS (bv s) 3000000) := hS.nd
  clear hS HN2 HB2
  by_cases hs : s.length = n.length
  case neg =>
    have ds : ((s.length : Int) != (n.length : Int)) = true := by simp; omega
    obtain rfl : V = 91 := by have := HV2.out; rw [if_pos hs] at this; exact this
    clear hs HV2
    go_wp2
    go_ret
    exact ⟨rfl, HB3.out⟩
  have ds : ((s.length : Int) != (n.length : Int)) = false := by rw [hs]; simp
  have C3 := dcmp rS rN _ _ _ _ w3 HS3.out.1 HN3'.out.1 (by omega) (by omega)
  have Hs : Hid (s.length = n.length) := hs
  clear hs
  have dc := cmp_geD (bv s) (bv n)
  have dc' : decide (0 ≤ cmp3 ((bv s : Nat) : Int) ((bv n : Nat) : Int)) = decide (bv n ≤ bv s) := dc
  by_cases hlt : bv n ≤ bv s
  · rw [decide_eq_true hlt] at dc dc'
    obtain rfl : V = 91 := by have := HV2.out; rw [if_neg (by rw [Hs.out]; simp), if_pos hlt] at this; exact this
    clear HV2 hlt
    generalize cmp3 ((bv s : Nat) : Int) ((bv n : Nat) : Int) = cm at *
    go_wp2_with fail
    refine C3.mono ?_
    rintro x w' ⟨rfl, rfl⟩
    clear C3
    go_wp2
    go_ret
    exact ⟨rfl, HB3.out⟩
  rw [decide_eq_false hlt] at dc dc'
  have HLt : Hid (bv s < bv n) := by show _ < _; omega
  have HV3 : Hid (V = if bv s ^ bv e % bv n < 256 ^ wid (bl (bv n) - 1) ∧ holdsV h (Sha.sumF h m) (tobe (wid (bl (bv n) - 1)) (bv s ^ bv e % bv n)) ((bl (bv n) - 1 : Nat) : Int) = true then 0 else 91) := by have := HV2.out; rw [if_neg (by rw [Hs.out]; simp), if_neg hlt] at this; exact this
  clear HV2 hlt
  generalize cmp3 ((bv s : Nat) : Int) ((bv n : Nat) : Int) = cm at *
  go_wp2_with fail
  refine C3.mono ?_
  rintro x w4 ⟨rfl, hw4⟩
  obtain rfl := hw4
  clear C3
  have C5 := rnumber_any a2 c2 e w4 (H2.out.below HB3.out (Nat.le_refl _)) l2
  go_wp2_with fail
  refine C5.mono ?_
  rintro x w6 ⟨rE, rfl, hE⟩
  clear C5
  have HB6 : Hid (Below w0.heap.size w0 w6) := HB3.out.trans (hE.bel.mono HB3.out.size)
  have HN6 : Hid (Nd w6 rN (bv n) 3000000) := HN3'.out.below hE.bel (Nat.le_refl _)
  have C6 := dexp rS rE rN _ _ _ w6 (HS3.out.below hE.bel (Nat.le_refl _)) hE.nd HN6.out
  have hrc : rcode (bv n) (Lg (bv s) || Lg (bv e)) = 0 := by
    have k := HKP.out
    have hls : Lg (bv s) = false := Lg_lt (Nat.le_of_lt HLt.out) k.n2
    unfold rcode
    rw [k.nl, k.el, hls, if_neg (by simp), if_neg (by have := k.two; omega)]
  rw [hrc] at C6
  clear hrc hE HB3 HN3' HS3
  go_wp2_with fail
  refine C6.mono ?_
  intro x w7 hA
  clear C6
  obtain ⟨rP, rfl, hP⟩ := (hA.resolve_left (fun hx => hx.1 rfl)).2
  clear hA
  have HB7 : Hid (Below w0.heap.size w0 w7) := HB6.out.trans (hP.bel.mono HB6.out.size)
  obtain ⟨P, hPe⟩ : ∃ P, bv s ^ bv e % bv n = P := ⟨_, rfl⟩
  rw [hPe] at hP HV3
  have HP7 : Hid (Nd w7 rP P 3000000) := hP.nd
  have CB := rpbits_any rN (bv n) w7 (HN6.out.below hP.bel (Nat.le_refl _))
  obtain ⟨b, eb⟩ : ∃ b : Nat, ((bl (bv n) : Nat) : Int) - 1 = (b : Int) := ⟨bl (bv n) - 1, by omega⟩
  have hb2 : bl (bv n) - 1 = b := by omega
  rw [hb2] at HV3
  have hb3 : b ≤ 4096 := by omega
  obtain ⟨k, Hk⟩ : ∃ k, Hid (wid b = k) := ⟨_, rfl⟩
  obtain ⟨b7, Hb7⟩ : ∃ x, Hid (b + 7 = x) := ⟨_, rfl⟩
  have hkb : k ≤ 1000 := by rw [← Hk.out]; unfold wid; omega
  have hb7 : b7 ≤ 66000 := by rw [← Hb7.out]; omega
  have e1 : (b : Int) + 7 = (b7 : Int) := by rw [← Hb7.out]; omega
  have e2 : Int.tdiv (b7 : Int) 8 = (k : Int) := by rw [Int.tdiv_eq_ediv_of_nonneg (by omega), ← Hk.out, ← Hb7.out]; unfold wid; omega
  have e3 : (b7 : Int) / 8 = (k : Int) := by rw [← Hk.out, ← Hb7.out]; unfold wid; omega
  rw [Hk.out] at HV3
  clear hP HB6 HN6 hPe hb2
  generalize bl (bv n) = bln at *
  go_wp2_with fail
  refine CB.mono ?_
  rintro x w8 ⟨rfl, hw8⟩
  obtain rfl := hw8
  clear CB
  have CF := rpfixed_any rP P k w8 HP7.out (by omega)
  by_cases hfit : P < 256 ^ k
  case neg =>
    rw [decide_eq_false hfit, if_neg hfit] at CF
    obtain rfl : V = 91 := by have := HV3.out; simpa [hfit] using this
    clear HV3 hfit
    go_wp2_with fail
    refine CF.mono ?_
    rintro x w9 ⟨rO, rfl, hO⟩
    clear CF
    have HB9 : Hid (Below w0.heap.size w0 w9) := HB7.out.trans (hO.bel.mono HB7.out.size)
    clear hO
    go_wp2
    go_ret
    exact ⟨rfl, HB9.out⟩
  rw [decide_eq_true hfit, if_pos hfit] at CF
  have HV4 : Hid (V = if holdsV h (Sha.sumF h m) (tobe k P) (b : Int) = true then 0 else 91) := by have := HV3.out; show _ = _; rw [this]; simp [hfit]
  clear HV3 hfit
  go_wp2_with fail
  refine CF.mono ?_
  rintro x w9 ⟨rO, rfl, hO⟩
  clear CF
  have HB9 : Hid (Below w0.heap.size w0 w9) := HB7.out.trans (hO.bel.mono HB7.out.size)
  obtain ⟨aO, cO, eO, hcO, qO⟩ := hO.own.nb
  have hcO3 : cO ≤ 9223372036854775807 := by
    rcases hO.own.2 with ⟨e0, _⟩ | ⟨g, cap, cur, e0, hg, _, _, hm, _⟩
    · rw [eO] at e0; injection e0 with _ _ e1; omega
    · rw [eO] at e0; injection e0 with _ _ e1; unfold maxLen at hm; omega
  rw [tobe_length] at eO hcO
  subst eO
  have HqO : Hid (Rd w9 aO (tobe k P)) := qO
  have CS := Sha.rsum_any h a3 c3 m w9 (RtB HR.out HB9.out (Nat.le_refl _)) (H3.out.below HB9.out (Nat.le_refl _)) HN3.out l3
  rw [HS.out] at CS
  clear qO hO HB7 HP7
  go_wp2_with fail
  refine CS.mono ?_
  rintro x w10 ⟨aS, cS, rfl, hc1, hc2, hn, hR, _, hb⟩
  clear CS
  have HB10 : Hid (Below w0.heap.size w0 w10) := HB9.out.trans (hb.mono HB9.out.size)
  have hsl : (Sha.sumF h m).length = S := by rw [Sha.sumF_length]; exact HS.out
  have CH := rholds_any h aS aO cS cO (Sha.sumF h m) (tobe k P) (b : Int) w10 (RtB HR.out HB10.out (Nat.le_refl _)) hR (HqO.out.below hb (Nat.le_refl _)) (by rw [hsl]; exact hn) (by rw [tobe_length]; exact hcO) hcO3 (by rw [hsl]; omega) (by rw [tobe_length]; omega)
  rw [hsl, tobe_length] at CH
  generalize holdsV h (Sha.sumF h m) (tobe k P) (b : Int) = hv at *
  clear hc1 hc2 hn hR hb hsl HqO HB9
  cases hv with
  | true =>
    obtain rfl : V = 0 := by have := HV4.out; simpa using this
    clear HV4
    go_wp2_with fail
    refine CH.mono ?_
    rintro x w11 ⟨rfl, hb⟩
    clear CH
    have HB11 : Hid (Below w0.heap.size w0 w11) := HB10.out.trans (hb.mono HB10.out.size)
    clear hb
    go_wp2
    go_ret
    exact ⟨rfl, HB11.out⟩
  | false =>
    obtain rfl : V = 91 := by have := HV4.out; simpa using this
    clear HV4
    go_wp2_with fail
    refine CH.mono ?_
    rintro x w11 ⟨rfl, hb⟩
    clear CH
    have HB11 : Hid (Below w0.heap.size w0 w11) := HB10.out.trans (hb.mono HB10.out.size)
    clear hb
    go_wp2
    go_ret
    exact ⟨rfl, HB11.out⟩

end Go.Proofs.YthnogdkkdekgpaaGreatDoor
