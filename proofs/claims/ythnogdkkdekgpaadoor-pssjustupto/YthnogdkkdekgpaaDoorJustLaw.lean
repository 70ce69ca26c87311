import Derived.Test.YthnogdkkdekgpaaDoorPJ
namespace Go.Proofs.YthnogdkkdekgpaaDoor
open Go.RowKit

set_option maxRecDepth 100000 in
set_option maxHeartbeats 8000000 in
theorem just_core (h : Int) (a1 a2 a3 a4 : Option Addr) (c1 c2 c3 c4 : Nat) (n e m s : List UInt8) (W : World) (T : Sha.Tb W) (r1 : Rd W a1 n) (r2 : Rd W a2 e) (r3 : Rd W a3 m) (r4 : Rd W a4 s)
    (k3 : m.length ≤ c3) (k3' : c3 ≤ 9223372036854775807) (l1 : n.length ≤ 3000000) (l2 : e.length ≤ 3000000) (l3 : m.length ≤ 3000000) (l4 : s.length ≤ 3000000) :
    Calls Tryd.prog 10 #[.int .i64 h, .slice a1 n.length c1, .slice a2 e.length c2, .slice a3 m.length c3, .slice a4 s.length c4] W fun x w' => x = .returned (.bool true) ∧ Below W.heap.size W w' := by
  have HT : Hid (Sha.Tb W) := T
  have H1 : Hid (Rd W a1 n) := r1
  have H2 : Hid (Rd W a2 e) := r2
  have H3 : Hid (Rd W a3 m) := r3
  have H4 : Hid (Rd W a4 s) := r4
  have CA := awake10 W T
  clear T r1 r2 r3 r4
  go_enter Tryd.func10, Tryd.ntmps10
  go_wp2_with fail
  refine CA.mono ?_
  rintro x w1 ⟨rfl, hb1⟩
  clear CA
  have HB1 : Hid (Below W.heap.size W w1) := hb1
  have CV := pverify_any h a1 a2 a3 a4 c1 c2 c3 c4 n e m s w1 (HT.out.below hb1) (H1.out.below hb1 (Nat.le_refl _)) (H2.out.below hb1 (Nat.le_refl _)) (H3.out.below hb1 (Nat.le_refl _)) (H4.out.below hb1 (Nat.le_refl _)) k3 k3' l1 l2 (by omega) l4
  obtain ⟨V, HV⟩ : ∃ V, Hid (pverV h n e m s = V) := ⟨_, rfl⟩
  rw [HV.out] at CV
  clear hb1
  go_wp2_with fail
  refine CV.mono ?_
  rintro x w2 ⟨rfl, hb2⟩
  clear CV
  have HB2 : Hid (Below W.heap.size W w2) := HB1.out.trans (hb2.mono HB1.out.size)
  have CS := Sha.size_any h w2
  clear hb2 HB1
  by_cases hh : isHB h = true
  case neg =>
    have hh2 : isHB h = false := by simpa using hh
    obtain rfl : V = 111 := by rw [← HV.out]; unfold pverV; rw [if_pos hh2]
    have C0 : Calls Tryd.prog 13 #[.int .i64 h] w2 fun e w' => e = .returned (.int .i64 0) ∧ w' = w2 := by rw [siz_zero hh2] at CS; exact CS
    clear hh hh2 CS HV
    go_wp2_with fail
    refine C0.mono ?_
    rintro x w' ⟨rfl, rfl⟩
    clear C0
    go_wp2
    go_ret
    exact ⟨rfl, HB2.out⟩
  have hs0 := isHB_pos hh
  have hs64 := siz_le64 h
  obtain ⟨S, HS⟩ : ∃ S, Hid (Sha.siz h = S) := ⟨_, rfl⟩
  rw [HS.out] at CS hs0 hs64
  have CK := key_any a1 a2 c1 c2 n e w2 (H1.out.below HB2.out (Nat.le_refl _)) (H2.out.below HB2.out (Nat.le_refl _)) (by omega) (by omega)
  by_cases hk : keyC n e = 0
  case neg =>
    obtain rfl : V = 90 := by rw [← HV.out]; unfold pverV; rw [hh, if_neg (by simp), if_pos hk]
    have dk : (keyC n e != 0) = true := by simpa using hk
    generalize keyC n e = kc at *
    clear HV hh hk
    go_wp2_with fail
    refine CS.mono ?_
    rintro x w' ⟨rfl, rfl⟩
    clear CS
    go_wp2_with fail
    refine CK.mono ?_
    rintro x w' ⟨rfl, rfl⟩
    clear CK
    go_wp2
    go_ret
    exact ⟨rfl, HB2.out⟩
  have KP := key_parts hk
  have HKP : Hid (KeyP n e) := KP
  have HH : Hid (isHB h = true) := hh
  have HV1 : Hid (V = if s.length ≠ n.length then 91 else if bv n ≤ bv s then 91 else if bv s ^ bv e % bv n < 256 ^ wid (bl (bv n) - 1) ∧ holdsV h (Sha.sumF h m) (tobe (wid (bl (bv n) - 1)) (bv s ^ bv e % bv n)) ((bl (bv n) - 1 : Nat) : Int) = true then 0 else 91) := by
    show _ = _
    rw [← HV.out]; unfold pverV; rw [hh, hk]; simp
  rw [hk] at CK
  have C1 := fromb a1 c1 n w2 (H1.out.below HB2.out (Nat.le_refl _)) l1
  clear HV KP hh hk
  go_wp2_with fail
  refine CS.mono ?_
  rintro x w' ⟨rfl, rfl⟩
  clear CS
  go_wp2_with fail
  refine CK.mono ?_
  rintro x w' ⟨rfl, rfl⟩
  clear CK
  go_wp2_with fail
  refine C1.mono ?_
  rintro x w3 ⟨rN, rfl, hN3⟩
  clear C1
  have HB3 : Hid (Below W.heap.size W w3) := HB2.out.trans (hN3.bel.mono HB2.out.size)
  have HN3 : Hid (Nu w3 rN (bv n)) := hN3.nu
  have C2 := fromb a4 c4 s w3 (H4.out.below HB3.out (Nat.le_refl _)) l4
  clear hN3 HB2
  go_wp2_with fail
  refine C2.mono ?_
  rintro x w4 ⟨rS, rfl, hS4⟩
  clear C2
  have HB4 : Hid (Below W.heap.size W w4) := HB3.out.trans (hS4.bel.mono HB3.out.size)
  have HN4 : Hid (Nu w4 rN (bv n)) := HN3.out.below hS4.bel (Nat.le_refl _)
  have HS4 : Hid (Nu w4 rS (bv s)) := hS4.nu
  have C3 := vcmp rS rN _ _ _ _ w4 HS4.out HN4.out (by omega) (by omega)
  clear hS4 HB3 HN3
  by_cases hs : s.length = n.length
  case neg =>
    obtain rfl : V = 91 := by rw [HV1.out, if_pos hs]
    have ds : ((s.length : Int) != (n.length : Int)) = true := by simp; omega
    clear HV1 hs C3
    go_wp2
    go_ret
    exact ⟨rfl, HB4.out⟩
  have ds : ((s.length : Int) != (n.length : Int)) = false := by rw [hs]; simp
  have dc := cmp_geD (bv s) (bv n)
  have dc' : decide (0 ≤ cmp3 ((bv s : Nat) : Int) ((bv n : Nat) : Int)) = decide (bv n ≤ bv s) := dc
  by_cases hlt : bv n ≤ bv s
  case pos =>
    rw [decide_eq_true hlt] at dc dc'
    obtain rfl : V = 91 := by rw [HV1.out, if_neg (by simpa using hs), if_pos hlt]
    clear HV1 hs hlt
    generalize cmp3 ((bv s : Nat) : Int) ((bv n : Nat) : Int) = cm at *
    go_wp2_with fail
    refine C3.mono ?_
    rintro x w5 ⟨rfl, q, hw5⟩
    clear C3
    have HB5 : Hid (Below W.heap.size W w5) := by rw [hw5]; exact below_drewN HB4.out q
    clear hw5
    go_wp2
    go_ret
    exact ⟨rfl, HB5.out⟩
  rw [decide_eq_false hlt] at dc dc'
  have HV2 : Hid (V = if bv s ^ bv e % bv n < 256 ^ wid (bl (bv n) - 1) ∧ holdsV h (Sha.sumF h m) (tobe (wid (bl (bv n) - 1)) (bv s ^ bv e % bv n)) ((bl (bv n) - 1 : Nat) : Int) = true then 0 else 91) := by
    show _ = _
    rw [HV1.out, if_neg (by simpa using hs), if_neg hlt]
  have HLt : Hid (bv s < bv n) := by show _ < _; omega
  clear HV1 hs hlt
  generalize cmp3 ((bv s : Nat) : Int) ((bv n : Nat) : Int) = cm at *
  go_wp2_with fail
  refine C3.mono ?_
  rintro x w5 ⟨rfl, q, hw5⟩
  clear C3
  have HB5 : Hid (Below W.heap.size W w5) := by rw [hw5]; exact below_drewN HB4.out q
  have HS5 : Hid (Nu w5 rS (bv s)) := by rw [hw5]; exact HS4.out
  have HN5 : Hid (Nu w5 rN (bv n)) := by rw [hw5]; exact HN4.out
  have C4 := fromb a2 c2 e w5 (H2.out.below HB5.out (Nat.le_refl _)) l2
  clear hw5 HS4 HN4 HB4
  go_wp2_with fail
  refine C4.mono ?_
  rintro x w6 ⟨rE, rfl, hE6⟩
  clear C4
  have HB6 : Hid (Below W.heap.size W w6) := HB5.out.trans (hE6.bel.mono HB5.out.size)
  have HS6 := HS5.out.below hE6.bel (Nat.le_refl _)
  have HN6 := HN5.out.below hE6.bel (Nat.le_refl _)
  have HHN6 : Hid (Nu w6 rN (bv n)) := HN6
  have C5 := mexp_v rS rE rN _ _ _ w6 HS6 hE6.nu HN6
  have hrc : rcode (bv n) (Lg (bv s) || Lg (bv e)) = 0 := by
    have k := HKP.out
    have hls : Lg (bv s) = false := Lg_lt (Nat.le_of_lt HLt.out) k.n2
    unfold rcode
    rw [k.nl, k.el, hls, if_neg (by simp), if_neg (by have := k.two; omega)]
  rw [hrc] at C5
  clear hrc HS6 HN6 hE6 HS5 HN5 HB5
  go_wp2_with fail
  refine C5.mono ?_
  intro x w7 hA
  clear C5
  obtain ⟨rP, rfl, hP7⟩ := (hA.resolve_left (fun hx => hx.1 rfl)).2
  clear hA
  have HB7 : Hid (Below W.heap.size W w7) := HB6.out.trans (hP7.bel.mono HB6.out.size)
  obtain ⟨P, hP⟩ : ∃ P, bv s ^ bv e % bv n = P := ⟨_, rfl⟩
  rw [hP] at hP7 HV2
  have hbl : bl (bv n) ≤ 4096 := bl_small HKP.out.nl
  have hbl1 : 0 < bl (bv n) := bl_pos _ (by have := HKP.out.two; omega)
  have C5b := vbits rN (bv n) _ w7 (HHN6.out.below hP7.bel (Nat.le_refl _)) (by omega)
  obtain ⟨b, eb⟩ : ∃ b : Nat, ((bl (bv n) : Nat) : Int) - 1 = (b : Int) := ⟨bl (bv n) - 1, by omega⟩
  have hb2 : bl (bv n) - 1 = b := by omega
  rw [hb2] at HV2
  have hb3 : b ≤ 4096 := by omega
  have HP7 : Hid (Nu w7 rP P) := hP7.nu
  clear hP7 HB6 hP hb2 HHN6
  generalize bl (bv n) = bln at *
  obtain ⟨m7, Hm7⟩ : ∃ x, Hid (b + 7 = x) := ⟨_, rfl⟩
  obtain ⟨k, Hk⟩ : ∃ x, Hid (wid b = x) := ⟨_, rfl⟩
  rw [Hk.out] at HV2
  have hm7 : m7 ≤ 5000 := by rw [← Hm7.out]; omega
  have hk1 : k ≤ 1000 := by rw [← Hk.out]; unfold wid; omega
  have e1 : (b : Int) + 7 = (m7 : Int) := by rw [← Hm7.out]; omega
  have e2 : Int.tdiv (m7 : Int) 8 = (k : Int) := by rw [Int.tdiv_eq_ediv_of_nonneg (by omega), ← Hk.out, ← Hm7.out]; unfold wid; omega
  have e3 : (m7 : Int) / 8 = (k : Int) := by rw [← Hk.out, ← Hm7.out]; unfold wid; omega
  go_wp2_with fail
  refine C5b.mono ?_
  rintro x wx ⟨rfl, rfl⟩
  clear C5b
  have C6 := pfixed_v rP P k wx HP7.out (by omega)
  by_cases hfit : P < 256 ^ k
  case neg =>
    rw [decide_eq_false hfit, if_neg hfit] at C6
    obtain rfl : V = 91 := by rw [HV2.out]; simp [hfit]
    clear HV2 hfit
    go_wp2_with fail
    refine C6.mono ?_
    rintro x w8 ⟨rO, rfl, hO8⟩
    clear C6
    have HB8 : Hid (Below W.heap.size W w8) := HB7.out.trans (hO8.bel.mono HB7.out.size)
    clear hO8
    go_wp2
    go_ret
    exact ⟨rfl, HB8.out⟩
  rw [decide_eq_true hfit, if_pos hfit] at C6
  have HV3 : Hid (V = if holdsV h (Sha.sumF h m) (tobe k P) (b : Int) = true then 0 else 91) := by show _ = _; rw [HV2.out]; simp [hfit]
  clear HV2 hfit
  go_wp2_with fail
  refine C6.mono ?_
  rintro x w8 ⟨rO, rfl, hO8⟩
  clear C6
  have HB8 : Below W.heap.size W w8 := HB7.out.trans (hO8.bel.mono HB7.out.size)
  have b9 := alloc_below w8 (.cells #[.slice a3 m.length c3] 23)
  have CQ := Sha.ssum_any h (some ⟨w8.heap.size, 0, none⟩) 1 [⟨a3, c3, m⟩] (w8.alloc (.cells #[.slice a3 m.length c3] 23)) ((HT.out.below HB8).below b9) (parts_one w8 ⟨a3, c3, m⟩ ⟨H3.out.below HB8 (Nat.le_refl _), k3, k3'⟩) (by simp) (by simp [Sha.cat]; omega)
  rw [show Sha.cat [⟨a3, c3, m⟩] = m by simp [Sha.cat], HS.out] at CQ
  obtain ⟨aO, cO, eO, hcO, qO⟩ := hO8.own.nb
  have hcO3 : cO ≤ 9223372036854775807 := by
    rcases hO8.own.2 with ⟨e0, _⟩ | ⟨g, cap, cur, e0, hg, _, _, hm, _⟩
    · rw [eO] at e0; injection e0 with _ _ e1; omega
    · rw [eO] at e0; injection e0 with _ _ e1; unfold maxLen at hm; omega
  rw [tobe_length] at eO hcO
  subst eO
  have HqO : Hid (Rd w8 aO (tobe k P)) := qO
  have HBB8 : Hid (Below W.heap.size W w8) := HB8
  clear qO hO8 HB8 HB7 b9
  go_wp2_with fail
  refine CQ.mono ?_
  rintro x w9 ⟨aQ, rfl, hOQ, hb9⟩
  clear CQ
  have b9 := alloc_below w8 (.cells #[.slice a3 m.length c3] 23)
  have b89 : Below w8.heap.size w8 w9 := b9.trans (hb9.mono b9.size)
  have HB9 : Hid (Below W.heap.size W w9) := HBB8.out.trans (b89.mono HBB8.out.size)
  have hsl : (Sha.sumF h m).length = S := by rw [Sha.sumF_length]; exact HS.out
  have CL := lucky_any h aQ aO S cO (Sha.sumF h m) (tobe k P) (b : Int) w9 (HT.out.below HB9.out) HH.out (Sha.Own.rd hOQ) (HqO.out.below b89 (Nat.le_refl _)) (by rw [hsl]; exact Nat.le_refl _) (by omega) (by rw [tobe_length]; exact hcO) hcO3 (by rw [hsl]; omega) (by rw [tobe_length]; omega)
  rw [hsl, tobe_length, lucky_holds] at CL
  generalize holdsV h (Sha.sumF h m) (tobe k P) (b : Int) = hv at *
  clear hOQ hb9 b9 b89 HqO HBB8 hsl
  cases hv with
  | true =>
    obtain rfl : V = 0 := by rw [HV3.out]; simp
    clear HV3
    go_wp2_with fail
    refine CL.mono ?_
    rintro x w10 ⟨rfl, hb10⟩
    clear CL
    have HB10 : Hid (Below W.heap.size W w10) := HB9.out.trans (hb10.mono HB9.out.size)
    clear hb10
    go_wp2
    go_ret
    exact ⟨rfl, HB10.out⟩
  | false =>
    obtain rfl : V = 91 := by rw [HV3.out]; simp
    clear HV3
    go_wp2_with fail
    refine CL.mono ?_
    rintro x w10 ⟨rfl, hb10⟩
    clear CL
    have HB10 : Hid (Below W.heap.size W w10) := HB9.out.trans (hb10.mono HB9.out.size)
    clear hb10
    go_wp2
    go_ret
    exact ⟨rfl, HB10.out⟩

end Go.Proofs.YthnogdkkdekgpaaDoor
