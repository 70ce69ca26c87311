import Derived.Test.YtefpjjonmoofpaaDoorOneLaw
namespace Go.Proofs.YtefpjjonmoofpaaDoor
open Go.RowKit

theorem kcmp_lt (a b : Nat) : decide (cmp3 ((a : Nat) : Int) ((b : Nat) : Int) < 0) = decide (a < b) := by
  unfold cmp3
  apply decide_eq_decide.2
  split
  · constructor <;> intro <;> omega
  · split <;> constructor <;> intro <;> omega
theorem kcmp_eq0 (a b : Nat) : (cmp3 ((a : Nat) : Int) ((b : Nat) : Int) == 0) = decide (a = b) := by
  unfold cmp3
  rw [Bool.eq_iff_iff, beq_iff_eq, decide_eq_true_iff]
  split
  · constructor <;> intro <;> omega
  · split <;> constructor <;> intro <;> omega

set_option maxRecDepth 100000 in
set_option maxHeartbeats 8000000 in
theorem eq_core (h : Int) (a1 a2 a3 a4 : Option Addr) (c1 c2 c3 c4 : Nat) (n e m s : List UInt8) (W : World) (T : Sha.Tb W) (I : Inf W) (r1 : Rd W a1 n) (r2 : Rd W a2 e) (r3 : Rd W a3 m) (r4 : Rd W a4 s)
    (k3 : m.length ≤ c3) (k3' : c3 ≤ 9223372036854775807) (l1 : n.length ≤ 3000000) (l2 : e.length ≤ 3000000) (l3 : m.length ≤ 3000000) (l4 : s.length ≤ 3000000) :
    Calls Tryd.prog 5 #[.int .i64 h, .slice a1 n.length c1, .slice a2 e.length c2, .slice a3 m.length c3, .slice a4 s.length c4] W fun x w' => x = .returned (.bool true) ∧ Below W.heap.size W w' := by
  have HT : Hid (Sha.Tb W) := T
  have HI : Hid (Inf W) := I
  have H1 : Hid (Rd W a1 n) := r1
  have H2 : Hid (Rd W a2 e) := r2
  have H3 : Hid (Rd W a3 m) := r3
  have H4 : Hid (Rd W a4 s) := r4
  have CA := alive9 W T I
  have HCN : Hid (∀ w, Calls Tryd.prog 11 #[.int .i64 h] w fun e w' => e = .returned (.bool (isHB h)) ∧ w' = w) := lknown_any h
  clear T I r1 r2 r3 r4
  go_enter Tryd.func5, Tryd.ntmps5
  go_wp2_with fail
  refine CA.mono ?_
  rintro x w1 ⟨rfl, hb1⟩
  clear CA
  have HB1 : Hid (Below W.heap.size W w1) := hb1
  have CV := verify_any h a1 a2 a3 a4 c1 c2 c3 c4 n e m s w1 (HT.out.below hb1) (HI.out.below hb1) (H1.out.below hb1 (Nat.le_refl _)) (H2.out.below hb1 (Nat.le_refl _)) (H3.out.below hb1 (Nat.le_refl _)) (H4.out.below hb1 (Nat.le_refl _)) k3 k3' (by omega) (by omega) (by omega) (by omega)
  obtain ⟨V, HV⟩ : ∃ V, Hid (verV h n e m s = V) := ⟨_, rfl⟩
  rw [HV.out] at CV
  clear hb1
  go_wp2_with fail
  refine CV.mono ?_
  rintro x w2 ⟨rfl, hb2⟩
  clear CV
  have HB2 : Hid (Below W.heap.size W w2) := HB1.out.trans (hb2.mono HB1.out.size)
  clear hb2 HB1
  by_cases hh : isHB h = false
  · have eV : V = 111 := by rw [← HV.out]; exact verV_none n e m s hh
    subst eV
    have CN := HCN.out w2
    rw [hh] at CN
    clear HV hh HCN
    go_wp2_with fail
    refine CN.mono ?_
    rintro x w' ⟨rfl, rfl⟩
    clear CN
    go_wp2
    go_ret
    exact ⟨rfl, HB2.out⟩
  have hh1 : isHB h = true := by simpa using hh
  have CN := HCN.out w2
  rw [hh1] at CN
  have CK := key_any a1 a2 c1 c2 n e w2 (H1.out.below HB2.out (Nat.le_refl _)) (H2.out.below HB2.out (Nat.le_refl _)) (by omega) (by omega)
  clear HCN
  by_cases hk : keyC n e = 0
  · have dk : (keyC n e != 0) = false := by rw [hk]; rfl
    by_cases hs : s.length = n.length
    · have ds : ((s.length : Int) != (n.length : Int)) = false := by rw [hs]; simp
      have HVV : Hid (V = if bv n ≤ bv s then 91 else if bv s ^ bv e % bv n = bv (emV h m n.length) then 0 else 91) := by
        show _ = _
        rw [← HV.out]
        unfold verV
        rw [hh1, hk, hs]
        simp
      have KP := key_parts hk
      have HKP : Hid (KeyP n e) := KP
      have HH : Hid (isHB h = true) := hh1
      have Hs : Hid (s.length = n.length) := hs
      generalize keyC n e = kc at *
      clear HV hh hh1 hk KP hs
      go_wp2_with fail
      refine CN.mono ?_
      rintro x w' ⟨rfl, rfl⟩
      clear CN
      go_wp2_with fail
      refine CK.mono ?_
      rintro x w' ⟨rfl, rfl⟩
      clear CK
      have C1 := fromb a1 c1 n w' (H1.out.below HB2.out (Nat.le_refl _)) l1
      go_wp2_with fail
      refine C1.mono ?_
      rintro x w3 ⟨rN, rfl, hN⟩
      clear C1
      have HB3 : Hid (Below W.heap.size W w3) := HB2.out.trans (hN.bel.mono HB2.out.size)
      have HN3 : Hid (Nu w3 rN (bv n)) := hN.nu
      have C2 := fromb a4 c4 s w3 (H4.out.below HB3.out (Nat.le_refl _)) l4
      clear hN HB2
      go_wp2_with fail
      refine C2.mono ?_
      rintro x w4 ⟨rS, rfl, hS⟩
      clear C2
      have HB4 : Hid (Below W.heap.size W w4) := HB3.out.trans (hS.bel.mono HB3.out.size)
      have HN4 : Hid (Nu w4 rN (bv n)) := HN3.out.below hS.bel (Nat.le_refl _)
      have HS4 : Hid (Nu w4 rS (bv s)) := hS.nu
      have C3 := encode_any h a3 c3 m (n.length : Int) w4 (HT.out.below HB4.out) (HI.out.below HB4.out) (H3.out.below HB4.out (Nat.le_refl _)) k3 k3' (by omega)
      have hec := ecode_ok h n.length HH.out HKP.out.n1 HKP.out.n2
      have hev : encV h m (n.length : Int) = emV h m n.length := by unfold encV; rw [hec, if_pos rfl, Int.toNat_natCast]
      rw [hec, hev] at C3
      clear hS HB3 HN3 hec hev
      go_wp2_with fail
      refine C3.mono ?_
      rintro x w5 ⟨rM, rfl, hM⟩
      clear C3
      have HB5 : Hid (Below W.heap.size W w5) := HB4.out.trans (hM.bel.mono HB4.out.size)
      have HN5 : Hid (Nu w5 rN (bv n)) := HN4.out.below hM.bel (Nat.le_refl _)
      have HS5 : Hid (Nu w5 rS (bv s)) := HS4.out.below hM.bel (Nat.le_refl _)
      have hml := emV_length h m n.length (by have := siz_le64 h; have := HKP.out.n1; omega)
      obtain ⟨aM, cM, eM, hMr⟩ : ∃ a c, rM = .slice a n.length c ∧ Hid (Rd w5 a (emV h m n.length)) := by
        obtain ⟨a, c, e, _, hr⟩ := hM.own.nb
        rw [hml] at e
        exact ⟨a, c, e, hr⟩
      subst eM
      have C4 := fromb a2 c2 e w5 (H2.out.below HB5.out (Nat.le_refl _)) l2
      have Hml : Hid ((emV h m n.length).length = n.length) := hml
      clear hM HB4 HN4 HS4 hml HT HI H1 H3 H4
      go_wp2_with fail
      refine C4.mono ?_
      rintro x w6 ⟨rE, rfl, hE⟩
      clear C4
      have HB6 : Hid (Below W.heap.size W w6) := HB5.out.trans (hE.bel.mono HB5.out.size)
      have HN6 : Hid (Nu w6 rN (bv n)) := HN5.out.below hE.bel (Nat.le_refl _)
      have HS6 : Hid (Nu w6 rS (bv s)) := HS5.out.below hE.bel (Nat.le_refl _)
      have HM6 : Hid (Rd w6 aM (emV h m n.length)) := hMr.out.below hE.bel (Nat.le_refl _)
      have C5 := mexp_v rS rE rN _ _ _ w6 HS6.out hE.nu HN6.out
      have hrc : rcode (bv n) (Lg (bv s) || Lg (bv e)) = 0 := by
        have k := HKP.out
        have hls : Lg (bv s) = false := Lg_lt (Nat.le_refl _) (by rw [Hs.out]; exact k.n2)
        unfold rcode
        rw [k.nl, k.el, hls, if_neg (by simp), if_neg (by have := k.two; omega)]
      rw [hrc] at C5
      clear hrc hE HB5 HN5 HS5 hMr H2
      go_wp2_with fail
      refine C5.mono ?_
      intro x w7 hA
      clear C5
      obtain ⟨rP, rfl, hP⟩ := (hA.resolve_left (fun hx => hx.1 rfl)).2
      clear hA
      have HB7 : Hid (Below W.heap.size W w7) := HB6.out.trans (hP.bel.mono HB6.out.size)
      have HN7 : Hid (Nu w7 rN (bv n)) := HN6.out.below hP.bel (Nat.le_refl _)
      have HS7 : Hid (Nu w7 rS (bv s)) := HS6.out.below hP.bel (Nat.le_refl _)
      have HM7 : Hid (Rd w7 aM (emV h m n.length)) := HM6.out.below hP.bel (Nat.le_refl _)
      have HP7 : Hid (Nu w7 rP (bv s ^ bv e % bv n)) := hP.nu
      have C6 := vcmp rS rN _ _ _ _ w7 HS7.out HN7.out (by omega) (by omega)
      have d6 := kcmp_lt (bv s) (bv n)
      clear hP HB6 HN6 HS6 HM6
      generalize cmp3 ((bv s : Nat) : Int) ((bv n : Nat) : Int) = cm at *
      go_wp2_with fail
      refine C6.mono ?_
      rintro x w8 ⟨rfl, q8, hw8⟩
      clear C6
      have HB8 : Hid (Below W.heap.size W w8) := by rw [hw8]; exact below_drewN HB7.out q8
      have HM8 : Hid (Rd w8 aM (emV h m n.length)) := by rw [hw8]; exact HM7.out
      have HP8 : Hid (Nu w8 rP (bv s ^ bv e % bv n)) := by rw [hw8]; exact HP7.out
      clear hw8 HB7 HM7 HP7 HN7 HS7
      by_cases hlt : bv s < bv n
      · rw [decide_eq_true hlt] at d6
        have C7 := fromb aM cM (emV h m n.length) w8 HM8.out (by rw [Hml.out]; exact l1)
        rw [Hml.out] at C7
        obtain ⟨P, hPe⟩ : ∃ P, bv s ^ bv e % bv n = P := ⟨_, rfl⟩
        have HV2 : Hid (V = if P = bv (emV h m n.length) then 0 else 91) := by
          have := HVV.out
          rw [if_neg (by omega), hPe] at this
          exact this
        rw [hPe] at HP8
        clear hPe HVV hlt
        go_wp2_with fail
        refine C7.mono ?_
        rintro x w9 ⟨rQ, rfl, hQ⟩
        clear C7
        have HB9 : Hid (Below W.heap.size W w9) := HB8.out.trans (hQ.bel.mono HB8.out.size)
        have C8 := vcmp rP rQ _ _ _ _ w9 (HP8.out.below hQ.bel (Nat.le_refl _)) hQ.nu (by omega) (by omega)
        have d8 := kcmp_eq0 P (bv (emV h m n.length))
        clear hQ HB8 HM8 HP8
        generalize cmp3 ((P : Nat) : Int) ((bv (emV h m n.length) : Nat) : Int) = cq at *
        by_cases hq : P = bv (emV h m n.length)
        · rw [decide_eq_true hq] at d8
          have eV : V = 0 := by have := HV2.out; rw [if_pos hq] at this; exact this
          subst eV
          clear HV2 hq
          go_wp2_with fail
          refine C8.mono ?_
          rintro x wz ⟨rfl, qz, hwz⟩
          clear C8
          have HZ : Hid (Below W.heap.size W wz) := by rw [hwz]; exact below_drewN HB9.out qz
          clear hwz HB9
          go_wp2
          go_ret
          exact ⟨rfl, HZ.out⟩
        · rw [decide_eq_false hq] at d8
          have eV : V = 91 := by have := HV2.out; rw [if_neg hq] at this; exact this
          subst eV
          clear HV2 hq
          go_wp2_with fail
          refine C8.mono ?_
          rintro x wz ⟨rfl, qz, hwz⟩
          clear C8
          have HZ : Hid (Below W.heap.size W wz) := by rw [hwz]; exact below_drewN HB9.out qz
          clear hwz HB9
          go_wp2
          go_ret
          exact ⟨rfl, HZ.out⟩
      · rw [decide_eq_false hlt] at d6
        have eV : V = 91 := by have := HVV.out; rw [if_pos (by omega)] at this; exact this
        subst eV
        clear HVV hlt HM8 HP8
        go_wp2
        go_ret
        exact ⟨rfl, HB8.out⟩
    · have ds : ((s.length : Int) != (n.length : Int)) = true := by simp; omega
      have eV : V = 91 := by rw [← HV.out]; unfold verV; rw [hh1, hk, if_neg (by simp), if_neg (by simp), if_pos hs]
      subst eV
      generalize keyC n e = kc at *
      clear HV hh hh1 hk hs
      go_wp2_with fail
      refine CN.mono ?_
      rintro x w' ⟨rfl, rfl⟩
      clear CN
      go_wp2_with fail
      refine CK.mono ?_
      rintro x w' ⟨rfl, rfl⟩
      clear CK
      go_wp2
      go_ret
      exact ⟨rfl, HB2.out⟩
  · have dk : (keyC n e != 0) = true := by simpa using hk
    have eV : V = 90 := by rw [← HV.out]; unfold verV; rw [hh1, if_neg (by simp), if_pos hk]
    subst eV
    generalize keyC n e = kc at *
    clear HV hh hh1 hk
    go_wp2_with fail
    refine CN.mono ?_
    rintro x w' ⟨rfl, rfl⟩
    clear CN
    go_wp2_with fail
    refine CK.mono ?_
    rintro x w' ⟨rfl, rfl⟩
    clear CK
    go_wp2
    go_ret
    exact ⟨rfl, HB2.out⟩

end Go.Proofs.YtefpjjonmoofpaaDoor
