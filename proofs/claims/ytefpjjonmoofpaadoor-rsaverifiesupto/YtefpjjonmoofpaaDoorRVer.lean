import Derived.Test.YtefpjjonmoofpaaDoorREnc
import Derived.Test.YtefpjjonmoofpaaDoorEqLaw
import Derived.Test.YtefpjjonmoofpaaDoorRKey
import Derived.Test.YtefpjjonmoofpaaDoorNtY5
namespace Go.Proofs.YtefpjjonmoofpaaDoor
open Go.RowKit

theorem rfromb (a : Option Addr) (c : Nat) (l : List UInt8) (w : World) (h : Rd w a l) (hl : l.length ≤ 3000000) : Calls Tryd.prog 54 #[.slice a l.length c] w fun e w' => ∃ r, e = .returned r ∧ Re w w' r (bv l) := by
  refine (rfromBytes_any a c l w h (by omega)).mono ?_
  rintro e w' ⟨r, rfl, h1, h2⟩
  exact ⟨r, rfl, h1, dg_bytes _ l _ (Nat.le_refl _) (by omega), h2⟩
theorem rcmp_v (v u : Value) (U V k m : Nat) (w : World) (hv : Vl w v U k) (hu : Vl w u V m) (hk : k ≤ 100000000) (hm : m ≤ 100000000) :
    Calls Tryd.prog 55 #[v, u] w fun e w' => e = .returned (.int .i64 (cmp3 U V)) ∧ w' = w := by
  obtain ⟨xs, n1, rfl, k1⟩ := hv
  obtain ⟨ys, n2, rfl, k2⟩ := hu
  exact rcmp_nm v u xs ys w n1 n2 (by omega) (by omega)

set_option maxRecDepth 100000 in
set_option maxHeartbeats 8000000 in
theorem rverify_any (h : Int) (a1 a2 a3 a4 : Option Addr) (c1 c2 c3 c4 : Nat) (n e m s : List UInt8) (w : World) (R : Sha.Rt w) (r1 : Rd w a1 n) (r2 : Rd w a2 e) (r3 : Rd w a3 m) (r4 : Rd w a4 s)
    (n3 : a3 = none → m.length = 0 ∧ c3 = 0) (l1 : n.length ≤ 3000000) (l2 : e.length ≤ 3000000) (l3 : m.length ≤ 100000000) (l4 : s.length ≤ 3000000) :
    Calls Tryd.prog 28 #[.int .i64 h, .slice a1 n.length c1, .slice a2 e.length c2, .slice a3 m.length c3, .slice a4 s.length c4] w fun x w' => x = .returned (.int .i64 (verV h n e m s)) ∧ Below w.heap.size w w' := by
  obtain ⟨V, HV⟩ : ∃ V, Hid (verV h n e m s = V) := ⟨_, rfl⟩
  rw [HV.out]
  by_cases hh : isHB h = true
  case neg =>
    have hh2 : isHB h = false := by simpa using hh
    obtain rfl : V = 111 := by rw [← HV.out]; unfold verV; rw [if_pos hh2]
    have hx : h < 1 ∨ 3 < h := by
      rcases Int.lt_or_le h 1 with h1 | h1
      · exact .inl h1
      · right
        rcases Int.lt_or_le 3 h with h2 | h2
        · exact h2
        · exact absurd ((isHB_iff h).2 (by unfold Sha.isH; omega)) hh
    clear R r1 r2 r3 r4 n3 hh hh2 HV
    by_cases h1 : h < 1
    · have d1 : decide (h < 1) = true := decide_eq_true h1
      clear h1 hx
      go_enter Tryd.func28, Tryd.ntmps28
      go_wp2
      go_ret
      exact ⟨rfl, Below.refl _ _⟩
    · have d1 : decide (h < 1) = false := decide_eq_false h1
      have d2 : decide (h > 3) = true := decide_eq_true (by omega)
      have d2' : decide (3 < h) = true := decide_eq_true (by omega)
      clear h1 hx
      go_enter Tryd.func28, Tryd.ntmps28
      go_wp2
      go_ret
      exact ⟨rfl, Below.refl _ _⟩
  have hH := (isHB_iff h).1 hh
  have d1 : decide (h < 1) = false := decide_eq_false (by rcases hH with e | e | e <;> omega)
  have d2 : decide (h > 3) = false := decide_eq_false (by rcases hH with e | e | e <;> omega)
  have d2' : decide (3 < h) = false := decide_eq_false (by rcases hH with e | e | e <;> omega)
  have CK := rkey_any a1 a2 c1 c2 n e w r1 r2 (by omega) (by omega)
  have H1 : Hid (Rd w a1 n) := r1
  have H2 : Hid (Rd w a2 e) := r2
  have H3 : Hid (Rd w a3 m) := r3
  have H4 : Hid (Rd w a4 s) := r4
  have HR : Hid (Sha.Rt w) := R
  have HN3 : Hid (a3 = none → m.length = 0 ∧ c3 = 0) := n3
  have HH : Hid (isHB h = true) := hh
  clear R r1 r2 r3 r4 n3 hH hh
  by_cases hk : keyC n e = 0
  case neg =>
    have dk : (keyC n e != 0) = true := by simpa using hk
    have eV : V = keyC n e := by
      rw [← HV.out]
      unfold verV
      rw [HH.out, if_neg (by simp), if_pos hk]
      unfold keyC at hk ⊢
      split at hk
      · exact absurd rfl hk
      · rename_i hx; rw [if_neg hx]
    rw [← eV] at CK dk
    clear hk eV HV
    go_enter Tryd.func28, Tryd.ntmps28
    go_wp2_with fail
    refine CK.mono ?_
    rintro x w1 ⟨rfl, hb1⟩
    clear CK
    have HB1 : Hid (Below w.heap.size w w1) := hb1
    clear hb1
    go_wp2
    go_ret
    exact ⟨rfl, HB1.out⟩
  have dk : (keyC n e != 0) = false := by rw [hk]; rfl
  have HKP : Hid (KeyP n e) := key_parts hk
  have HV2 : Hid (V = if s.length ≠ n.length then 91 else if bv n ≤ bv s then 91 else if bv s ^ bv e % bv n = bv (emV h m n.length) then 0 else 91) := by
    show _ = _
    rw [← HV.out]
    unfold verV
    rw [HH.out, hk, if_neg (by simp), if_neg (by simp)]
  generalize keyC n e = kc at *
  clear hk HV
  go_enter Tryd.func28, Tryd.ntmps28
  go_wp2_with fail
  refine CK.mono ?_
  rintro x w1 ⟨rfl, hb1⟩
  clear CK
  have HB1 : Hid (Below w.heap.size w w1) := hb1
  have C1 := rfromb a1 c1 n w1 (H1.out.below hb1 (Nat.le_refl _)) l1
  clear hb1
  go_wp2_with fail
  refine C1.mono ?_
  rintro x w2 ⟨rN, rfl, hN⟩
  clear C1
  have HB2 : Hid (Below w.heap.size w w2) := HB1.out.trans (hN.bel.mono HB1.out.size)
  have HN2 : Hid (Nd w2 rN (bv n) 3000000) := hN.nd
  have C2 := rfromb a4 c4 s w2 (H4.out.below HB2.out (Nat.le_refl _)) l4
  clear hN HB1 dk d1 d2 d2'
  go_wp2_with fail
  refine C2.mono ?_
  rintro x w3 ⟨rS, rfl, hS⟩
  clear C2
  have HB3 : Hid (Below w.heap.size w w3) := HB2.out.trans (hS.bel.mono HB2.out.size)
  have HN3' : Hid (Nd w3 rN (bv n) 3000000) := HN2.out.below hS.bel (Nat.le_refl _)
  have HS3 : Hid (Nd w3 rS (bv s) 3000000) := hS.nd
  clear hS HN2 HB2
  by_cases hs : s.length = n.length
  case neg =>
    have ds : ((s.length : Int) != (n.length : Int)) = true := by simp; omega
    obtain rfl : V = 91 := by have := HV2.out; rw [if_pos hs] at this; exact this
    clear hs HV2
    go_wp2
    go_ret
    exact ⟨rfl, HB3.out⟩
  have ds : ((s.length : Int) != (n.length : Int)) = false := by rw [hs]; simp
  have C3 := rcmp_v rS rN _ _ _ _ w3 HS3.out.1 HN3'.out.1 (by omega) (by omega)
  have dc := kcmp_lt (bv s) (bv n)
  have Hs : Hid (s.length = n.length) := hs
  clear hs
  by_cases hlt : bv n ≤ bv s
  · have dd : decide (cmp3 ((bv s : Nat) : Int) ((bv n : Nat) : Int) ≥ 0) = true := by
      apply decide_eq_true
      rw [decide_eq_false (by omega : ¬ bv s < bv n)] at dc
      have := of_decide_eq_false dc
      omega
    obtain rfl : V = 91 := by have := HV2.out; rw [if_neg (by rw [Hs.out]; simp), if_pos hlt] at this; exact this
    clear HV2 dc hlt
    generalize cmp3 ((bv s : Nat) : Int) ((bv n : Nat) : Int) = cm at *
    have dd' : decide (0 ≤ cm) = true := dd
    go_wp2_with fail
    refine C3.mono ?_
    rintro x w' ⟨rfl, rfl⟩
    clear C3
    go_wp2
    go_ret
    exact ⟨rfl, HB3.out⟩
  have dd : decide (cmp3 ((bv s : Nat) : Int) ((bv n : Nat) : Int) ≥ 0) = false := by
    apply decide_eq_false
    rw [decide_eq_true (by omega : bv s < bv n)] at dc
    have := of_decide_eq_true dc
    omega
  have HLt : Hid (bv s < bv n) := by show _ < _; omega
  have HV3 : Hid (V = if bv s ^ bv e % bv n = bv (emV h m n.length) then 0 else 91) := by have := HV2.out; rw [if_neg (by rw [Hs.out]; simp), if_neg hlt] at this; exact this
  clear HV2 dc hlt
  generalize cmp3 ((bv s : Nat) : Int) ((bv n : Nat) : Int) = cm at *
  have dd' : decide (0 ≤ cm) = false := dd
  go_wp2_with fail
  refine C3.mono ?_
  rintro x w' ⟨rfl, hw'⟩
  clear C3
  have C4 := rencode_any h a3 c3 m (n.length : Int) w' (by rw [hw']; exact Rt.below' HR.out HB3.out) (by rw [hw']; exact H3.out.below HB3.out (Nat.le_refl _)) HN3.out l3 (by omega) (by omega)
  have hec := ecode_ok h n.length HH.out HKP.out.n1 HKP.out.n2
  have hev : encV h m (n.length : Int) = emV h m n.length := by unfold encV; rw [hec, if_pos rfl, Int.toNat_natCast]
  rw [hec, hev] at C4
  have HB4 : Hid (Below w.heap.size w w') := by rw [hw']; exact HB3.out
  have HN4 : Hid (Nd w' rN (bv n) 3000000) := by rw [hw']; exact HN3'.out
  have HS4 : Hid (Nd w' rS (bv s) 3000000) := by rw [hw']; exact HS3.out
  clear hw' HB3 HN3' HS3 hec hev
  go_wp2_with fail
  refine C4.mono ?_
  rintro x w5 ⟨rM, rfl, hM⟩
  clear C4
  have HB5 : Hid (Below w.heap.size w w5) := HB4.out.trans (hM.bel.mono HB4.out.size)
  have HN5 : Hid (Nd w5 rN (bv n) 3000000) := HN4.out.below hM.bel (Nat.le_refl _)
  have HS5 : Hid (Nd w5 rS (bv s) 3000000) := HS4.out.below hM.bel (Nat.le_refl _)
  have hml := emV_length h m n.length (by have := siz_le64 h; have := HKP.out.n1; omega)
  obtain ⟨aM, cM, eM, hMr⟩ : ∃ a c, rM = .slice a n.length c ∧ Hid (Rd w5 a (emV h m n.length)) := by
    obtain ⟨a, c, e, _, hr⟩ := hM.own.nb
    rw [hml] at e
    exact ⟨a, c, e, hr⟩
  subst eM
  have Hml : Hid ((emV h m n.length).length = n.length) := hml
  have C5 := rfromb a2 c2 e w5 (H2.out.below HB5.out (Nat.le_refl _)) l2
  clear hM HB4 HN4 HS4 hml
  go_wp2_with fail
  refine C5.mono ?_
  rintro x w6 ⟨rE, rfl, hE⟩
  clear C5
  have HB6 : Hid (Below w.heap.size w w6) := HB5.out.trans (hE.bel.mono HB5.out.size)
  have HM6 : Hid (Rd w6 aM (emV h m n.length)) := hMr.out.below hE.bel (Nat.le_refl _)
  have C6 := dexp rS rE rN _ _ _ w6 (HS5.out.below hE.bel (Nat.le_refl _)) hE.nd (HN5.out.below hE.bel (Nat.le_refl _))
  have hrc : rcode (bv n) (Lg (bv s) || Lg (bv e)) = 0 := by
    have k := HKP.out
    have hls : Lg (bv s) = false := Lg_lt (Nat.le_of_lt HLt.out) k.n2
    unfold rcode
    rw [k.nl, k.el, hls, if_neg (by simp), if_neg (by have := k.two; omega)]
  rw [hrc] at C6
  clear hrc hE HB5 HN5 HS5 hMr
  go_wp2_with fail
  refine C6.mono ?_
  intro x w7 hA
  clear C6
  obtain ⟨rP, rfl, hP⟩ := (hA.resolve_left (fun hx => hx.1 rfl)).2
  clear hA
  have HB7 : Hid (Below w.heap.size w w7) := HB6.out.trans (hP.bel.mono HB6.out.size)
  have HM7 := HM6.out.below hP.bel (Nat.le_refl _)
  obtain ⟨P, hPe⟩ : ∃ P, bv s ^ bv e % bv n = P := ⟨_, rfl⟩
  rw [hPe] at hP HV3
  have HP7 : Hid (Nu w7 rP P) := hP.nu
  have C7 := rfromb aM cM (emV h m n.length) w7 HM7 (by rw [Hml.out]; exact l1)
  rw [Hml.out] at C7
  clear hP HB6 HM6 HM7 hPe
  go_wp2_with fail
  refine C7.mono ?_
  rintro x w8 ⟨rQ, rfl, hQ⟩
  clear C7
  have HB8 : Hid (Below w.heap.size w w8) := HB7.out.trans (hQ.bel.mono HB7.out.size)
  have C8 := rcmp_v rP rQ _ _ _ _ w8 (HP7.out.below hQ.bel (Nat.le_refl _)) hQ.nu (by omega) (by omega)
  have d8 := kcmp_eq0 P (bv (emV h m n.length))
  clear hQ HB7 HP7
  generalize cmp3 ((P : Nat) : Int) ((bv (emV h m n.length) : Nat) : Int) = cq at *
  by_cases hq : P = bv (emV h m n.length)
  · rw [decide_eq_true hq] at d8
    have d9 : (cq != 0) = false := by simpa using d8
    obtain rfl : V = 0 := by have := HV3.out; rw [if_pos hq] at this; exact this
    clear HV3 hq d8
    go_wp2_with fail
    refine C8.mono ?_
    rintro x w' ⟨rfl, rfl⟩
    clear C8
    go_wp2
    go_ret
    exact ⟨rfl, HB8.out⟩
  · rw [decide_eq_false hq] at d8
    have d9 : (cq != 0) = true := by simpa using d8
    obtain rfl : V = 91 := by have := HV3.out; rw [if_neg hq] at this; exact this
    clear HV3 hq d8
    go_wp2_with fail
    refine C8.mono ?_
    rintro x w' ⟨rfl, rfl⟩
    clear C8
    go_wp2
    go_ret
    exact ⟨rfl, HB8.out⟩

end Go.Proofs.YtefpjjonmoofpaaDoor
