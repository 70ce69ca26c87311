import Derived.Test.YtefpjjonmoofpaaDoorShapeM
namespace Go.Proofs.YtefpjjonmoofpaaDoor
open Go.RowKit

set_option maxRecDepth 100000 in
set_option maxHeartbeats 16000000 in
theorem shape_core (h : Int) (a1 : Option Addr) (c1 : Nat) (m : List UInt8) (size : Int) (W : World) (T : Sha.Tb W) (I : Inf W) (r1 : Rd W a1 m) (k1 : m.length ≤ c1) (k1' : c1 ≤ 9223372036854775807) (l1 : m.length ≤ 3000000) (z1 : -9223372036854775808 ≤ size) (z2 : size ≤ 9223372036854775807) :
    Calls Tryd.prog 3 #[.int .i64 h, .slice a1 m.length c1, .int .i64 size] W fun x w' => x = .returned (.bool true) ∧ Below W.heap.size W w' := by
  have HT : Hid (Sha.Tb W) := T
  have HI : Hid (Inf W) := I
  have H1 : Hid (Rd W a1 m) := r1
  have CA := alive9 W T I
  clear T I r1
  go_enter Tryd.func3, Tryd.ntmps3
  go_wp2_with fail
  refine CA.mono ?_
  rintro x w1 ⟨rfl, hb1⟩
  clear CA
  have B1 : Hid (Below W.heap.size W w1) := hb1
  clear hb1
  have C1 := encode_any h a1 c1 m size w1 (HT.out.below B1.out) (HI.out.below B1.out) (H1.out.below B1.out (Nat.le_refl _)) k1 k1' (by omega)
  by_cases hh : isHB h = true
  case neg =>
    have hh2 : isHB h = false := by simpa using hh
    have he : ecode h size = 111 := by unfold ecode; rw [if_pos hh2]
    have hev : encV h m size = [] := by unfold encV; rw [he, if_neg (by decide)]
    rw [he, hev] at C1
    have CN0 : Hid (∀ w, Calls Tryd.prog 11 #[.int .i64 h] w fun e w' => e = .returned (.bool false) ∧ w' = w) := by have := lknown_any h; rw [hh2] at this; exact this
    clear he hev hh hh2 z1 z2
    go_wp2_with fail
    refine C1.mono ?_
    rintro x w2 ⟨rM, rfl, hM⟩
    clear C1
    obtain ⟨aM, cM, eM⟩ := hM.empty
    subst eM
    have B2 : Hid (Below W.heap.size W w2) := B1.out.trans (hM.bel.mono B1.out.size)
    have CN := CN0.out w2
    clear hM CN0
    go_wp2_with fail
    refine CN.mono ?_
    rintro x w' ⟨rfl, rfl⟩
    clear CN
    go_wp2
    go_ret
    exact ⟨rfl, B2.out⟩
  have hH := (isHB_iff h).1 hh
  obtain ⟨s, hs⟩ : ∃ s, Sha.siz h = s := ⟨_, rfl⟩
  have hs64 : s ≤ 64 := by rw [← hs]; exact siz_le64 h
  have hs0 : 0 < s := by have := knownB h; rw [hh, hs] at this; exact of_decide_eq_true this
  have hsl : (Sha.sumF h m).length = s := by rw [Sha.sumF_length]; exact hs
  by_cases hsz : size < 30 + (s : Int) ∨ 512 < size
  · have he : ecode h size = 90 := by unfold ecode; rw [hs, hh, if_neg (by simp), if_pos hsz]
    have hev : encV h m size = [] := by unfold encV; rw [he, if_neg (by decide)]
    rw [he, hev] at C1
    have HF : Hid (isHB h = true ∧ (Sha.sumF h m).length = s ∧ (size < 30 + (s : Int) ∨ 512 < size)) := ⟨hh, hsl, hsz⟩
    clear he hev hh hsl hsz hH hs
    go_wp2_with fail
    refine C1.mono ?_
    rintro x w2 ⟨rM, rfl, hM⟩
    clear C1
    obtain ⟨aM, cM, eM⟩ := hM.empty
    subst eM
    have B2 : Hid (Below W.heap.size W w2) := B1.out.trans (hM.bel.mono B1.out.size)
    have CN := lknown_any h w2
    rw [HF.out.1] at CN
    have CS := sum1 h a1 c1 m w2 (HT.out.below B2.out) (H1.out.below B2.out (Nat.le_refl _)) k1 k1' (by omega)
    rw [HF.out.2.1] at CS
    clear hM
    go_wp2_with fail
    refine CN.mono ?_
    rintro x w' ⟨rfl, rfl⟩
    clear CN
    go_wp2_with fail
    refine CS.mono ?_
    rintro x w3 ⟨aS, rfl, _, hb3⟩
    clear CS
    have B3 : Hid (Below W.heap.size W w3) := B2.out.trans (hb3.mono B2.out.size)
    have hsz := HF.out.2.2
    clear hb3 HF
    by_cases h1 : size < 19 + (s : Int) + 11
    · have d1 : decide (size < 19 + (s : Int) + 11) = true := decide_eq_true h1
      clear hsz h1
      go_wp2
      go_ret
      exact ⟨rfl, B3.out⟩
    · have d1 : decide (size < 19 + (s : Int) + 11) = false := decide_eq_false h1
      have d2 : decide (512 < size) = true := decide_eq_true (by omega)
      have d2' : decide (size > 512) = true := decide_eq_true (by omega)
      clear hsz h1
      go_wp2
      go_ret
      exact ⟨rfl, B3.out⟩
  obtain ⟨z, hz⟩ : ∃ z : Nat, size = ((22 + s + z : Nat) : Int) := ⟨(size - 22 - (s : Int)).toNat, by omega⟩
  obtain ⟨k, hk⟩ : ∃ k, k = 22 + s + z := ⟨_, rfl⟩
  rw [← hk] at hz
  subst hz
  have hkz : k = 22 + Sha.siz h + z := by rw [hs]; exact hk
  have hk5 : k ≤ 512 := by omega
  have hz8 : 8 ≤ z := by omega
  have he : ecode h k = 0 := by unfold ecode; rw [hs, hh, if_neg (by simp), if_neg hsz]
  have hev : encV h m k = emV h m k := by unfold encV; rw [he, if_pos rfl, Int.toNat_natCast]
  have hml := emV_length h m k (by rw [hs]; omega)
  rw [he, hev] at C1
  have HH : Hid (Sha.isH h ∧ isHB h = true) := ⟨hH, hh⟩
  have HSz : Hid (Sha.siz h = s ∧ (Sha.sumF h m).length = s ∧ (emV h m k).length = k) := ⟨hs, hsl, hml⟩
  have Hkz : Hid (k = 22 + Sha.siz h + z) := hkz
  have Hk : Hid (k = 22 + s + z) := hk
  have hka : 30 + s ≤ k := by omega
  clear he hev hh hH hsl hml hs hkz hk hsz
  go_wp2_with fail
  refine C1.mono ?_
  rintro x w2 ⟨rM, rfl, hM⟩
  clear C1
  have hml := HSz.out.2.2
  have B2 : Hid (Below W.heap.size W w2) := B1.out.trans (hM.bel.mono B1.out.size)
  obtain ⟨g, cap, eM, _, hcap, hcap2, hMr⟩ := hM.slice (by rw [hml]; omega)
  rw [hml] at eM hcap
  subst eM
  have HMr : Hid (Rd w2 (some ⟨g, 0, none⟩) (emV h m k)) := hMr
  unfold maxLen at hcap2
  have CN := lknown_any h w2
  rw [HH.out.2] at CN
  have CS := sum1 h a1 c1 m w2 (HT.out.below B2.out) (H1.out.below B2.out (Nat.le_refl _)) k1 k1' (by omega)
  rw [HSz.out.2.1] at CS
  have d1 : decide ((k : Int) < 19 + (s : Int) + 11) = false := decide_eq_false (by omega)
  have d2 : decide ((k : Int) > 512) = false := decide_eq_false (by omega)
  have d2' : decide (512 < (k : Int)) = false := decide_eq_false (by omega)
  have d2'' : decide (512 < k) = false := decide_eq_false (by omega)
  clear hM hMr hml B1
  go_wp2_with fail
  refine CN.mono ?_
  rintro x w' ⟨rfl, rfl⟩
  clear CN
  go_wp2_with fail
  refine CS.mono ?_
  rintro x w3 ⟨aS, rfl, hSr, hb3⟩
  clear CS
  have B3 : Hid (Below W.heap.size W w3) := B2.out.trans (hb3.mono B2.out.size)
  have HM3 : Hid (Rd w3 (some ⟨g, 0, none⟩) (emV h m k)) := HMr.out.below hb3 (Nat.le_refl _)
  -- places
  have hk := Hk.out
  obtain ⟨p3, hp3⟩ : ∃ p3 : Nat, p3 = z + 3 := ⟨_, rfl⟩
  obtain ⟨p2, hp2⟩ : ∃ p2 : Nat, p2 = z + 2 := ⟨_, rfl⟩
  obtain ⟨p4, hp4⟩ : ∃ p4 : Nat, p4 = z + 4 := ⟨_, rfl⟩
  obtain ⟨ks, hks⟩ : ∃ ks : Nat, ks = z + 22 := ⟨_, rfl⟩
  obtain ⟨kt, hkt⟩ : ∃ kt : Nat, kt = z + 21 := ⟨_, rfl⟩
  have i3 : (k : Int) - (19 + (s : Int)) = (p3 : Int) := by omega
  have i2 : (p3 : Int) - 1 = (p2 : Int) := by omega
  have i4 : (p3 : Int) + 1 = (p4 : Int) := by omega
  have is : (k : Int) - (s : Int) = (ks : Int) := by omega
  have it : (ks : Int) - 1 = (kt : Int) := by omega
  obtain ⟨g', o', eg, _, hc⟩ := HM3.out.resolve_left (fun e => by have := HSz.out.2.2; rw [e] at this; simp at this; omega)
  cases eg
  have hlen : (emV h m k).length = k := HSz.out.2.2
  have q0 := hc 0 (by omega)
  have q1 := hc 1 (by omega)
  have q2 := hc (z + 2) (by omega)
  have q4 := hc (z + 1 + 1 + 2) (by omega)
  have qt := hc (z + 1 + 18 + 2) (by omega)
  rw [em_0 h m k z Hkz.out, Nat.zero_add] at q0
  rw [em_1 h m k z Hkz.out, Nat.zero_add] at q1
  rw [em_z h m k z Hkz.out, Nat.zero_add, ← hp2] at q2
  rw [em_info h m k z 1 Hkz.out (by omega), Nat.zero_add, show z + 1 + 1 + 2 = p4 by omega] at q4
  rw [em_info h m k z 18 Hkz.out (by omega), Nat.zero_add, show z + 1 + 18 + 2 = kt by omega] at qt
  unfold B at q0 q1 q2 q4 qt
  rw [info_1 HH.out.1, HSz.out.1, show ((17 + s : Nat) : Int) = 17 + (s : Int) by omega] at q4
  rw [info_18 HH.out.1, HSz.out.1] at qt
  have CM := lsame_any (some ⟨g, 0 + ks, none⟩) aS (cap - ks) (Sha.siz h) ((emV h m k).drop ks) (Sha.sumF h m) w3 (Rd.drop HM3.out ks) hSr (by rw [List.length_drop, hlen]; omega)
  rw [hks, em_drop h m k z Hkz.out, decide_eq_true rfl, ← hks, HSz.out.2.1, Nat.zero_add] at CM
  have eks : k - ks = s := by omega
  have hck : ¬ cap = ks := by omega
  have hbk1 : ks ≤ k := by omega
  have hbk2 : k ≤ cap := hcap
  have d3 : ((k : Int) != (k : Int)) = false := by simp
  have Q : Hid (w3.cell? ⟨g, p4, none⟩ = some (.int .u8 (17 + (s : Int))) ∧ w3.cell? ⟨g, kt, none⟩ = some (.int .u8 ((s : Nat) : Int))) := ⟨q4, qt⟩
  have Hff : Hid (∀ i : Nat, 2 ≤ i → i < p2 → w3.cell? ⟨g, i, none⟩ = some (.int .u8 255)) := fun i h1 h2 => by
    have := hc i (by omega)
    rw [em_ff h m k z i Hkz.out h1 (by omega), Nat.zero_add] at this
    exact this
  clear hSr hb3 hc q4 qt HMr B2 hlen
  have HP : Hid (p3 = z + 3 ∧ p2 = z + 2 ∧ p4 = z + 4 ∧ ks = z + 22 ∧ kt = z + 21 ∧ k = 22 + s + z) := ⟨hp3, hp2, hp4, hks, hkt, Hk.out⟩
  have hlt1 : p2 < k := by omega
  have hlt2 : p4 < k := by omega
  have hlt3 : kt < k := by omega
  clear hp3 hp2 hp4 hks hkt hk
  go_wp2_with fail
  refine CM.mono ?_
  rintro x w4 ⟨rfl, z4, hw4⟩
  clear CM
  have B4 : Hid (Below W.heap.size W w4) := by rw [hw4]; exact below_drewN B3.out z4
  have HM4 : Hid (Rd w4 (some ⟨g, 0, none⟩) (emV h m k)) := by rw [hw4]; exact HM3.out
  have Q4 : Hid (w4.cell? ⟨g, p4, none⟩ = some (.int .u8 (17 + (s : Int))) ∧ w4.cell? ⟨g, kt, none⟩ = some (.int .u8 ((s : Nat) : Int))) := by rw [hw4]; exact Q.out
  have Hff4 : Hid (∀ i : Nat, 2 ≤ i → i < p2 → w4.cell? ⟨g, i, none⟩ = some (.int .u8 255)) := by rw [hw4]; exact Hff.out
  clear hw4 B3 HM3 Q Hff q0 q1 q2
  have hp22 : 2 ≤ p2 := by have := HP.out; omega
  go_wp2
  go_loop [11] (fun s11 => ∃ i : Nat, s11 = .int .i64 (i : Int) ∧ 2 ≤ i ∧ i ≤ p2) (fun s11 => p2 - (intOf s11).toNat)
  case atStart => exact ⟨2, rfl, by omega, hp22⟩
  case round =>
    obtain ⟨i, rfl, hi1, hi2⟩ := hrel
    by_cases hlt : i < p2
    · have gi := Hff4.out i hi1 hlt
      have hik : i < k := by omega
      go_wp2
      go_round
      case rel => exact ⟨i + 1, by go_num, by omega, by omega⟩
      case measure => simp [intOf]; omega
    · obtain rfl : i = p2 := by omega
      obtain ⟨g4, gt⟩ := Q4.out
      have dA : ((17 + (s : Int)) != (19 + (s : Int) - 2)) = false := by simp; omega
      have dB : ((s : Int) != (s : Int)) = false := by simp
      clear hlt hi1 hi2
      by_cases h512 : k = 512
      · have d5 : ((k : Int) == 512) = true := by rw [h512]; rfl
        clear h512
        go_wp2
        go_ret
        exact ⟨rfl, B4.out⟩
      · have d5 : ((k : Int) == 512) = false := beq_eq_false_iff_ne.2 (by omega)
        have CE := encode_any h a1 c1 m ((k + 1 : Nat) : Int) w4 (HT.out.below B4.out) (HI.out.below B4.out) (H1.out.below B4.out (Nat.le_refl _)) k1 k1' (by omega)
        have he : ecode h ((k + 1 : Nat) : Int) = 0 := by unfold ecode; rw [HSz.out.1, HH.out.2, if_neg (by simp), if_neg (by omega)]
        have hev : encV h m ((k + 1 : Nat) : Int) = emV h m (k + 1) := by unfold encV; rw [he, if_pos rfl, Int.toNat_natCast]
        rw [he, hev, show ((k + 1 : Nat) : Int) = (k : Int) + 1 by omega] at CE
        clear he hev h512
        go_wp2_with fail
        refine CE.mono ?_
        rintro x w5 ⟨rQ, rfl, hQ⟩
        clear CE
        have hml2 := emV_length h m (k + 1) (by rw [HSz.out.1]; omega)
        have HZ : Hid (Below W.heap.size W w5) := B4.out.trans (hQ.bel.mono B4.out.size)
        have HM5 := HM4.out.below hQ.bel (Nat.le_refl _)
        obtain ⟨gQ, cQ, eQ, _, hcQ, hcQ2, hQr⟩ := hQ.slice (by rw [hml2]; omega)
        rw [hml2] at eQ hcQ
        subst eQ
        unfold maxLen at hcQ2
        have q2 : w5.cell? ⟨gQ, 2, none⟩ = some (.int .u8 255) := by
          obtain ⟨g', o', eg, _, hc⟩ := hQr.resolve_left (fun e => by rw [e] at hml2; simp at hml2)
          cases eg
          have := hc 2 (by omega)
          rw [em_ff h m (k + 1) (z + 1) 2 (by have := Hkz.out; omega) (by omega) (by omega), Nat.zero_add] at this
          exact this
        have CL : ∀ q, Calls Tryd.prog 13 #[.slice (some ⟨gQ, 3, none⟩) (k - 2) (cQ - 3), .slice (some ⟨g, 2, none⟩) (k - 2) (cap - 2)] (w5.drewN q) fun e w' => e = .returned (.bool true) ∧ ∃ q', w' = (w5.drewN q).drewN q' := fun q => by
          have C := lsame_any (some ⟨gQ, 0 + 3, none⟩) (some ⟨g, 0 + 2, none⟩) (cQ - 3) (cap - 2) ((emV h m (k + 1)).drop 3) ((emV h m k).drop 2) (w5.drewN q) (Rd.drop hQr 3) (Rd.drop HM5 2) (by rw [List.length_drop, hml2]; omega)
          rw [em_more h m k z Hkz.out, decide_eq_true rfl, List.length_drop, HSz.out.2.2] at C
          exact C
        have HCL : Hid (∀ q, Calls Tryd.prog 13 #[.slice (some ⟨gQ, 3, none⟩) (k - 2) (cQ - 3), .slice (some ⟨g, 2, none⟩) (k - 2) (cap - 2)] (w5.drewN q) fun e w' => e = .returned (.bool true) ∧ ∃ q', w' = (w5.drewN q).drewN q') := CL
        have d6 : (((k : Int) + 1) == ((k : Int) + 1)) = true := by simp
        have n1 : ¬ cQ = 3 := by omega
        have n2 : ¬ cap = 2 := by omega
        have e5 : k + 1 - 3 = k - 2 := by omega
        clear hQ hQr HM5 hml2 CL
        go_wp2
        go_quiet (first | (refine (HCL.out _).mono ?_; rintro e w' ⟨rfl, q', rfl⟩; exact ⟨rfl, _, World.drewN_drewN _ _ _⟩))
        go_wp2
        go_ret
        exact ⟨rfl, below_drewN HZ.out _⟩

end Go.Proofs.YtefpjjonmoofpaaDoor
