import Derived.Test.YthnogdkkdekgpaaDoorPE
namespace Go.Proofs.YthnogdkkdekgpaaDoor
open Go.RowKit

set_option maxRecDepth 100000 in
set_option maxHeartbeats 4000000 in
theorem saltOf_any (h : Int) (ao : Option Addr) (c : Nat) (em : List UInt8) (w : World) (T : Sha.Tb w) (hh : isHB h = true) (hr : Rd w ao em) (hc : em.length ≤ c) (hc2 : c ≤ 9223372036854775807) (hl : 2 * Sha.siz h + 2 ≤ em.length) (hl2 : em.length ≤ 65536) :
    Calls Tryd.prog 44 #[.int .i64 h, .slice ao em.length c] w fun e w' => ∃ g, e = .returned (.slice (some ⟨g, 0, none⟩) (Sha.siz h) (Sha.siz h)) ∧ w.heap.size ≤ g ∧ Bl 5 w' g ((saltF h em).map B) ∧ Below w.heap.size w w' := by
  have CS := Sha.size_any h w
  have hs0 := isHB_pos hh
  have hs64 := siz_le64 h
  have HH : Hid (isHB h = true) := hh
  obtain ⟨S, HS⟩ : ∃ S, Hid (Sha.siz h = S) := ⟨_, rfl⟩
  obtain ⟨E, HE⟩ : ∃ E, Hid (em.length = E) := ⟨_, rfl⟩
  rw [HS.out] at CS hs0 hs64 hl
  rw [HE.out] at hc hl hl2
  rw [HS.out, HE.out]
  obtain ⟨Q, eQ⟩ : ∃ Q : Nat, (E : Int) - 1 = (Q : Int) := ⟨E - 1, by omega⟩
  obtain ⟨P, eP⟩ : ∃ P : Nat, (Q : Int) - (S : Int) = (P : Int) := ⟨Q - S, by omega⟩
  obtain ⟨R, eR⟩ : ∃ R : Nat, (P : Int) - (S : Int) = (R : Int) := ⟨P - S, by omega⟩
  have hX : Q + 1 = E ∧ P + S = Q ∧ R + S = P := ⟨by omega, by omega, by omega⟩
  obtain ⟨ge, off, rfl, hge, hcell⟩ := hr.resolve_left (fun e => by rw [e] at HE; have := HE.out; simp at this; omega)
  have hr0 : Rd w (some ⟨ge, off, none⟩) em := .inr ⟨ge, off, rfl, hge, hcell⟩
  have hRP := (hr0.dropP P).takeP S
  have hRR := hr0.dropP R
  have hl1 : ((em.drop P).take S).length = Q - P := by rw [List.length_take, List.length_drop, HE.out]; omega
  have hl3 : (em.drop R).length = E - R := by rw [List.length_drop, HE.out]
  have CM := pmask_any h (some ⟨ge, off + P, none⟩) (c - P) ((em.drop P).take S) (P : Int) w T hRP (by rw [hl1]; omega) (by omega) (by rw [hl1]; omega)
  have hmc : mcode h (P : Int) = 0 := by unfold mcode; rw [if_neg (by rw [hh]; simp), if_neg (by omega)]
  have hmv : maskV h ((em.drop P).take S) (P : Int) = maskF h ((em.drop P).take S) P := by unfold maskV; rw [hmc, if_pos rfl, Int.toNat_natCast]
  rw [hmc, hmv, hl1] at CM
  have HSalt : Hid (saltF h em = xorL ((em.drop R).take S) ((maskF h ((em.drop P).take S) P).drop R)) := by
    show _ = _
    unfold saltF
    rw [HS.out, HE.out, show E - 1 - 2 * S = R by omega, show E - 1 - S = P by omega]
  have HRR : Hid (Rd w (some ⟨ge, off + R, none⟩) (em.drop R)) := hRR
  have Hl3 : Hid ((em.drop R).length = E - R) := hl3
  have hml : (maskF h ((em.drop P).take S) P).length = P := maskF_length _ _ _ (by rw [HS.out]; exact hs0)
  generalize maskF h ((em.drop P).take S) P = mk at *
  have Hml : Hid (mk.length = P) := hml
  have HX : Hid (Q + 1 = E ∧ P + S = Q ∧ R + S = P) := hX
  have o1 : P ≤ Q := by omega
  have o2 : Q ≤ c := by omega
  have o3 : ¬ c = P := by omega
  have o4 : ¬ c = R := by omega
  have o5 : R ≤ E := by omega
  have o6 : R ≤ P := by omega
  clear T hh hr hcell hr0 hRP hRR hl1 hl3 hmc hmv hml hX
  go_enter Tryd.func44, Tryd.ntmps44
  go_wp2_with fail
  refine CS.mono ?_
  rintro e w' ⟨rfl, rfl⟩
  clear CS
  go_wp2_with fail
  refine CM.mono ?_
  rintro e w1 ⟨rM, rfl, hM⟩
  clear CM
  obtain ⟨gm, cm, erm, hgm, hcm1, hcm2, hRm⟩ := hM.sliceP (by rw [Hml.out]; omega)
  rw [Hml.out] at erm hcm1
  unfold maxLen at hcm2
  subst erm
  obtain ⟨w2, hmk, hb2, hbel2⟩ := madeB w1 S (by omega)
  have hB1 := hM.bel
  have hR2 : Rd w2 (some ⟨ge, off + R, none⟩) (em.drop R) := (HRR.out.below hB1 (Nat.le_refl _)).below hbel2 (Nat.le_refl _)
  obtain ⟨w3, hcp, hb3, hbut3⟩ := copyB w2 w1.heap.size 0 S S (c - R) (some ⟨ge, off + R, none⟩) (em.drop R) _ hb2 hR2 (by simp)
  have e3 : spl ((List.replicate S (0 : UInt8)).map B) 0 (((em.drop R).take S).map B) = ((em.drop R).take S ++ []).map B := by
    have hd : ((List.replicate S (0 : UInt8)).map B).drop (0 + (((em.drop R).take S).map B).length) = [] := by
      apply List.drop_of_length_le
      rw [List.length_map, List.length_map, List.length_replicate, List.length_take, Hl3.out]
      have := HX.out
      omega
    unfold spl
    rw [hd, List.take_zero, List.nil_append, List.append_nil, List.append_nil]
  rw [e3] at hb3
  rw [Hl3.out] at hcp
  have hcp0 : (Builtin.copy_ #[23, 23] 3 #[.slice (some ⟨w1.heap.size, 0, none⟩) S S, .slice (some ⟨ge, off + R, none⟩) (E - R) (c - R)]).run Tryd.prog w2 = .ok (.int .i64 ((Nat.min (E - R) S : Nat) : Int)) w3 := hcp 0
  have hgm1 : gm < w1.heap.size := by
    obtain ⟨g', o', e', hg', _⟩ := hRm.resolve_left (fun e => by have := Hml.out; rw [e] at this; simp at this; omega)
    cases e'
    exact hg'
  have hRm3 : Rd w3 (some ⟨gm, 0, none⟩) mk := by
    have h2 := hRm.below hbel2 (Nat.le_refl _)
    exact Sha.Rd.but h2 ⟨hbut3.os, hbut3.tape, hbut3.output, hbut3.size, hbut3.block⟩ (fun a _ e => by cases e; show gm ≠ _; omega)
  have hls : ((em.drop R).take S).length = S := by rw [List.length_take, Hl3.out]; have := HX.out; omega
  have hmd : (mk.drop R).length = P - R := by rw [List.length_drop, Hml.out]
  have CX := mix_any w1.heap.size S (cm - R) (some ⟨gm, 0 + R, none⟩) ((em.drop R).take S) [] (mk.drop R) w3 hb3 (hRm3.dropP R) (fun a e => by cases e; show gm ≠ _; omega) (by rw [hmd, hls]; have := HX.out; omega) (by rw [hls]; omega)
  rw [hls, hmd, Nat.zero_add] at CX
  have HB3 : Hid (Below w'.heap.size w' w3) := by
    have h2 := hB1.trans (hbel2.mono hB1.size)
    exact h2.trans (hbut3.below h2.size hB1.size)
  have o7 : ¬ cm = R := by omega
  have hg1 : w'.heap.size ≤ w1.heap.size := hB1.size
  clear hM hB1 hR2 hb2 hbel2 hcp hb3 hbut3 e3 hRm hRm3 hls hmd HRR
  go_wp2_with fail
  refine CX.mono ?_
  rintro e w4 ⟨rfl, hb4, hbut4⟩
  clear CX hcp0 hmk
  have HF : Hid (Bl 5 w4 w1.heap.size ((saltF h em).map B)) := by show Bl _ _ _ _; rw [HSalt.out]; simpa using hb4
  have HB4 : Hid (Below w'.heap.size w' w4) := HB3.out.trans (hbut4.below HB3.out.size hg1)
  clear hb4 hbut4 HSalt
  go_wp2
  go_ret
  exact ⟨_, rfl, hg1, HF.out, HB4.out⟩

set_option maxRecDepth 100000 in
set_option maxHeartbeats 4000000 in
theorem pholds_any (h : Int) (a1 a2 : Option Addr) (c1 c2 : Nat) (d em : List UInt8) (bits : Int) (w : World) (T : Sha.Tb w) (r1 : Rd w a1 d) (r2 : Rd w a2 em) (k1 : d.length ≤ c1) (k1' : c1 ≤ 9223372036854775807) (k2 : em.length ≤ c2) (k2' : c2 ≤ 9223372036854775807) (l1 : d.length ≤ 100000000) (l2 : em.length ≤ 100000000) :
    Calls Tryd.prog 18 #[.int .i64 h, .slice a1 d.length c1, .slice a2 em.length c2, .int .i64 bits] w fun e w' => e = .returned (.bool (holdsV h d em bits)) ∧ Below w.heap.size w w' := by
  have CS := Sha.size_any h w
  have CR := refusal_any h d.length (Sha.siz h) bits w (by omega) (by have := siz_le64 h; omega)
  by_cases hp : pcode h d.length (Sha.siz h) bits = 0
  · obtain ⟨hh, hb0, hb1, hdl, hwd⟩ := pcode_ok hp
    obtain ⟨b, rfl⟩ : ∃ b : Nat, bits = (b : Int) := ⟨bits.toNat, by omega⟩
    rw [hp] at CR
    rw [Int.toNat_natCast] at hwd
    have CW := width_any b w (by omega)
    by_cases hE : em.length = wid b
    · have dE : ((em.length : Int) != (wid b : Int)) = false := by rw [hE]; simp
      have hwb : wid b ≤ 10000 := by unfold wid; omega
      have CT := saltOf_any h a2 c2 em w T hh r2 k2 k2' (by omega) (by omega)
      have HT : Hid (Sha.Tb w) := T
      have H1 : Hid (Rd w a1 d) := r1
      have H2 : Hid (Rd w a2 em) := r2
      have hsl := saltF_length h em (isHB_pos hh) (by omega)
      have HP2 : Hid (pcode h d.length (saltF h em).length (b : Int) = 0) := by rw [hsl]; exact hp
      have HV : Hid (holdsV h d em (b : Int) = decide (encF h d (saltF h em) b = em)) := by
        show _ = _
        unfold holdsV
        apply decide_eq_decide.2
        rw [Int.toNat_natCast]
        exact ⟨fun x => x.2.2, fun x => ⟨hp, hE, x⟩⟩
      have Hsl : Hid ((saltF h em).length = Sha.siz h) := hsl
      have hs64 := siz_le64 h
      clear T r1 r2 hp hh hb0 hb1 hdl hwd hE hsl
      go_enter Tryd.func18, Tryd.ntmps18
      go_wp2_with fail
      refine CS.mono ?_
      rintro e w' ⟨rfl, rfl⟩
      clear CS
      go_wp2_with fail
      refine CR.mono ?_
      rintro e w' ⟨rfl, rfl⟩
      clear CR
      go_wp2_with fail
      refine CW.mono ?_
      rintro e w' ⟨rfl, rfl⟩
      clear CW
      go_wp2_with fail
      refine CT.mono ?_
      rintro e w1 ⟨g, rfl, hg, hbl, hb1⟩
      clear CT
      have CE := pencode_any h a1 (some ⟨g, 0, none⟩) c1 (Sha.siz h) d (saltF h em) (b : Int) w1 (HT.out.below hb1) (H1.out.below hb1 (Nat.le_refl _)) (Bl.rdb hbl) k1 k1' (by rw [Hsl.out]; exact Nat.le_refl _) (by omega) l1 (by rw [Hsl.out]; omega)
      rw [HP2.out, Hsl.out] at CE
      have HB1 : Hid (Below w'.heap.size w' w1) := hb1
      clear hb1 hbl
      go_wp2_with fail
      refine CE.mono ?_
      rintro e w2 ⟨r, rfl, hO⟩
      clear CE
      have hev : pencV h d (saltF h em) (b : Int) = encF h d (saltF h em) b := by unfold pencV; rw [HP2.out, if_pos rfl, Int.toNat_natCast]
      rw [hev] at hO
      obtain ⟨aO, cO, eO, _, qO⟩ := hO.own.nb
      subst eO
      have HB2 : Hid (Below w'.heap.size w' w2) := HB1.out.trans (hO.bel.mono HB1.out.size)
      have C8 := equal_any aO a2 cO c2 _ em w2 qO (H2.out.below HB2.out (Nat.le_refl _))
      rw [← HV.out] at C8
      clear qO hO hev HB1
      generalize (encF h d (saltF h em) b).length = z1 at *
      go_wp2_with fail
      refine C8.mono ?_
      rintro x w8 ⟨rfl, rfl⟩
      clear C8
      go_wp2
      go_ret
      exact ⟨rfl, HB2.out⟩
    · have dE : ((em.length : Int) != (wid b : Int)) = true := by simp; omega
      have HV : Hid (holdsV h d em (b : Int) = false) := by
        show _ = _
        unfold holdsV
        rw [decide_eq_false]
        rintro ⟨_, e, _⟩
        rw [Int.toNat_natCast] at e
        exact hE e
      clear T r1 r2 hp hh hb0 hb1 hdl hwd hE
      go_enter Tryd.func18, Tryd.ntmps18
      go_wp2_with fail
      refine CS.mono ?_
      rintro e w' ⟨rfl, rfl⟩
      clear CS
      go_wp2_with fail
      refine CR.mono ?_
      rintro e w' ⟨rfl, rfl⟩
      clear CR
      go_wp2_with fail
      refine CW.mono ?_
      rintro e w' ⟨rfl, rfl⟩
      clear CW
      go_wp2
      go_ret
      rw [HV.out]
      exact ⟨rfl, Below.refl _ _⟩
  · have dp : (pcode h d.length (Sha.siz h) bits != 0) = true := by simpa using hp
    have HV : Hid (holdsV h d em bits = false) := by
      show _ = _
      unfold holdsV
      rw [decide_eq_false]
      rintro ⟨e, _⟩
      exact hp e
    clear T r1 r2 hp
    generalize pcode h d.length (Sha.siz h) bits = pc at *
    go_enter Tryd.func18, Tryd.ntmps18
    go_wp2_with fail
    refine CS.mono ?_
    rintro e w' ⟨rfl, rfl⟩
    clear CS
    go_wp2_with fail
    refine CR.mono ?_
    rintro e w' ⟨rfl, rfl⟩
    clear CR
    go_wp2
    go_ret
    rw [HV.out]
    exact ⟨rfl, Below.refl _ _⟩

end Go.Proofs.YthnogdkkdekgpaaDoor
