import Derived.Test.YtecapoknnnoheaaSr2
namespace Go.Proofs.Ytecapoknnnoheaa
open Go.RowKit

set_option maxRecDepth 100000 in
set_option maxHeartbeats 16000000 in
theorem spares_core (a b m : Value) (la lb lm : List Nat) (w : World) (ha : Ag w a la) (hb : Ag w b lb) (hm : Ag w m lm) :
    Calls Try.prog 4 #[a, b, m] w fun e w' => e = .returned (.bool true) ∧ Below w.heap.size w w' := by
  obtain ⟨pa, ca, rfl, ha⟩ := ha
  have Ha : Hid (la.length ≤ ca ∧ ca ≤ 1048576 ∧ Rn w pa la ∧ Sm Bs la ∧ (pa = none → ca = 0)) := ha
  obtain ⟨na, Hna⟩ : ∃ n, Hid (la.length = n) := ⟨_, rfl⟩
  have hla : na ≤ 1048576 := by rw [← Hna.out]; have := Ha.out.1; have := Ha.out.2.1; omega
  have hlca : na ≤ ca := by rw [← Hna.out]; exact Ha.out.1
  rw [Hna.out]
  clear ha
  obtain ⟨pb, cb, rfl, hb⟩ := hb
  have Hb : Hid (lb.length ≤ cb ∧ cb ≤ 1048576 ∧ Rn w pb lb ∧ Sm Bs lb ∧ (pb = none → cb = 0)) := hb
  obtain ⟨nb, Hnb⟩ : ∃ n, Hid (lb.length = n) := ⟨_, rfl⟩
  have hlb : nb ≤ 1048576 := by rw [← Hnb.out]; have := Hb.out.1; have := Hb.out.2.1; omega
  have hlcb : nb ≤ cb := by rw [← Hnb.out]; exact Hb.out.1
  rw [Hnb.out]
  clear hb
  obtain ⟨pm, cm, rfl, hm⟩ := hm
  have Hm : Hid (lm.length ≤ cm ∧ cm ≤ 1048576 ∧ Rn w pm lm ∧ Sm Bs lm ∧ (pm = none → cm = 0)) := hm
  obtain ⟨nm, Hnm⟩ : ∃ n, Hid (lm.length = n) := ⟨_, rfl⟩
  have hlm : nm ≤ 1048576 := by rw [← Hnm.out]; have := Hm.out.1; have := Hm.out.2.1; omega
  have hlcm : nm ≤ cm := by rw [← Hnm.out]; exact Hm.out.1
  rw [Hnm.out]
  clear hm
  go_enter Try.func4, Try.ntmps4
  have Cc := awake_v w
  go_wp2_with fail
  refine Cc.mono ?_
  clear Cc
  rintro e w1 ⟨rfl, hb1⟩
  have HB1 : Hid (Below w.heap.size w w1) := hb1
  clear hb1
  have Cc := roomy_v pa na ca la w1 (Ha.out.2.2.1.below HB1.out (Nat.le_refl _)) Hna.out.symm hla
  go_wp2_with fail
  refine Cc.mono ?_
  clear Cc
  rintro e w2 ⟨rfl, hr, hb2⟩
  have Rx2 : Hid (Rm w2 w1.heap.size la) := hr
  have HB2 : Hid (Below w.heap.size w w2) := HB1.out.trans (hb2.mono HB1.out.size)
  clear hr hb2
  have Cc := roomy_v pb nb cb lb w2 (Hb.out.2.2.1.below HB2.out (Nat.le_refl _)) Hnb.out.symm hlb
  go_wp2_with fail
  refine Cc.mono ?_
  clear Cc
  rintro e w3 ⟨rfl, hr, hb3⟩
  have Ry3 : Hid (Rm w3 w2.heap.size lb) := hr
  have Rx3 : Hid (Rm w3 w1.heap.size la) := Rx2.out.below hb3 (Nat.le_refl _)
  have HB3 : Hid (Below w.heap.size w w3) := HB2.out.trans (hb3.mono HB2.out.size)
  clear hr hb3 Rx2
  have Cc := roomy_v pm nm cm lm w3 (Hm.out.2.2.1.below HB3.out (Nat.le_refl _)) Hnm.out.symm hlm
  go_wp2_with fail
  refine Cc.mono ?_
  clear Cc
  rintro e w4 ⟨rfl, hr, hb4⟩
  obtain ⟨gx, Hgx⟩ : ∃ g, Hid (w1.heap.size = g) := ⟨_, rfl⟩
  obtain ⟨gy, Hgy⟩ : ∃ g, Hid (w2.heap.size = g) := ⟨_, rfl⟩
  obtain ⟨gz, Hgz⟩ : ∃ g, Hid (w3.heap.size = g) := ⟨_, rfl⟩
  obtain ⟨B, HBe⟩ : ∃ B, Hid (w4.heap.size = B) := ⟨_, rfl⟩
  have R4 : Hid (Rms w B gx gy gz la lb lm w4) := by
    have h1 := Rx3.out.below hb4 (Nat.le_refl _)
    have h2 := Ry3.out.below hb4 (Nat.le_refl _)
    have h3 := HB3.out.trans (hb4.mono HB3.out.size)
    have b1 := Bl.lt h1
    have b2 := Bl.lt h2
    have b3 := Bl.lt hr
    rw [Hgx.out] at h1 b1
    rw [Hgy.out] at h2 b2
    rw [Hgz.out] at hr b3
    rw [HBe.out] at b1 b2 b3
    exact ⟨h1, h2, hr, h3, Nat.le_of_eq HBe.out.symm, b1, b2, b3, by rw [← HBe.out]; exact h3.size⟩
  rw [Hgx.out, Hgy.out, Hgz.out]
  clear hr hb4 Rx3 Ry3 HB1 HB2 HB3 HBe Hgx Hgy Hgz
  obtain ⟨c, Hc⟩ : ∃ c : Nat, Hid (rcode (nv Bs lm) (Lg (nv Bs la) || Lg (nv Bs lb)) = c) := ⟨_, rfl⟩
  obtain ⟨c1, Hc1⟩ : ∃ c : Nat, Hid (rcode (nv Bs lm) (Lg (nv Bs la) || Lg 1) = c) := ⟨_, rfl⟩
  obtain ⟨V0, HV0⟩ : ∃ V : Nat, Hid (((nv Bs la) + (nv Bs lb)) % (nv Bs lm) = V) := ⟨_, rfl⟩
  obtain ⟨V1, HV1⟩ : ∃ V : Nat, Hid (lessV (nv Bs lm) ((nv Bs la) % (nv Bs lm)) ((nv Bs lb) % (nv Bs lm)) = V) := ⟨_, rfl⟩
  obtain ⟨V2, HV2⟩ : ∃ V : Nat, Hid ((nv Bs la) * (nv Bs lb) % (nv Bs lm) = V) := ⟨_, rfl⟩
  obtain ⟨V4, HV4⟩ : ∃ V : Nat, Hid ((nv Bs la) % (nv Bs lm) = V) := ⟨_, rfl⟩
  obtain ⟨ci, V3, hV3, hF3⟩ := inv_re (nv Bs la) (nv Bs lm)
  have HF3 : Hid (∀ (w w' : World) (e : Ending), AnsI w w' e (nv Bs la) (nv Bs lm) → ∃ r, e = .returned (.tuple #[r, .int .i64 (ci : Int)]) ∧ Re w w' r V3) := hF3
  obtain ⟨L, HLe⟩ : ∃ L : Nat → List Nat, Hid (Lf (if c = 0 then V0 else 0) (if c = 0 then V1 else 0) (if c = 0 then V2 else 0) V3 (if c1 = 0 then V4 else 0) = L) := ⟨_, rfl⟩
  have HL : Hid (∀ n, L (5 * n + 0) = dg Bs (if c = 0 then V0 else 0) ∧ L (5 * n + 1) = dg Bs (if c = 0 then V1 else 0) ∧ L (5 * n + 2) = dg Bs (if c = 0 then V2 else 0) ∧ L (5 * n + 3) = dg Bs V3 ∧ L (5 * n + 4) = dg Bs (if c1 = 0 then V4 else 0)) := by rw [← HLe.out]; exact Lf_at _ _ _ _ _
  have HLl : Hid (∀ j, (L j).length ≤ 1048576) := by
    rw [← HLe.out]
    intro j
    have hcM : c = 0 → 0 < nv Bs lm := fun e => by have h := Hc.out; rw [e] at h; have := (rcode_zero h).2.2; omega
    have hcM1 : c1 = 0 → 0 < nv Bs lm := fun e => by have h := Hc1.out; rw [e] at h; have := (rcode_zero h).2.2; omega
    refine Lf_len _ _ _ _ _ (nv Bs lm) j (Nat.le_trans (dgl_arg lm lm.length Hm.out.2.2.2.1 (Nat.le_refl _)) (by rw [Hnm.out]; exact hlm)) (ifz_le fun e => ?_) (ifz_le fun e => ?_) (ifz_le fun e => ?_) hV3 (ifz_le fun e => ?_)
    · rw [← HV0.out]; exact Nat.mod_lt _ (hcM e)
    · rw [← HV1.out]; exact lessV_lt (Nat.mod_lt _ (hcM e)) (Nat.mod_lt _ (hcM e))
    · rw [← HV2.out]; exact Nat.mod_lt _ (hcM e)
    · rw [← HV4.out]; exact Nat.mod_lt _ (hcM1 e)
  have HLs : Hid (∀ j, Sm Bs (L j)) := by rw [← HLe.out]; exact lf_sm _ _ _ _ _
  clear hF3 hV3 HLe
  have HF0 : Hid (Fam w4 B (5 * 0) (fun _ => .slice none 0 0) L) := Fam.none _ _ _ _
  have HT0 : Hid (Tb w4 B (.slice none 0 0) (5 * 0) (fun _ => .slice none 0 0)) := World.ownsRow_nil _ _ _ _
  go_wp2
  go_loopw [10, 11] (fun s10 s11 wr => ∃ (i : Nat) (V : Nat → Value), i ≤ 2 ∧ s11 = .int .i64 (i : Int) ∧ Hid (Fam wr B (5 * i) V L) ∧ Hid (Tb wr B s10 (5 * i) V) ∧ Hid (Rms w B gx gy gz la lb lm wr)) (fun _ s _ => 2 - (intOf s).toNat)
  case atStart => exact ⟨0, _, by omega, rfl, HF0, HT0, R4⟩
  case round =>
  clear HF0 HT0 R4
  obtain ⟨i, V, hi, rfl, HF, HT, HR⟩ := hrel
  by_cases hlt : i < 2
  · have hiI : (i : Int) < 2 := by omega
    have Q1 : Nd wr (.slice (some ⟨gx, 0, none⟩) na (na + 4)) (nv Bs la) 3000000 := by
      have h := HR.out.x.nd Ha.out.2.2.2.1 (by rw [Hna.out]; exact hla)
      rw [Hna.out] at h
      exact h
    have Q2 : Nd wr (.slice (some ⟨gy, 0, none⟩) nb (nb + 4)) (nv Bs lb) 3000000 := by
      have h := HR.out.y.nd Hb.out.2.2.2.1 (by rw [Hnb.out]; exact hlb)
      rw [Hnb.out] at h
      exact h
    have Q3 : Nd wr (.slice (some ⟨gz, 0, none⟩) nm (nm + 4)) (nv Bs lm) 3000000 := by
      have h := HR.out.z.nd Hm.out.2.2.2.1 (by rw [Hnm.out]; exact hlm)
      rw [Hnm.out] at h
      exact h
    have Cc := madd_v _ _ _ (nv Bs la) (nv Bs lb) (nv Bs lm) wr Q1.1 Q2.1 Q3.1
    rw [Hc.out, HV0.out] at Cc
    clear Q1 Q2 Q3
    go_wp2_with fail
    refine Cc.mono ?_
    clear Cc
    rintro e w5 hans
    obtain ⟨r0, rfl, hre⟩ := hans.re
    have hbel := hre.bel
    have HG0 : Hid (Fam w5 B (5 * i + 1) (updV (V) (5 * i + 0) r0) L) := HF.out.add hbel (by have h := (HL.out i).1; rw [Nat.add_zero] at h; rw [h]; exact hre.1) HR.out.big
    have S0 : Hid (Sl r0) := hre.sl
    replace HT : Hid (Tb w5 B u10 (5 * i) V) := row_below HT.out hbel (Nat.le_refl _)
    replace HR : Hid (Rms w B gx gy gz la lb lm w5) := HR.out.below hbel (Nat.le_refl _)
    clear hans hre hbel HF
    have Q4 : Nd w5 (.slice (some ⟨gx, 0, none⟩) na (na + 4)) (nv Bs la) 3000000 := by
      have h := HR.out.x.nd Ha.out.2.2.2.1 (by rw [Hna.out]; exact hla)
      rw [Hna.out] at h
      exact h
    have Q5 : Nd w5 (.slice (some ⟨gy, 0, none⟩) nb (nb + 4)) (nv Bs lb) 3000000 := by
      have h := HR.out.y.nd Hb.out.2.2.2.1 (by rw [Hnb.out]; exact hlb)
      rw [Hnb.out] at h
      exact h
    have Q6 : Nd w5 (.slice (some ⟨gz, 0, none⟩) nm (nm + 4)) (nv Bs lm) 3000000 := by
      have h := HR.out.z.nd Hm.out.2.2.2.1 (by rw [Hnm.out]; exact hlm)
      rw [Hnm.out] at h
      exact h
    have Cc := msub_v _ _ _ (nv Bs la) (nv Bs lb) (nv Bs lm) w5 Q4.1 Q5.1 Q6.1
    rw [Hc.out, HV1.out] at Cc
    clear Q4 Q5 Q6
    go_wp2_with fail
    refine Cc.mono ?_
    clear Cc
    rintro e w6 hans
    obtain ⟨r1, rfl, hre⟩ := hans.re
    have hbel := hre.bel
    have HG1 : Hid (Fam w6 B (5 * i + 2) (updV (updV (V) (5 * i + 0) r0) (5 * i + 1) r1) L) := HG0.out.add hbel (by have h := (HL.out i).2.1; rw [h]; exact hre.1) HR.out.big
    have S1 : Hid (Sl r1) := hre.sl
    replace HT : Hid (Tb w6 B u10 (5 * i) V) := row_below HT.out hbel (Nat.le_refl _)
    replace HR : Hid (Rms w B gx gy gz la lb lm w6) := HR.out.below hbel (Nat.le_refl _)
    clear hans hre hbel HG0
    have Q7 : Nd w6 (.slice (some ⟨gx, 0, none⟩) na (na + 4)) (nv Bs la) 3000000 := by
      have h := HR.out.x.nd Ha.out.2.2.2.1 (by rw [Hna.out]; exact hla)
      rw [Hna.out] at h
      exact h
    have Q8 : Nd w6 (.slice (some ⟨gy, 0, none⟩) nb (nb + 4)) (nv Bs lb) 3000000 := by
      have h := HR.out.y.nd Hb.out.2.2.2.1 (by rw [Hnb.out]; exact hlb)
      rw [Hnb.out] at h
      exact h
    have Q9 : Nd w6 (.slice (some ⟨gz, 0, none⟩) nm (nm + 4)) (nv Bs lm) 3000000 := by
      have h := HR.out.z.nd Hm.out.2.2.2.1 (by rw [Hnm.out]; exact hlm)
      rw [Hnm.out] at h
      exact h
    have Cc := mmul_v _ _ _ (nv Bs la) (nv Bs lb) (nv Bs lm) w6 Q7.1 Q8.1 Q9.1
    rw [Hc.out, HV2.out] at Cc
    clear Q7 Q8 Q9
    go_wp2_with fail
    refine Cc.mono ?_
    clear Cc
    rintro e w7 hans
    obtain ⟨r2, rfl, hre⟩ := hans.re
    have hbel := hre.bel
    have HG2 : Hid (Fam w7 B (5 * i + 3) (updV (updV (updV (V) (5 * i + 0) r0) (5 * i + 1) r1) (5 * i + 2) r2) L) := HG1.out.add hbel (by have h := (HL.out i).2.2.1; rw [h]; exact hre.1) HR.out.big
    have S2 : Hid (Sl r2) := hre.sl
    replace HT : Hid (Tb w7 B u10 (5 * i) V) := row_below HT.out hbel (Nat.le_refl _)
    replace HR : Hid (Rms w B gx gy gz la lb lm w7) := HR.out.below hbel (Nat.le_refl _)
    clear hans hre hbel HG1
    have Q10 : Nd w7 (.slice (some ⟨gx, 0, none⟩) na (na + 4)) (nv Bs la) 3000000 := by
      have h := HR.out.x.nd Ha.out.2.2.2.1 (by rw [Hna.out]; exact hla)
      rw [Hna.out] at h
      exact h
    have Q11 : Nd w7 (.slice (some ⟨gz, 0, none⟩) nm (nm + 4)) (nv Bs lm) 3000000 := by
      have h := HR.out.z.nd Hm.out.2.2.2.1 (by rw [Hnm.out]; exact hlm)
      rw [Hnm.out] at h
      exact h
    have Cc := minv_v _ _ (nv Bs la) (nv Bs lm) w7 Q10.1 Q11.1
    clear Q10 Q11
    go_wp2_with fail
    refine Cc.mono ?_
    clear Cc
    rintro e w8 hans
    obtain ⟨r3, rfl, hre⟩ := HF3.out _ _ _ hans
    have hbel := hre.bel
    have HG3 : Hid (Fam w8 B (5 * i + 4) (updV (updV (updV (updV (V) (5 * i + 0) r0) (5 * i + 1) r1) (5 * i + 2) r2) (5 * i + 3) r3) L) := HG2.out.add hbel (by have h := (HL.out i).2.2.2.1; rw [h]; exact hre.1) HR.out.big
    have S3 : Hid (Sl r3) := hre.sl
    replace HT : Hid (Tb w8 B u10 (5 * i) V) := row_below HT.out hbel (Nat.le_refl _)
    replace HR : Hid (Rms w B gx gy gz la lb lm w8) := HR.out.below hbel (Nat.le_refl _)
    clear hans hre hbel HG2
    have Q12 : Nd w8 (.slice (some ⟨gx, 0, none⟩) na (na + 4)) (nv Bs la) 3000000 := by
      have h := HR.out.x.nd Ha.out.2.2.2.1 (by rw [Hna.out]; exact hla)
      rw [Hna.out] at h
      exact h
    have Q13 : Nd w8 (.slice (some ⟨gz, 0, none⟩) nm (nm + 4)) (nv Bs lm) 3000000 := by
      have h := HR.out.z.nd Hm.out.2.2.2.1 (by rw [Hnm.out]; exact hlm)
      rw [Hnm.out] at h
      exact h
    have hlb := alloc_below w8 (.cells #[.int .u32 1] 29)
    have Cc := mexp_v _ _ _ (nv Bs la) 1 (nv Bs lm) _ (Q12.1.below hlb (Nat.le_refl _)) (lit_nu w8 1 (by decide)) (Q13.1.below hlb (Nat.le_refl _))
    rw [Hc1.out, Nat.pow_one, HV4.out] at Cc
    clear Q12 Q13
    go_wp2_with fail
    refine Cc.mono ?_
    clear Cc
    rintro e w9 hans
    obtain ⟨r4, rfl, hre⟩ := hans.re
    have hbel : Below w8.heap.size w8 w9 := hlb.trans (hre.bel.mono hlb.size)
    have HG4 : Hid (Fam w9 B (5 * i + 5) (updV (updV (updV (updV (updV (V) (5 * i + 0) r0) (5 * i + 1) r1) (5 * i + 2) r2) (5 * i + 3) r3) (5 * i + 4) r4) L) := HG3.out.add hbel (by have h := (HL.out i).2.2.2.2; rw [h]; exact hre.1.base hlb.size) HR.out.big
    have S4 : Hid (Sl r4) := hre.sl
    replace HT : Hid (Tb w9 B u10 (5 * i) V) := row_below HT.out hbel (Nat.le_refl _)
    replace HR : Hid (Rms w B gx gy gz la lb lm w9) := HR.out.below hbel (Nat.le_refl _)
    clear hans hre hbel HG3 hlb
    obtain ⟨q0, n0, d0, rfl⟩ := S0.out
    obtain ⟨q1, n1, d1, rfl⟩ := S1.out
    obtain ⟨q2, n2, d2, rfl⟩ := S2.out
    obtain ⟨q3, n3, d3, rfl⟩ := S3.out
    obtain ⟨q4, n4, d4, rfl⟩ := S4.out
    have hab := alloc_below w9 (.cells #[.slice q0 n0 d0, .slice q1 n1 d1, .slice q2 n2 d2, .slice q3 n3 d3, .slice q4 n4 d4] 23)
    have HTa : Hid ((w9.alloc (.cells #[.slice q0 n0 d0, .slice q1 n1 d1, .slice q2 n2 d2, .slice q3 n3 d3, .slice q4 n4 d4] 23)).ownsRow B 23 1 u10 (5 * i) ((List.range (5 * i)).map V)) := row_below HT.out hab (Nat.le_refl _)
    have HCa : Hid (∀ j u, ([.slice q0 n0 d0, .slice q1 n1 d1, .slice q2 n2 d2, .slice q3 n3 d3, .slice q4 n4 d4] : List Value)[j]? = some u → (w9.alloc (.cells #[.slice q0 n0 d0, .slice q1 n1 d1, .slice q2 n2 d2, .slice q3 n3 d3, .slice q4 n4 d4] 23)).cell? ⟨w9.heap.size, j, none⟩ = some u) := fun j u hu => by
      obtain ⟨h1, h2⟩ := List.getElem?_eq_some_iff.1 hu
      rw [← h2]
      exact (alloc_bl w9 [.slice q0 n0 d0, .slice q1 n1 d1, .slice q2 n2 d2, .slice q3 n3 d3, .slice q4 n4 d4] 23).cell j h1
    have HOa : Hid (∀ u ∈ ([.slice q0 n0 d0, .slice q1 n1 d1, .slice q2 n2 d2, .slice q3 n3 d3, .slice q4 n4 d4] : List Value), u.oneCell' = true) := fun u hu => by
      simp at hu
      rcases hu with rfl | rfl | rfl | rfl | rfl <;> rfl
    have HFa : Hid (Fam (w9.alloc (.cells #[.slice q0 n0 d0, .slice q1 n1 d1, .slice q2 n2 d2, .slice q3 n3 d3, .slice q4 n4 d4] 23)) B (5 * i + 5) (updV (updV (updV (updV (updV (V) (5 * i + 0) (.slice q0 n0 d0)) (5 * i + 1) (.slice q1 n1 d1)) (5 * i + 2) (.slice q2 n2 d2)) (5 * i + 3) (.slice q3 n3 d3)) (5 * i + 4) (.slice q4 n4 d4)) L) := HG4.out.below hab (Nat.le_refl _)
    have HRa : Hid (Rms w B gx gy gz la lb lm (w9.alloc (.cells #[.slice q0 n0 d0, .slice q1 n1 d1, .slice q2 n2 d2, .slice q3 n3 d3, .slice q4 n4 d4] 23))) := HR.out.below hab (Nat.le_refl _)
    clear hab HT HG4 HR S0 S1 S2 S3 S4
    go_wp2_with (at_builtin; refine append_tab rfl (.tmp 81) (.tmp 87) rfl B HRa.out.big _ (5 * i) _ rfl HTa.out w9.heap.size 5 [.slice q0 n0 d0, .slice q1 n1 d1, .slice q2 n2 d2, .slice q3 n3 d3, .slice q4 n4 d4] rfl rfl HCa.out HOa.out (by omega) ?_; intro v9 w9 h9 g9)
    have HT9 : Hid (Tb w9 B v9 (5 * (i + 1)) (updV (updV (updV (updV (updV (V) (5 * i + 0) (.slice q0 n0 d0)) (5 * i + 1) (.slice q1 n1 d1)) (5 * i + 2) (.slice q2 n2 d2)) (5 * i + 3) (.slice q3 n3 d3)) (5 * i + 4) (.slice q4 n4 d4))) := by
      show World.ownsRow _ _ _ _ _ _ _
      rw [show 5 * (i + 1) = 5 * i + 5 by omega, range5]
      exact h9
    have HF9 : Hid (Fam w9 B (5 * (i + 1)) (updV (updV (updV (updV (updV (V) (5 * i + 0) (.slice q0 n0 d0)) (5 * i + 1) (.slice q1 n1 d1)) (5 * i + 2) (.slice q2 n2 d2)) (5 * i + 3) (.slice q3 n3 d3)) (5 * i + 4) (.slice q4 n4 d4)) L) := by
      rw [show 5 * (i + 1) = 5 * i + 5 by omega]
      exact HFa.out.grown g9 (fun j hj g hg => kind_apart HTa.out (HFa.out.own j hj) g hg)
    have HR9 : Hid (Rms w B gx gy gz la lb lm w9) := HRa.out.grown g9 (fun g hg => (HTa.out.lt g hg).1)
    clear h9 g9 HTa HCa HOa HFa HRa
    go_wp2
    go_roundw
    case rel => exact ⟨i + 1, _, by omega, by go_num, HF9, HT9, HR9⟩
    case measure => simp [intOf]; omega
  · obtain rfl : i = 2 := by omega
    have hiI : ¬ (((2 : Nat) : Int) < 2) := by omega
    have HF2 : Hid (Fam wr B 10 V L) := HF.out
    have HT2 : Hid (Tb wr B u10 10 V) := HT.out
    clear HF HT hi hlt
    obtain ⟨gl, cl, rfl, hgl, hgl2⟩ := row_some HT2.out (by decide)
    obtain ⟨B2, HB2⟩ : ∃ B2, Hid (wr.heap.size = B2) := ⟨_, rfl⟩
    have HlB : Hid (gl < B2) := by rw [← HB2.out]; exact hgl2
    have HBB : Hid (B ≤ B2) := by rw [← HB2.out]; exact HR.out.big
    clear hgl hgl2
    have HW0 : Hid (Tb wr B2 (.slice none 0 0) 0 (fun _ => .slice none 0 0) ∧ B2 ≤ wr.heap.size) := ⟨World.ownsRow_nil _ _ _ _, Nat.le_of_eq HB2.out.symm⟩
    have HL0 : Hid (L 0 = dg Bs (if c = 0 then V0 else 0)) := (HL.out 0).1
    clear HB2
    obtain ⟨wS, hwS⟩ : ∃ x, x = wr := ⟨_, rfl⟩
    subst hwS
    go_wp2
    go_loopw [22, 23] (fun s22 s23 wq => ∃ (i : Nat) (W : Nat → Value), i ≤ 10 ∧ s23 = .int .i64 (i : Int) ∧ Hid (Fam wq B 10 V L) ∧ Hid (Tb wq B (.slice (some ⟨gl, 0, none⟩) 10 cl) 10 V) ∧ Hid (Rms w B gx gy gz la lb lm wq) ∧ Hid (Tb wq B2 s22 i W ∧ B2 ≤ wq.heap.size) ∧ Hid (0 < i → ∃ g, W 0 = .slice (some ⟨g, 0, none⟩) (L 0).length ((L 0).length + 4) ∧ Rm wq g (L 0))) (fun _ s _ => 10 - (intOf s).toNat)
    case atStart => exact ⟨0, _, by omega, rfl, HF2, HT2, HR, HW0, fun h => by omega⟩
    case round =>
    clear HF2 HT2 HR HW0
    obtain ⟨i, W, hi, rfl, HF, HT, HR, HW, HZ⟩ := hrel
    by_cases hlt : i < 10
    · have hiI : (i : Int) < 10 := by omega
      have gc := tab_at HT.out i hlt
      obtain ⟨li, Hli⟩ : ∃ l, Hid (L i = l) := ⟨_, rfl⟩
      have HO : Hid (Ow wr 0 (V i) li) := by rw [← Hli.out]; exact HF.out.own i hlt
      have Hll : Hid (li.length ≤ 1048576) := by rw [← Hli.out]; exact HLl.out i
      have HSm : Hid (Sm Bs li) := by rw [← Hli.out]; exact HLs.out i
      obtain ⟨nl, Hnl⟩ : ∃ n, Hid (li.length = n) := ⟨_, rfl⟩
      have hnl : nl ≤ 1048576 := by rw [← Hnl.out]; exact Hll.out
      obtain ⟨va, vc, hvs, hvc, hvr, _⟩ := HO.out.nm HSm.out
      rw [Hnl.out] at hvs hvc
      rw [hvs] at gc
      have Cc := roomy_v va nl vc li wr hvr Hnl.out.symm hnl
      clear hvr hvs HO HSm
      go_wp2_with fail
      refine Cc.mono ?_
      clear Cc
      rintro e w6 ⟨rfl, hrm, hbel⟩
      have hab := hbel.trans ((alloc_below w6 (.cells #[.slice (some ⟨wr.heap.size, 0, none⟩) nl (nl + 4)] 23)).mono hbel.size)
      have HTw : Hid ((w6.alloc (.cells #[.slice (some ⟨wr.heap.size, 0, none⟩) nl (nl + 4)] 23)).ownsRow B2 23 1 u22 i ((List.range i).map W)) := row_below HW.out.1 hab (Nat.le_refl _)
      have HBw : Hid (B2 ≤ (w6.alloc (.cells #[.slice (some ⟨wr.heap.size, 0, none⟩) nl (nl + 4)] 23)).heap.size) := Nat.le_trans HW.out.2 hab.size
      have HCa : Hid (∀ j u, ([.slice (some ⟨wr.heap.size, 0, none⟩) nl (nl + 4)] : List Value)[j]? = some u → (w6.alloc (.cells #[.slice (some ⟨wr.heap.size, 0, none⟩) nl (nl + 4)] 23)).cell? ⟨w6.heap.size, j, none⟩ = some u) := fun j u hu => by
        obtain ⟨h1, h2⟩ := List.getElem?_eq_some_iff.1 hu
        rw [← h2]
        exact (alloc_bl w6 [.slice (some ⟨wr.heap.size, 0, none⟩) nl (nl + 4)] 23).cell j h1
      have HOa : Hid (∀ u ∈ ([.slice (some ⟨wr.heap.size, 0, none⟩) nl (nl + 4)] : List Value), u.oneCell' = true) := fun u hu => by
        rw [List.mem_singleton.1 hu]
        rfl
      have HFa : Hid (Fam (w6.alloc (.cells #[.slice (some ⟨wr.heap.size, 0, none⟩) nl (nl + 4)] 23)) B 10 V L) := HF.out.below hab (Nat.le_refl _)
      have HTa : Hid (Tb (w6.alloc (.cells #[.slice (some ⟨wr.heap.size, 0, none⟩) nl (nl + 4)] 23)) B (.slice (some ⟨gl, 0, none⟩) 10 cl) 10 V) := row_below HT.out hab (Nat.le_refl _)
      have HRa : Hid (Rms w B gx gy gz la lb lm (w6.alloc (.cells #[.slice (some ⟨wr.heap.size, 0, none⟩) nl (nl + 4)] 23))) := HR.out.below hab (Nat.le_refl _)
      have HZa : Hid (∃ g, updV W i (.slice (some ⟨wr.heap.size, 0, none⟩) nl (nl + 4)) 0 = .slice (some ⟨g, 0, none⟩) (L 0).length ((L 0).length + 4) ∧ Rm (w6.alloc (.cells #[.slice (some ⟨wr.heap.size, 0, none⟩) nl (nl + 4)] 23)) g (L 0)) := by
        by_cases h0 : i = 0
        · subst h0
          refine ⟨wr.heap.size, by unfold updV; rw [if_pos rfl, Hli.out, Hnl.out], ?_⟩
          rw [Hli.out]
          exact hrm.below (alloc_below _ _) (Nat.le_refl _)
        · obtain ⟨g, h1, h2⟩ := HZ.out (by omega)
          exact ⟨g, by unfold updV; rw [if_neg (by omega)]; exact h1, h2.below hab (Nat.le_refl _)⟩
      clear hrm hbel hab HF HT HR HW HZ Hli Hll
      go_wp2_with (at_builtin; refine append_tab rfl (.tmp 95) (.tmp 101) rfl B2 HBw.out _ i _ rfl HTw.out w6.heap.size 1 [.slice (some ⟨wr.heap.size, 0, none⟩) nl (nl + 4)] rfl rfl HCa.out HOa.out (by omega) ?_; intro v9 w9 h9 g9)
      have HT9 : Hid (Tb w9 B2 v9 (i + 1) (updV W i (.slice (some ⟨wr.heap.size, 0, none⟩) nl (nl + 4))) ∧ B2 ≤ w9.heap.size) := by
        refine ⟨?_, Nat.le_trans HBw.out g9.size⟩
        show World.ownsRow _ _ _ _ _ _ _
        rw [range1]
        exact h9
      have Hgb : Hid (∀ g, u22.ownBlock = some g → B2 ≤ g) := fun g hg => (HTw.out.lt g hg).1
      have HF9 : Hid (Fam w9 B 10 V L) := HFa.out.grown g9 (fun j hj g hg => kind_apart HTw.out (HFa.out.own j hj) g hg)
      have HTl9 : Hid (Tb w9 B (.slice (some ⟨gl, 0, none⟩) 10 cl) 10 V) := row_kept HTa.out g9 (fun g hg e2 => by have h1 := Hgb.out g e2; have h2 := HlB.out; have h3 : gl = g := Option.some.inj hg; omega)
      have HR9 : Hid (Rms w B gx gy gz la lb lm w9) := HRa.out.grown g9 (fun g hg => Nat.le_trans HBB.out (Hgb.out g hg))
      have HZ9 : Hid (0 < i + 1 → ∃ g, updV W i (.slice (some ⟨wr.heap.size, 0, none⟩) nl (nl + 4)) 0 = .slice (some ⟨g, 0, none⟩) (L 0).length ((L 0).length + 4) ∧ Rm w9 g (L 0)) := fun _ => by
        obtain ⟨g, h1, h2⟩ := HZa.out
        exact ⟨g, h1, rm_kept h2 g9 (fun g' hg' => kind_bl HTw.out h2 g' hg')⟩
      clear h9 g9 HTw HBw HCa HOa HFa HTa HRa HZa Hgb
      go_wp2
      go_roundw
      case rel => exact ⟨i + 1, _, by omega, by go_num, HF9, HTl9, HR9, HT9, HZ9⟩
      case measure => simp [intOf]; omega
    · obtain rfl : i = 10 := by omega
      have hiI : ¬ (((10 : Nat) : Int) < 10) := by omega
      clear hi hlt
      obtain ⟨g0, hW0, hrm0⟩ := HZ.out (by decide)
      obtain ⟨gw, cw, rfl, hgw, hgw2⟩ := row_some HW.out.1 (by decide)
      have HTw : Hid (Tb wr B2 (.slice (some ⟨gw, 0, none⟩) 10 cw) 10 W) := HW.out.1
      have Hr0 : Hid (Rm wr g0 (L 0)) := hrm0
      have HW0 : Hid (W 0 = .slice (some ⟨g0, 0, none⟩) (L 0).length ((L 0).length + 4)) := hW0
      have HlS : Hid (gl < wr.heap.size ∧ gw < wr.heap.size ∧ g0 < wr.heap.size ∧ ∀ j, j < 10 → ∀ g, (V j).ownBlock = some g → g < wr.heap.size) := ⟨Nat.lt_of_lt_of_le HlB.out HW.out.2, hgw2, Bl.lt hrm0, fun j hj g hg => HF.out.lt j hj g hg⟩
      have HB2w : Hid (B2 ≤ wr.heap.size) := HW.out.2
      clear hW0 hrm0 hgw hgw2 HZ HW
      have Cc := roomy_v pa na ca la wr (Ha.out.2.2.1.below HR.out.bel (Nat.le_refl _)) Hna.out.symm hla
      go_wp2_with fail
      refine Cc.mono ?_
      clear Cc
      rintro e w6 ⟨rfl, hrm, hbel⟩
      obtain ⟨gr, Hgr⟩ : ∃ g, Hid (wr.heap.size = g) := ⟨_, rfl⟩
      have hab := hbel.trans ((alloc_below w6 (.cells #[.int .u32 0, .int .u32 0] 29)).mono hbel.size)
      have HOw : Hid (Ow (w6.alloc (.cells #[.int .u32 0, .int .u32 0] 29)) gr (.slice (some ⟨gr, 0, none⟩) na (na + 4)) la) := by
        have h := hrm.below (alloc_below w6 (.cells #[.int .u32 0, .int .u32 0] 29)) (Nat.le_refl _)
        rw [Hgr.out] at h
        have h2 := Bl.ow (base := gr) h na (by simp [Hna.out]) (Nat.le_refl _) (by simp [Hna.out]; omega)
        rw [List.take_left' Hna.out, List.length_append, Hna.out, List.length_replicate] at h2
        exact h2
      have HRd : Hid (Rn (w6.alloc (.cells #[.int .u32 0, .int .u32 0] 29)) (some ⟨w6.heap.size, 0, none⟩) [0, 0]) := (alloc_bl w6 (([0, 0] : List Nat).map U) 29).rn
      have HFa : Hid (Fam (w6.alloc (.cells #[.int .u32 0, .int .u32 0] 29)) B 10 V L) := HF.out.below hab (Nat.le_refl _)
      have HTa : Hid (Tb (w6.alloc (.cells #[.int .u32 0, .int .u32 0] 29)) B (.slice (some ⟨gl, 0, none⟩) 10 cl) 10 V) := row_below HT.out hab (Nat.le_refl _)
      have HRa : Hid (Rms w B gx gy gz la lb lm (w6.alloc (.cells #[.int .u32 0, .int .u32 0] 29))) := HR.out.below hab (Nat.le_refl _)
      have HTwa : Hid (Tb (w6.alloc (.cells #[.int .u32 0, .int .u32 0] 29)) B2 (.slice (some ⟨gw, 0, none⟩) 10 cw) 10 W) := row_below HTw.out hab (Nat.le_refl _)
      have Hr0a : Hid (Rm (w6.alloc (.cells #[.int .u32 0, .int .u32 0] 29)) g0 (L 0)) := Hr0.out.below hab (Nat.le_refl _)
      have Hgs : Hid (gr ≤ (w6.alloc (.cells #[.int .u32 0, .int .u32 0] 29)).heap.size) := by rw [← Hgr.out]; exact hab.size
      have HBg : Hid (B ≤ gr) := by rw [← Hgr.out]; exact HR.out.big
      rw [Hgr.out] at HlS
      rw [Hgr.out]
      clear hrm hbel hab HF HT HR HTw Hr0 HB2w
      go_wp2_with (at_builtin; refine append_rn rfl (.tmp 104) (.tmp 105) rfl gr _ la rfl HOw.out (some ⟨w6.heap.size, 0, none⟩) 2 2 [0, 0] rfl rfl (fun e => by cases e) HRd.out (by rw [Hna.out]; omega) Hgs.out ?_; intro v9 w9 h9 g9)
      have g9' : World.grownBy _ w9 (some gr) := g9
      have HF9 : Hid (Fam w9 B 10 V L) := HFa.out.grown g9' (fun j hj g hg e2 => by have h1 := HlS.out.2.2.2 j hj g hg; have h2 : gr = g := Option.some.inj e2; omega)
      have HT9 : Hid (Tb w9 B (.slice (some ⟨gl, 0, none⟩) 10 cl) 10 V) := row_kept HTa.out g9' (fun g hg e2 => by have h1 := HlS.out.1; have h2 : gr = g := Option.some.inj e2; have h3 : gl = g := Option.some.inj hg; omega)
      have HTw9 : Hid (Tb w9 B2 (.slice (some ⟨gw, 0, none⟩) 10 cw) 10 W) := row_kept HTwa.out g9' (fun g hg e2 => by have h1 := HlS.out.2.1; have h2 : gr = g := Option.some.inj e2; have h3 : gw = g := Option.some.inj hg; omega)
      have HR9 : Hid (Rms w B gx gy gz la lb lm w9) := HRa.out.grown g9' (fun g hg => by have h2 : gr = g := Option.some.inj hg; rw [← h2]; exact HBg.out)
      have Hr9 : Hid (Rm w9 g0 (L 0)) := rm_kept Hr0a.out g9' (fun g hg => by have h1 := HlS.out.2.2.1; have h2 : gr = g := Option.some.inj hg; omega)
      have N9 : Nu w9 v9 (nv Bs la) := by
        have hs : Sm Bs (la ++ [0, 0]) := Ha.out.2.2.2.1.append (fun x hx => by simp at hx; rw [hx]; exact Bs_pos)
        refine ⟨la ++ [0, 0], h9.nm hs, ?_, by rw [List.length_append, Hna.out]; simp; omega⟩
        rw [nv_append]
        simp [nv]
      clear h9 g9 g9' HOw HRd HFa HTa HRa HTwa Hr0a Hgs HBg HlS Hgr
      have Q14 : Nd w9 (.slice (some ⟨gy, 0, none⟩) nb (nb + 4)) (nv Bs lb) 3000000 := by
        have h := HR9.out.y.nd Hb.out.2.2.2.1 (by rw [Hnb.out]; exact hlb)
        rw [Hnb.out] at h
        exact h
      have Q15 : Nd w9 (.slice (some ⟨gz, 0, none⟩) nm (nm + 4)) (nv Bs lm) 3000000 := by
        have h := HR9.out.z.nd Hm.out.2.2.2.1 (by rw [Hnm.out]; exact hlm)
        rw [Hnm.out] at h
        exact h
      have Cc := madd_v _ _ _ (nv Bs la) (nv Bs lb) (nv Bs lm) w9 N9 Q14.1 Q15.1
      rw [Hc.out, HV0.out] at Cc
      clear N9 Q14 Q15
      go_wp2_with fail
      refine Cc.mono ?_
      clear Cc
      rintro e w10 hans
      obtain ⟨rg, rfl, hre⟩ := hans.re
      have hbel := hre.bel
      replace HF9 : Hid (Fam w10 B 10 V L) := HF9.out.below hbel (Nat.le_refl _)
      replace HR9 : Hid (Rms w B gx gy gz la lb lm w10) := HR9.out.below hbel (Nat.le_refl _)
      replace HT9 : Hid (Tb w10 B (.slice (some ⟨gl, 0, none⟩) 10 cl) 10 V) := row_below HT9.out hbel (Nat.le_refl _)
      replace HTw9 : Hid (Tb w10 B2 (.slice (some ⟨gw, 0, none⟩) 10 cw) 10 W) := row_below HTw9.out hbel (Nat.le_refl _)
      replace Hr9 : Hid (Rm w10 g0 (L 0)) := Hr9.out.below hbel (Nat.le_refl _)
      have Cc : Calls Try.prog 13 #[rg, .slice (some ⟨g0, 0, none⟩) (L 0).length ((L 0).length + 4)] w10 fun e w' => e = .returned (.bool true) ∧ ∃ q, w' = w10.drewN q := by
        have h := Hr9.out.rn
        rw [HL0.out] at h ⊢
        exact lsame_eq rg _ _ w10 hre.om.nm ⟨_, _, rfl, by omega, h, dg_sm Bs_two _⟩ (Nat.le_trans hre.2.1 (by decide))
      have gc := tab_at HTw9.out 0 (by decide)
      rw [HW0.out] at gc
      clear hans hre hbel HTw9 Hr9 HW0
      go_wp2_with fail
      refine Cc.mono ?_
      clear Cc gc
      rintro e w11 ⟨rfl, qq, hq⟩
      have hbel : Below w10.heap.size w10 w11 := by rw [hq]; exact below_drewN (Below.refl _ _) qq
      have HF : Hid (Fam w11 B 10 V (fil L 0)) := by rw [fil_zero]; exact HF9.out.below hbel (Nat.le_refl _)
      have HR : Hid (Rms w B gx gy gz la lb lm w11) := HR9.out.below hbel (Nat.le_refl _)
      have HT : Hid (Tb w11 B (.slice (some ⟨gl, 0, none⟩) 10 cl) 10 V) := row_below HT9.out hbel (Nat.le_refl _)
      clear hq hbel HF9 HR9 HT9 HlB HBB HL HF3 HL0
      go_wp2
      go_loopw [27] (fun s wq => ∃ i : Nat, i ≤ 10 ∧ s = .int .i64 (i : Int) ∧ Hid (Fam wq B 10 V (fil L i)) ∧ Hid (Tb wq B (.slice (some ⟨gl, 0, none⟩) 10 cl) 10 V) ∧ Hid (Rms w B gx gy gz la lb lm wq)) (fun s _ => 10 - (intOf s).toNat)
      case atStart => exact ⟨0, by omega, rfl, HF, HT, HR⟩
      case round =>
      clear HF HT HR
      obtain ⟨i, hi, rfl, HF, HT, HR⟩ := hrel
      by_cases hlt : i < 10
      · have hiI : (i : Int) < 10 := by omega
        have gc := tab_at HT.out i hlt
        obtain ⟨nl, Hnl⟩ : ∃ n, Hid ((L i).length = n) := ⟨_, rfl⟩
        have hnl : nl ≤ 1048576 := by rw [← Hnl.out]; exact HLl.out i
        have HO0 : Hid (Ow wr 0 (V i) (L i)) := by have h := HF.out.own i hlt; unfold fil at h; rw [if_neg (by omega)] at h; exact h
        have HX : Hid (∀ w', (∀ g, (V i).ownBlock = some g → But wr w' g) → ((V i).ownBlock = none → w' = wr) → Ow w' 0 (V i) (List.replicate nl (1000 + i)) → Fam w' B 10 V (fil L (i + 1)) ∧ Tb w' B (.slice (some ⟨gl, 0, none⟩) 10 cl) 10 V ∧ Rms w B gx gy gz la lb lm w') := fun w' h1 h2 h3 => by
          rw [← fil_succ, Hnl.out]
          cases hv : (V i).ownBlock with
          | none =>
            have h4 := h2 hv
            subst h4
            exact ⟨⟨fun j hj => by
              unfold updL
              by_cases e : j = i
              · subst e; rw [if_pos rfl]; exact h3
              · rw [if_neg e]; exact HF.out.own j hj, HF.out.low, HF.out.sep⟩, HT.out, HR.out⟩
          | some g =>
            have hb := h1 g hv
            exact ⟨HF.out.write hlt hv hb h3, row_but HT.out hb (kind_apart HT.out HO0.out g hv), HR.out.but hb (HF.out.low i hlt g hv)⟩
        obtain ⟨va, vc, hvs, _⟩ := HO0.out.nm (HLs.out i)
        rw [Hnl.out] at hvs
        rw [hvs] at gc HO0 HX
        obtain ⟨x, Hx⟩ : ∃ x, Hid (1000 + i = x) := ⟨_, rfl⟩
        have hx : x ≤ 1010 := by rw [← Hx.out]; omega
        rw [Hx.out] at HX
        have exI : (1000 : Int) + (i : Int) = (x : Int) := by rw [← Hx.out]; omega
        have exw : IntKind.u32.wrap (x : Int) = (x : Int) := by rw [IntKind.wrap_u32]; omega
        have HI0 : Hid (Ow wr 0 (.slice va nl vc) (List.replicate 0 x ++ (L i).drop 0)) := HO0.out
        have Hgcc : Hid (∀ w', (∀ g, (Value.slice va nl vc).ownBlock = some g → But wr w' g) → ((Value.slice va nl vc).ownBlock = none → w' = wr) → w'.cell? ⟨gl, i, none⟩ = some (.slice va nl vc)) := fun w' h1 h2 => by
          cases hv : (Value.slice va nl vc).ownBlock with
          | none => rw [h2 hv]; exact gc
          | some g =>
            have h3 := row_but HT.out (h1 g hv) (kind_apart HT.out HO0.out g hv)
            have h4 := tab_at h3 i hlt
            rw [hvs] at h4
            exact h4
        clear gc HF HT HR HO0 hvs
        go_wp2
        obtain ⟨wS, hwS⟩ : ∃ x, x = wr := ⟨_, rfl⟩
        subst hwS
        go_loopw [28] (fun s wq => ∃ k : Nat, k ≤ nl ∧ s = .int .i64 (k : Int) ∧ Hid (Ow wq 0 (.slice va nl vc) (List.replicate k x ++ (L i).drop k)) ∧ Hid ((∀ g, (Value.slice va nl vc).ownBlock = some g → But wS wq g) ∧ ((Value.slice va nl vc).ownBlock = none → wq = wS))) (fun s _ => nl - (intOf s).toNat)
        case atStart => exact ⟨0, by omega, rfl, HI0, fun g _ => But.refl _ _, fun _ => rfl⟩
        case round =>
        clear HI0
        obtain ⟨k, hk, rfl, HI, HU⟩ := hrel
        have gc := Hgcc.out wr HU.out.1 HU.out.2
        by_cases hlk : k < nl
        · have hkI : (k : Int) < (nl : Int) := by omega
          have Hln : Hid ((List.replicate k x ++ (L i).drop k).length = nl) := by show _ = _; rw [List.length_append, List.length_replicate, List.length_drop, Hnl.out]; omega
          obtain ⟨g, cc, hsl, _, _⟩ := row_some HI.out (by rw [Hln.out]; omega)
          rw [Hln.out] at hsl
          cases hsl
          have c1 := ow_at HI.out Hln.out k hlk
          generalize (List.replicate k x ++ (L i).drop k).getD k 0 = old at c1
          have gf := World.ownsRow.frozenAt (by have h := HI.out; unfold Ow at h; rw [Hln.out] at h; exact h) k
          have HS : Hid (Ow (wr.setCell ⟨g, k, none⟩ (.int .u32 (x : Int))) 0 (.slice (some ⟨g, 0, none⟩) nl vc) (List.replicate (k + 1) x ++ (L i).drop (k + 1))) := by
            have h := ow_set HI.out Hln.out k x
            rw [rep_set (L i) k x (by rw [Hnl.out]; exact hlk)] at h
            exact h
          have HU2 : Hid ((∀ g', (Value.slice (some ⟨g, 0, none⟩) nl vc).ownBlock = some g' → But wS (wr.setCell ⟨g, k, none⟩ (.int .u32 (x : Int))) g') ∧ ((Value.slice (some ⟨g, 0, none⟩) nl vc).ownBlock = none → (wr.setCell ⟨g, k, none⟩ (.int .u32 (x : Int))) = wS)) := ⟨fun g' hg' => by have h := HU.out.1 g' hg'; cases hg'; exact h.set _ _, fun h => by cases h⟩
          clear HI HU Hln
          go_wp2
          go_roundw
          case rel => exact ⟨k + 1, by omega, by go_num, HS, HU2⟩
          case measure => simp [intOf]; omega
        · obtain rfl : k = nl := by omega
          have hkI : ¬ ((k : Int) < (k : Int)) := by omega
          have HD : Hid (Ow wr 0 (.slice va k vc) (List.replicate k x)) := by
            have h := HI.out
            rw [List.drop_of_length_le (by rw [Hnl.out]; exact Nat.le_refl _), List.append_nil] at h
            exact h
          have HE := HX.out wr HU.out.1 HU.out.2 HD.out
          have HEh : Hid (Fam wr B 10 V (fil L (i + 1)) ∧ Tb wr B (.slice (some ⟨gl, 0, none⟩) 10 cl) 10 V ∧ Rms w B gx gy gz la lb lm wr) := HE
          clear HE HD HI HU HX Hgcc
          go_wp2
          go_roundw
          case rel => exact ⟨i + 1, by omega, by go_num, HEh.out.1, HEh.out.2.1, HEh.out.2.2⟩
          case measure => simp [intOf]; omega
      · obtain rfl : i = 10 := by omega
        have hiI : ¬ (((10 : Nat) : Int) < 10) := by omega
        clear hi hlt
        obtain ⟨B3, HB3⟩ : ∃ B3, Hid (wr.heap.size = B3) := ⟨_, rfl⟩
        have HlB : Hid (gl < B3) := by
          rw [← HB3.out]
          obtain ⟨g1, c1, e1, _, h1⟩ := row_some HT.out (by decide)
          cases e1
          exact h1
        have HBB : Hid (B ≤ B3) := by rw [← HB3.out]; exact HR.out.big
        have HM0 : Hid (Tb wr B3 (.slice none 0 0) 0 (fun _ => .slice none 0 0) ∧ B3 ≤ wr.heap.size) := ⟨World.ownsRow_nil _ _ _ _, Nat.le_of_eq HB3.out.symm⟩
        clear HB3
        go_wp2
        go_loopw [29, 30] (fun s29 s30 wq => ∃ (i : Nat) (P : Nat → Value), i ≤ 10 ∧ s30 = .int .i64 (i : Int) ∧ Hid (Fam wq B 10 V (fil L 10)) ∧ Hid (Tb wq B (.slice (some ⟨gl, 0, none⟩) 10 cl) 10 V) ∧ Hid (Rms w B gx gy gz la lb lm wq) ∧ Hid (Tb wq B3 s29 i P ∧ B3 ≤ wq.heap.size) ∧ Hid (∀ j, j < i → Ow wq 0 (P j) (List.replicate (L j).length (1000 + j) ++ List.replicate 150 (5000 + j)) ∧ ∀ g, (P j).ownBlock = some g → ∀ k, k < 10 → k ≠ j → (V k).ownBlock ≠ some g)) (fun _ s _ => 10 - (intOf s).toNat)
        case atStart => exact ⟨0, _, by omega, rfl, HF, HT, HR, HM0, fun j hj => by omega⟩
        case round =>
        clear HF HT HR HM0
        obtain ⟨i, P, hi, rfl, HF, HT, HR, HM, HP⟩ := hrel
        by_cases hlt : i < 10
        · have hiI : (i : Int) < 10 := by omega
          have gc := tab_at HT.out i hlt
          obtain ⟨nl, Hnl⟩ : ∃ n, Hid ((L i).length = n) := ⟨_, rfl⟩
          have hnl : nl ≤ 1048576 := by rw [← Hnl.out]; exact HLl.out i
          have HO0 : Hid (Ow wr 0 (V i) (List.replicate nl (1000 + i))) := by have h := HF.out.own i hlt; unfold fil at h; rw [if_pos (by omega), Hnl.out] at h; exact h
          have Hlt0 : Hid (∀ g, (V i).ownBlock = some g → g < wr.heap.size) := fun g hg => HF.out.lt i hlt g hg
          obtain ⟨y, Hy⟩ : ∃ y, Hid (5000 + i = y) := ⟨_, rfl⟩
          have hy : y ≤ 5010 := by rw [← Hy.out]; omega
          have eyI : (5000 : Int) + (i : Int) = (y : Int) := by rw [← Hy.out]; omega
          have eyw : IntKind.u32.wrap (y : Int) = (y : Int) := by rw [IntKind.wrap_u32]; omega
          have HI0 : Hid (Ow wr 0 (V i) (List.replicate nl (1000 + i) ++ List.replicate 0 y)) := by rw [List.replicate_zero, List.append_nil]; exact HO0.out
          obtain ⟨wS, hwS⟩ : ∃ x, x = wr := ⟨_, rfl⟩
          subst hwS
          go_wp2
          clear gc
          go_loopw [31, 32] (fun s31 s32 wq => ∃ k : Nat, k ≤ 150 ∧ s32 = .int .i64 (k : Int) ∧ Hid (Ow wq 0 s31 (List.replicate nl (1000 + i) ++ List.replicate k y)) ∧ Hid (Ow wq 0 (V i) (List.replicate nl (1000 + i))) ∧ Hid (wS.grownBy wq (V i).ownBlock) ∧ Hid (s31.ownBlock = (V i).ownBlock ∨ ∃ g, s31.ownBlock = some g ∧ wS.heap.size ≤ g)) (fun _ s _ => 150 - (intOf s).toNat)
          case atStart => exact ⟨0, by omega, rfl, HI0, HO0, World.grownBy.refl _ _, .inl rfl⟩
          case round =>
          clear HI0 HO0
          obtain ⟨k, hk, rfl, HI, HO0, HG, HK⟩ := hrel
          by_cases hlk : k < 150
          · have hkI : (k : Int) < 150 := by omega
            obtain ⟨v', wn, hrun, h1, h2, h3, h4⟩ := more_one y HI.out HO0.out (by simp) HG.out Hlt0.out HK.out (by simp; omega)
            have H1 : Hid (Ow wn 0 v' (List.replicate nl (1000 + i) ++ List.replicate (k + 1) y)) := by rw [List.replicate_succ', ← List.append_assoc]; exact h1
            have H2 : Hid (Ow wn 0 (V i) (List.replicate nl (1000 + i))) := h2
            have H3 : Hid (wS.grownBy wn (V i).ownBlock) := h3
            have H4 : Hid (v'.ownBlock = (V i).ownBlock ∨ ∃ g, v'.ownBlock = some g ∧ wS.heap.size ≤ g) := h4
            have Hrun : Hid _ := hrun
            clear h1 h2 h3 h4 hrun HI HO0 HG HK
            go_wp2_with (at_builtin; refine wpList_append_run rfl (.tmp 158) (.tmp 162) 23 rfl u31 (.slice (some ⟨wr.heap.size, 0, none⟩) 1 1) v' wn rfl rfl Hrun.out ?_)
            go_wp2
            go_roundw
            case rel => exact ⟨k + 1, by omega, by go_num, H1, H2, H3, H4⟩
            case measure => simp [intOf]; omega
          · obtain rfl : k = 150 := by omega
            have hkI : ¬ (((150 : Nat) : Int) < 150) := by omega
            obtain ⟨pg, pc, hsl, _, _⟩ := row_some HI.out (by simp)
            rw [List.length_append, List.length_replicate, List.length_replicate] at hsl
            subst hsl
            have hsep : ∀ j, j < 10 → j ≠ i → ∀ g, (V j).ownBlock = some g → (V i).ownBlock ≠ some g := fun j hj hne g hg => HF.out.sep j i hj hlt hne g hg
            have HF5 : Hid (Fam wr B 10 V (fil L 10)) := ⟨fun j hj => by
              by_cases e : j = i
              · subst e
                have h := HO0.out
                unfold fil
                rw [if_pos hj, Hnl.out]
                exact h
              · exact (HF.out.own j hj).kept HG.out (fun g hg => hsep j hj e g hg), HF.out.low, HF.out.sep⟩
            have HT5 : Hid (Tb wr B (.slice (some ⟨gl, 0, none⟩) 10 cl) 10 V) := row_kept HT.out HG.out (fun g hg e2 => kind_apart HT.out (HF.out.own i hlt) g e2 hg)
            have HR5 : Hid (Rms w B gx gy gz la lb lm wr) := HR.out.grown HG.out (fun g hg => HF.out.low i hlt g hg)
            have HM5 : Hid (Tb wr B3 u29 i P ∧ B3 ≤ wr.heap.size) := ⟨row_kept HM.out.1 HG.out (fun g hg e2 => kind_apart HM.out.1 (HF.out.own i hlt) g e2 hg), Nat.le_trans HM.out.2 HG.out.size⟩
            have HP5 : Hid (∀ j, j < i + 1 → Ow wr 0 (updV P i (.slice (some ⟨pg, 0, none⟩) (nl + 150) pc) j) (List.replicate (L j).length (1000 + j) ++ List.replicate 150 (5000 + j)) ∧ ∀ g, (updV P i (.slice (some ⟨pg, 0, none⟩) (nl + 150) pc) j).ownBlock = some g → ∀ k, k < 10 → k ≠ j → (V k).ownBlock ≠ some g) := fun j hj => by
              unfold updV
              by_cases e : j = i
              · subst e
                rw [if_pos rfl, Hnl.out, Hy.out]
                refine ⟨HI.out, fun g hg k hk hne e2 => ?_⟩
                rcases HK.out with h1 | ⟨g1, h1, h2⟩
                · rw [h1] at hg; exact hsep k hk hne g e2 hg
                · rw [h1] at hg; have h3 : g1 = g := Option.some.inj hg; have := HF.out.lt k hk g e2; omega
              · rw [if_neg e]
                obtain ⟨h1, h2⟩ := HP.out j (by omega)
                exact ⟨h1.kept HG.out (fun g hg => h2 g hg i hlt (fun e3 => e e3.symm)), h2⟩
            clear HI HO0 HG HK HF HT HR HM HP hsep Hnl Hy Hlt0 eyI eyw hy
            have hab := alloc_below wr (.cells #[.slice (some ⟨pg, 0, none⟩) (nl + 150) pc] 23)
            have HTw : Hid ((wr.alloc (.cells #[.slice (some ⟨pg, 0, none⟩) (nl + 150) pc] 23)).ownsRow B3 23 1 u29 i ((List.range i).map P)) := row_below HM5.out.1 hab (Nat.le_refl _)
            have HBw : Hid (B3 ≤ (wr.alloc (.cells #[.slice (some ⟨pg, 0, none⟩) (nl + 150) pc] 23)).heap.size) := Nat.le_trans HM5.out.2 hab.size
            have HCa : Hid (∀ j u, ([.slice (some ⟨pg, 0, none⟩) (nl + 150) pc] : List Value)[j]? = some u → (wr.alloc (.cells #[.slice (some ⟨pg, 0, none⟩) (nl + 150) pc] 23)).cell? ⟨wr.heap.size, j, none⟩ = some u) := fun j u hu => by
              obtain ⟨h1, h2⟩ := List.getElem?_eq_some_iff.1 hu
              rw [← h2]
              exact (alloc_bl wr [.slice (some ⟨pg, 0, none⟩) (nl + 150) pc] 23).cell j h1
            have HOa : Hid (∀ u ∈ ([.slice (some ⟨pg, 0, none⟩) (nl + 150) pc] : List Value), u.oneCell' = true) := fun u hu => by
              rw [List.mem_singleton.1 hu]
              rfl
            have HFa : Hid (Fam (wr.alloc (.cells #[.slice (some ⟨pg, 0, none⟩) (nl + 150) pc] 23)) B 10 V (fil L 10)) := HF5.out.below hab (Nat.le_refl _)
            have HTa : Hid (Tb (wr.alloc (.cells #[.slice (some ⟨pg, 0, none⟩) (nl + 150) pc] 23)) B (.slice (some ⟨gl, 0, none⟩) 10 cl) 10 V) := row_below HT5.out hab (Nat.le_refl _)
            have HRa : Hid (Rms w B gx gy gz la lb lm (wr.alloc (.cells #[.slice (some ⟨pg, 0, none⟩) (nl + 150) pc] 23))) := HR5.out.below hab (Nat.le_refl _)
            have HPa : Hid (∀ j, j < i + 1 → Ow (wr.alloc (.cells #[.slice (some ⟨pg, 0, none⟩) (nl + 150) pc] 23)) 0 (updV P i (.slice (some ⟨pg, 0, none⟩) (nl + 150) pc) j) (List.replicate (L j).length (1000 + j) ++ List.replicate 150 (5000 + j)) ∧ ∀ g, (updV P i (.slice (some ⟨pg, 0, none⟩) (nl + 150) pc) j).ownBlock = some g → ∀ k, k < 10 → k ≠ j → (V k).ownBlock ≠ some g) := fun j hj => ⟨(HP5.out j hj).1.below hab (Nat.le_refl _), (HP5.out j hj).2⟩
            clear hab HF5 HT5 HR5 HM5 HP5
            go_wp2_with (at_builtin; refine append_tab rfl (.tmp 164) (.tmp 166) rfl B3 HBw.out _ i _ rfl HTw.out wr.heap.size 1 [.slice (some ⟨pg, 0, none⟩) (nl + 150) pc] rfl rfl HCa.out HOa.out (by omega) ?_; intro v9 w9 h9 g9)
            have HM9 : Hid (Tb w9 B3 v9 (i + 1) (updV P i (.slice (some ⟨pg, 0, none⟩) (nl + 150) pc)) ∧ B3 ≤ w9.heap.size) := by
              refine ⟨?_, Nat.le_trans HBw.out g9.size⟩
              show World.ownsRow _ _ _ _ _ _ _
              rw [range1]
              exact h9
            have Hgb : Hid (∀ g, u29.ownBlock = some g → B3 ≤ g) := fun g hg => (HTw.out.lt g hg).1
            have HF9 : Hid (Fam w9 B 10 V (fil L 10)) := HFa.out.grown g9 (fun j hj g hg => kind_apart HTw.out (HFa.out.own j hj) g hg)
            have HT9 : Hid (Tb w9 B (.slice (some ⟨gl, 0, none⟩) 10 cl) 10 V) := row_kept HTa.out g9 (fun g hg e2 => by have h1 := Hgb.out g e2; have h2 := HlB.out; have h3 : gl = g := Option.some.inj hg; omega)
            have HR9 : Hid (Rms w B gx gy gz la lb lm w9) := HRa.out.grown g9 (fun g hg => Nat.le_trans HBB.out (Hgb.out g hg))
            have HP9 : Hid (∀ j, j < i + 1 → Ow w9 0 (updV P i (.slice (some ⟨pg, 0, none⟩) (nl + 150) pc) j) (List.replicate (L j).length (1000 + j) ++ List.replicate 150 (5000 + j)) ∧ ∀ g, (updV P i (.slice (some ⟨pg, 0, none⟩) (nl + 150) pc) j).ownBlock = some g → ∀ k, k < 10 → k ≠ j → (V k).ownBlock ≠ some g) := fun j hj => ⟨(HPa.out j hj).1.kept g9 (fun g hg => kind_apart HTw.out (HPa.out j hj).1 g hg), (HPa.out j hj).2⟩
            clear h9 g9 HTw HBw HCa HOa HFa HTa HRa HPa Hgb
            go_wp2
            go_roundw
            case rel => exact ⟨i + 1, _, by omega, by go_num, HF9, HT9, HR9, HM9, HP9⟩
            case measure => simp [intOf]; omega
        · obtain rfl : i = 10 := by omega
          have hiI : ¬ (((10 : Nat) : Int) < 10) := by omega
          clear hi hlt
          obtain ⟨gm, cm', rfl, _, _⟩ := row_some HM.out.1 (by decide)
          have HMt : Hid (Tb wr B3 (.slice (some ⟨gm, 0, none⟩) 10 cm') 10 P) := HM.out.1
          clear HM
          obtain ⟨wS, hwS⟩ : ∃ x, x = wr := ⟨_, rfl⟩
          subst hwS
          go_wp2
          go_loopw [33] (fun s wq => ∃ i q : Nat, i ≤ 10 ∧ s = .int .i64 (i : Int) ∧ Hid (wq = wS.drewN q)) (fun s _ => 10 - (intOf s).toNat)
          case atStart => exact ⟨0, 0, by omega, rfl, rfl⟩
          case round =>
          obtain ⟨i, q, hi, rfl, hw⟩ := hrel
          have hw2 := hw.out
          subst hw2
          clear hw
          by_cases hlt : i < 10
          · have hiI : (i : Int) < 10 := by omega
            have c1 := tab_at HMt.out i hlt
            have c2 := tab_at HT.out i hlt
            obtain ⟨nl, Hnl⟩ : ∃ n, Hid ((L i).length = n) := ⟨_, rfl⟩
            have hnl : nl ≤ 1048576 := by rw [← Hnl.out]; exact HLl.out i
            have HO : Hid (Ow wS 0 (V i) (List.replicate nl (1000 + i))) := by have h := HF.out.own i hlt; unfold fil at h; rw [if_pos (by omega), Hnl.out] at h; exact h
            have HQ : Hid (Ow wS 0 (P i) (List.replicate nl (1000 + i) ++ List.replicate 150 (5000 + i))) := by have h := (HP.out i hlt).1; rw [Hnl.out] at h; exact h
            obtain ⟨pg, pc, hps, _, _⟩ := row_some HQ.out (by simp)
            rw [List.length_append, List.length_replicate, List.length_replicate] at hps
            rw [hps] at c1 HQ
            obtain ⟨x, Hx⟩ : ∃ x, Hid (1000 + i = x) := ⟨_, rfl⟩
            have hx : x ≤ 1010 := by rw [← Hx.out]; omega
            have exI : (1000 : Int) + (i : Int) = (x : Int) := by rw [← Hx.out]; omega
            have exw : IntKind.u32.wrap (x : Int) = (x : Int) := by rw [IntKind.wrap_u32]; omega
            obtain ⟨y, Hy⟩ : ∃ y, Hid (5000 + i = y) := ⟨_, rfl⟩
            have hy : y ≤ 5010 := by rw [← Hy.out]; omega
            have eyI : (5000 : Int) + (i : Int) = (y : Int) := by rw [← Hy.out]; omega
            have eyw : IntKind.u32.wrap (y : Int) = (y : Int) := by rw [IntKind.wrap_u32]; omega
            rw [Hx.out] at HO HQ
            rw [Hy.out] at HQ
            obtain ⟨va, vc, hvs, _⟩ := HO.out.nm (fun z hz => by rw [(List.mem_replicate.1 hz).2, Bs_eq]; omega)
            rw [List.length_replicate] at hvs
            rw [hvs] at c2 HO
            have HA1 : Hid (∀ k, k < nl → ∃ g, va = some ⟨g, 0, none⟩ ∧ wS.cell? ⟨g, k, none⟩ = some (.int .u32 (x : Int))) := fun k hk => by
              obtain ⟨g, cc, e1, _, _⟩ := row_some HO.out (by rw [List.length_replicate]; omega)
              rw [List.length_replicate] at e1
              cases e1
              refine ⟨g, rfl, ?_⟩
              have h := ow_at HO.out (List.length_replicate ..) k hk
              rw [List.getD_eq_getElem?_getD, List.getElem?_replicate, if_pos hk] at h
              exact h
            have HA2 : Hid (∀ k, k < nl → wS.cell? ⟨pg, k, none⟩ = some (.int .u32 (x : Int))) := fun k hk => by
              have h := ow_at HQ.out (by rw [List.length_append, List.length_replicate, List.length_replicate]) k (by omega)
              rw [List.getD_eq_getElem?_getD, List.getElem?_append_left (by rw [List.length_replicate]; exact hk), List.getElem?_replicate, if_pos hk] at h
              exact h
            have HA3 : Hid (∀ k, nl ≤ k → k < nl + 150 → wS.cell? ⟨pg, k, none⟩ = some (.int .u32 (y : Int))) := fun k hk hk2 => by
              have h := ow_at HQ.out (by rw [List.length_append, List.length_replicate, List.length_replicate]) k hk2
              have h2 : k - nl < 150 := by omega
              rw [List.getD_eq_getElem?_getD, List.getElem?_append_right (by rw [List.length_replicate]; exact hk), List.length_replicate, List.getElem?_replicate, if_pos h2] at h
              exact h
            clear HO HQ hps hvs Hnl Hx Hy
            go_wp2
            go_loopw [34] (fun s wq => ∃ k q : Nat, k ≤ nl + 150 ∧ s = .int .i64 (k : Int) ∧ Hid (wq = wS.drewN q)) (fun s _ => nl + 150 - (intOf s).toNat)
            case atStart => exact ⟨0, q, by omega, rfl, rfl⟩
            case round =>
            obtain ⟨k, q2, hk, rfl, hw⟩ := hrel
            have hw2 := hw.out
            subst hw2
            clear hw
            by_cases hlk : k < nl + 150
            · have hkI : (k : Int) < (nl : Int) + 150 := by omega
              by_cases hkn : k < nl
              · obtain ⟨g, rfl, d1⟩ := HA1.out k hkn
                have d2 := HA2.out k hkn
                have hb1 : decide ((k : Int) < (nl : Int)) = true := decide_eq_true (by omega)
                have hb2 : decide ((nl : Int) ≤ (k : Int)) = false := decide_eq_false (by omega)
                have hb4 : decide ((k : Int) ≥ (nl : Int)) = false := decide_eq_false (by omega)
                have hb5 : decide (nl ≤ k) = false := decide_eq_false (by omega)
                have hb3 : ((x : Int) != (x : Int)) = false := by simp
                clear HF HT HR HMt HP HA1 HA2 HA3 HLl HLs
                go_wp2
                go_quiet (fail)
                go_wp2
                go_roundw
                case rel => exact ⟨k + 1, _, by omega, by go_num, rfl⟩
                case measure => simp [intOf]; omega
              · have d3 := HA3.out k (by omega) hlk
                have hb1 : decide ((k : Int) < (nl : Int)) = false := decide_eq_false (by omega)
                have hb2 : decide ((nl : Int) ≤ (k : Int)) = true := decide_eq_true (by omega)
                have hb4 : decide ((k : Int) ≥ (nl : Int)) = true := decide_eq_true (by omega)
                have hb5 : decide (nl ≤ k) = true := decide_eq_true (by omega)
                have hb3 : ((y : Int) != (y : Int)) = false := by simp
                clear HF HT HR HMt HP HA1 HA2 HA3 HLl HLs
                go_wp2
                go_quiet (fail)
                go_wp2
                go_roundw
                case rel => exact ⟨k + 1, _, by omega, by go_num, rfl⟩
                case measure => simp [intOf]; omega
            · obtain rfl : k = nl + 150 := by omega
              have hkI : ¬ (((nl + 150 : Nat) : Int) < (nl : Int) + 150) := by omega
              clear HF HT HR HMt HP HA1 HA2 HA3 HLl HLs
              go_wp2
              go_roundw
              case rel => exact ⟨i + 1, q2, by omega, by go_num, rfl⟩
              case measure => simp [intOf]; omega
          · obtain rfl : i = 10 := by omega
            have hiI : ¬ (((10 : Nat) : Int) < 10) := by omega
            clear hi hlt HF HT HMt HP
            have HR7 : Hid (Rms w B gx gy gz la lb lm (wS.drewN q)) := HR.out.below (below_drewN (Below.refl _ _) q) (Nat.le_refl _)
            clear HR
            have Cc := spared_v gx na ca pa la (wS.drewN q) HR7.out.x (Ha.out.2.2.1.below HR7.out.bel (Nat.le_refl _)) Hna.out.symm hla
            go_wp2_with fail
            refine Cc.mono ?_
            clear Cc
            rintro e w20 ⟨rfl, hbel⟩
            have HR8 : Hid (Rms w B gx gy gz la lb lm w20) := HR7.out.below hbel (Nat.le_refl _)
            clear hbel HR7
            have Cc := spared_v gy nb cb pb lb w20 HR8.out.y (Hb.out.2.2.1.below HR8.out.bel (Nat.le_refl _)) Hnb.out.symm hlb
            go_wp2_with fail
            refine Cc.mono ?_
            clear Cc
            rintro e w21 ⟨rfl, hbel⟩
            have HR9 : Hid (Rms w B gx gy gz la lb lm w21) := HR8.out.below hbel (Nat.le_refl _)
            clear hbel HR8
            have Cc := spared_v gz nm cm pm lm w21 HR9.out.z (Hm.out.2.2.1.below HR9.out.bel (Nat.le_refl _)) Hnm.out.symm hlm
            go_wp2_with fail
            refine Cc.mono ?_
            clear Cc
            rintro e w22 ⟨rfl, hbel⟩
            have HR10 : Hid (Rms w B gx gy gz la lb lm w22) := HR9.out.below hbel (Nat.le_refl _)
            clear hbel HR9
            go_wp2
            go_ret
            exact ⟨rfl, HR10.out.bel⟩

end Go.Proofs.Ytecapoknnnoheaa
