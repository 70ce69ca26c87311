import Derived.Test.YtecapoknnnoheaaPwLaw
namespace Go.Proofs.Ytecapoknnnoheaa
open Go.RowKit

set_option maxRecDepth 100000 in
set_option maxHeartbeats 8000000 in
theorem reckons_core (a b m : Value) (la lb lm : List Nat) (w : World) (ha : Ag w a la) (hb : Ag w b lb) (hm : Ag w m lm) :
    Calls Try.prog 9 #[a, b, m] w fun e w' => e = .returned (.bool true) ∧ Below w.heap.size w w' := by
  obtain ⟨pa, ca, rfl, ha⟩ := ha
  have Ha : Hid (la.length ≤ ca ∧ ca ≤ 1048576 ∧ Rn w pa la ∧ Sm Bs la ∧ (pa = none → ca = 0)) := ha
  obtain ⟨na, Hna⟩ : ∃ n, Hid (la.length = n) := ⟨_, rfl⟩
  have hla : na ≤ 1048576 := by rw [← Hna.out]; have := Ha.out.1; have := Ha.out.2.1; omega
  have hlca : na ≤ ca := by rw [← Hna.out]; exact Ha.out.1
  rw [Hna.out]
  clear ha
  obtain ⟨pb, cb, rfl, hb⟩ := hb
  have Hb : Hid (lb.length ≤ cb ∧ cb ≤ 1048576 ∧ Rn w pb lb ∧ Sm Bs lb ∧ (pb = none → cb = 0)) := hb
  obtain ⟨nb, Hnb⟩ : ∃ n, Hid (lb.length = n) := ⟨_, rfl⟩
  have hlb : nb ≤ 1048576 := by rw [← Hnb.out]; have := Hb.out.1; have := Hb.out.2.1; omega
  have hlcb : nb ≤ cb := by rw [← Hnb.out]; exact Hb.out.1
  rw [Hnb.out]
  clear hb
  obtain ⟨pm, cm, rfl, hm⟩ := hm
  have Hm : Hid (lm.length ≤ cm ∧ cm ≤ 1048576 ∧ Rn w pm lm ∧ Sm Bs lm ∧ (pm = none → cm = 0)) := hm
  obtain ⟨nm, Hnm⟩ : ∃ n, Hid (lm.length = n) := ⟨_, rfl⟩
  have hlm : nm ≤ 1048576 := by rw [← Hnm.out]; have := Hm.out.1; have := Hm.out.2.1; omega
  have hlcm : nm ≤ cm := by rw [← Hnm.out]; exact Hm.out.1
  rw [Hnm.out]
  clear hm
  have HB : Hid (Below w.heap.size w w) := Below.refl _ _
  go_enter Try.func9, Try.ntmps9
  have Cc := roomy_v pa na ca la w (Ha.out.2.2.1.below HB.out (Nat.le_refl _)) Hna.out.symm hla
  go_wp2_with fail
  refine Cc.mono ?_
  clear Cc
  rintro e w1 ⟨rfl, hrm, hbel⟩
  have HGx : Hid (w.heap.size ≤ w.heap.size) := HB.out.size
  replace HB : Hid (Below w.heap.size w w1) := HB.out.trans (hbel.mono HB.out.size)
  have Rx : Hid (Rm w1 w.heap.size la) := hrm
  clear hrm hbel
  obtain ⟨gx, Hgx⟩ : ∃ g, Hid (w.heap.size = g) := ⟨_, rfl⟩
  rw [Hgx.out] at Rx ⊢
  replace HGx : Hid (w.heap.size ≤ gx) := Nat.le_of_eq Hgx.out
  have Lx : Hid (gx < w1.heap.size) := Bl.lt Rx.out
  have hDy : Hid (gx < w1.heap.size) := Lx.out
  have Cc := roomy_v pb nb cb lb w1 (Hb.out.2.2.1.below HB.out (Nat.le_refl _)) Hnb.out.symm hlb
  go_wp2_with fail
  refine Cc.mono ?_
  clear Cc
  rintro e w2 ⟨rfl, hrm, hbel⟩
  have HGy : Hid (w.heap.size ≤ w1.heap.size) := HB.out.size
  replace Rx : Hid (Rm w2 gx la) := Rx.out.below hbel (Nat.le_refl _)
  replace HB : Hid (Below w.heap.size w w2) := HB.out.trans (hbel.mono HB.out.size)
  have Ry : Hid (Rm w2 w1.heap.size lb) := hrm
  clear hrm hbel
  generalize hgy : w1.heap.size = gy at *
  have Ly : Hid (gy < w2.heap.size) := Bl.lt Ry.out
  have Dy : Hid (gx < gy) := hDy.out
  clear hDy
  have hDz : Hid (gx < w2.heap.size) := Bl.lt Rx.out
  have Cc := roomy_v pm nm cm lm w2 (Hm.out.2.2.1.below HB.out (Nat.le_refl _)) Hnm.out.symm hlm
  go_wp2_with fail
  refine Cc.mono ?_
  clear Cc
  rintro e w3 ⟨rfl, hrm, hbel⟩
  have HGz : Hid (w.heap.size ≤ w2.heap.size) := HB.out.size
  replace Rx : Hid (Rm w3 gx la) := Rx.out.below hbel (Nat.le_refl _)
  replace Ry : Hid (Rm w3 gy lb) := Ry.out.below hbel (Nat.le_refl _)
  replace HB : Hid (Below w.heap.size w w3) := HB.out.trans (hbel.mono HB.out.size)
  have Rz : Hid (Rm w3 w2.heap.size lm) := hrm
  clear hrm hbel
  generalize hgz : w2.heap.size = gz at *
  have Lz : Hid (gz < w3.heap.size) := Bl.lt Rz.out
  have Dz : Hid (gx < gz) := hDz.out
  clear hDz
  obtain ⟨c, Hc⟩ : ∃ c : Nat, Hid (rcode (nv Bs lm) (Lg (nv Bs la) || Lg (nv Bs lb)) = c) := ⟨_, rfl⟩
  obtain ⟨V1, HV1⟩ : ∃ V : Nat, Hid (((nv Bs la) + (nv Bs lb)) % (nv Bs lm) = V) := ⟨_, rfl⟩
  have Q1 : Nd w3 (.slice (some ⟨gx, 0, none⟩) na (na + 4)) (nv Bs la) 3000000 := by
    have h := Rx.out.nd Ha.out.2.2.2.1 (by rw [Hna.out]; exact hla)
    rw [Hna.out] at h
    exact h
  have Q2 : Nd w3 (.slice (some ⟨gy, 0, none⟩) nb (nb + 4)) (nv Bs lb) 3000000 := by
    have h := Ry.out.nd Hb.out.2.2.2.1 (by rw [Hnb.out]; exact hlb)
    rw [Hnb.out] at h
    exact h
  have Q3 : Nd w3 (.slice (some ⟨gz, 0, none⟩) nm (nm + 4)) (nv Bs lm) 3000000 := by
    have h := Rz.out.nd Hm.out.2.2.2.1 (by rw [Hnm.out]; exact hlm)
    rw [Hnm.out] at h
    exact h
  have Cc := madd_v _ _ _ (nv Bs la) (nv Bs lb) (nv Bs lm) w3 Q1.1 Q2.1 Q3.1
  rw [Hc.out, HV1.out] at Cc
  clear Q1 Q2 Q3
  go_wp2_with fail
  refine Cc.mono ?_
  clear Cc
  rintro e w4 hans
  obtain ⟨r1, rfl, hom, hbel⟩ := hans.om
  replace Rx : Hid (Rm w4 gx la) := Rx.out.below hbel (Nat.le_refl _)
  replace Ry : Hid (Rm w4 gy lb) := Ry.out.below hbel (Nat.le_refl _)
  replace Rz : Hid (Rm w4 gz lm) := Rz.out.below hbel (Nat.le_refl _)
  replace HB : Hid (Below w.heap.size w w4) := HB.out.trans (hbel.mono HB.out.size)
  have Or1 : Hid (Om w4 r1 (if c = 0 then V1 else 0)) := hom
  clear hans hom hbel
  have Q4 : Nd w4 (.slice pa na ca) (nv Bs la) 3000000 := by
    have h := ag_nd Ha.out HB.out
    rw [Hna.out] at h
    exact h
  have Q5 : Nd w4 (.slice pb nb cb) (nv Bs lb) 3000000 := by
    have h := ag_nd Hb.out HB.out
    rw [Hnb.out] at h
    exact h
  have Q6 : Nd w4 (.slice pm nm cm) (nv Bs lm) 3000000 := by
    have h := ag_nd Hm.out HB.out
    rw [Hnm.out] at h
    exact h
  have Cc := dadd _ _ _ (nv Bs la) (nv Bs lb) (nv Bs lm) w4 Q4 Q5 Q6
  rw [Hc.out, HV1.out] at Cc
  clear Q4 Q5 Q6
  go_wp2_with fail
  refine Cc.mono ?_
  clear Cc
  rintro e w5 hans
  obtain ⟨s1, rfl, hom, hbel⟩ := hans.om
  replace Rx : Hid (Rm w5 gx la) := Rx.out.below hbel (Nat.le_refl _)
  replace Ry : Hid (Rm w5 gy lb) := Ry.out.below hbel (Nat.le_refl _)
  replace Rz : Hid (Rm w5 gz lm) := Rz.out.below hbel (Nat.le_refl _)
  replace Or1 : Hid (Om w5 r1 (if c = 0 then V1 else 0)) := Or1.out.below hbel (Nat.le_refl _)
  replace HB : Hid (Below w.heap.size w w5) := HB.out.trans (hbel.mono HB.out.size)
  have Os1 : Hid (Om w5 s1 (if c = 0 then V1 else 0)) := hom
  clear hans hom hbel
  have Cc := lsame_eq r1 s1 (if c = 0 then V1 else 0) w5 Or1.out.nm Os1.out.nm (Nat.le_trans Or1.out.2 (by decide))
  go_wp2_with fail
  refine Cc.mono ?_
  clear Cc
  rintro e w6 ⟨rfl, qq, hq⟩
  have hbel : Below w5.heap.size w5 w6 := by rw [hq]; exact below_drewN (Below.refl _ _) qq
  replace Rx : Hid (Rm w6 gx la) := Rx.out.below hbel (Nat.le_refl _)
  replace Ry : Hid (Rm w6 gy lb) := Ry.out.below hbel (Nat.le_refl _)
  replace Rz : Hid (Rm w6 gz lm) := Rz.out.below hbel (Nat.le_refl _)
  replace Or1 : Hid (Om w6 r1 (if c = 0 then V1 else 0)) := Or1.out.below hbel (Nat.le_refl _)
  replace Os1 : Hid (Om w6 s1 (if c = 0 then V1 else 0)) := Os1.out.below hbel (Nat.le_refl _)
  replace HB : Hid (Below w.heap.size w w6) := HB.out.trans (hbel.mono HB.out.size)
  clear hq hbel
  clear Or1 Os1
  obtain ⟨V2, HV2⟩ : ∃ V : Nat, Hid (lessV (nv Bs lm) ((nv Bs la) % (nv Bs lm)) ((nv Bs lb) % (nv Bs lm)) = V) := ⟨_, rfl⟩
  have Q7 : Nd w6 (.slice (some ⟨gx, 0, none⟩) na (na + 4)) (nv Bs la) 3000000 := by
    have h := Rx.out.nd Ha.out.2.2.2.1 (by rw [Hna.out]; exact hla)
    rw [Hna.out] at h
    exact h
  have Q8 : Nd w6 (.slice (some ⟨gy, 0, none⟩) nb (nb + 4)) (nv Bs lb) 3000000 := by
    have h := Ry.out.nd Hb.out.2.2.2.1 (by rw [Hnb.out]; exact hlb)
    rw [Hnb.out] at h
    exact h
  have Q9 : Nd w6 (.slice (some ⟨gz, 0, none⟩) nm (nm + 4)) (nv Bs lm) 3000000 := by
    have h := Rz.out.nd Hm.out.2.2.2.1 (by rw [Hnm.out]; exact hlm)
    rw [Hnm.out] at h
    exact h
  have Cc := msub_v _ _ _ (nv Bs la) (nv Bs lb) (nv Bs lm) w6 Q7.1 Q8.1 Q9.1
  rw [Hc.out, HV2.out] at Cc
  clear Q7 Q8 Q9
  go_wp2_with fail
  refine Cc.mono ?_
  clear Cc
  rintro e w7 hans
  obtain ⟨r2, rfl, hom, hbel⟩ := hans.om
  replace Rx : Hid (Rm w7 gx la) := Rx.out.below hbel (Nat.le_refl _)
  replace Ry : Hid (Rm w7 gy lb) := Ry.out.below hbel (Nat.le_refl _)
  replace Rz : Hid (Rm w7 gz lm) := Rz.out.below hbel (Nat.le_refl _)
  replace HB : Hid (Below w.heap.size w w7) := HB.out.trans (hbel.mono HB.out.size)
  have Or2 : Hid (Om w7 r2 (if c = 0 then V2 else 0)) := hom
  clear hans hom hbel
  have Q10 : Nd w7 (.slice pa na ca) (nv Bs la) 3000000 := by
    have h := ag_nd Ha.out HB.out
    rw [Hna.out] at h
    exact h
  have Q11 : Nd w7 (.slice pb nb cb) (nv Bs lb) 3000000 := by
    have h := ag_nd Hb.out HB.out
    rw [Hnb.out] at h
    exact h
  have Q12 : Nd w7 (.slice pm nm cm) (nv Bs lm) 3000000 := by
    have h := ag_nd Hm.out HB.out
    rw [Hnm.out] at h
    exact h
  have Cc := dsub _ _ _ (nv Bs la) (nv Bs lb) (nv Bs lm) w7 Q10 Q11 Q12
  rw [Hc.out, HV2.out] at Cc
  clear Q10 Q11 Q12
  go_wp2_with fail
  refine Cc.mono ?_
  clear Cc
  rintro e w8 hans
  obtain ⟨s2, rfl, hom, hbel⟩ := hans.om
  replace Rx : Hid (Rm w8 gx la) := Rx.out.below hbel (Nat.le_refl _)
  replace Ry : Hid (Rm w8 gy lb) := Ry.out.below hbel (Nat.le_refl _)
  replace Rz : Hid (Rm w8 gz lm) := Rz.out.below hbel (Nat.le_refl _)
  replace Or2 : Hid (Om w8 r2 (if c = 0 then V2 else 0)) := Or2.out.below hbel (Nat.le_refl _)
  replace HB : Hid (Below w.heap.size w w8) := HB.out.trans (hbel.mono HB.out.size)
  have Os2 : Hid (Om w8 s2 (if c = 0 then V2 else 0)) := hom
  clear hans hom hbel
  have Cc := lsame_eq r2 s2 (if c = 0 then V2 else 0) w8 Or2.out.nm Os2.out.nm (Nat.le_trans Or2.out.2 (by decide))
  go_wp2_with fail
  refine Cc.mono ?_
  clear Cc
  rintro e w9 ⟨rfl, qq, hq⟩
  have hbel : Below w8.heap.size w8 w9 := by rw [hq]; exact below_drewN (Below.refl _ _) qq
  replace Rx : Hid (Rm w9 gx la) := Rx.out.below hbel (Nat.le_refl _)
  replace Ry : Hid (Rm w9 gy lb) := Ry.out.below hbel (Nat.le_refl _)
  replace Rz : Hid (Rm w9 gz lm) := Rz.out.below hbel (Nat.le_refl _)
  replace Or2 : Hid (Om w9 r2 (if c = 0 then V2 else 0)) := Or2.out.below hbel (Nat.le_refl _)
  replace Os2 : Hid (Om w9 s2 (if c = 0 then V2 else 0)) := Os2.out.below hbel (Nat.le_refl _)
  replace HB : Hid (Below w.heap.size w w9) := HB.out.trans (hbel.mono HB.out.size)
  clear hq hbel
  clear Or2 Os2
  obtain ⟨V3, HV3⟩ : ∃ V : Nat, Hid ((nv Bs la) * (nv Bs lb) % (nv Bs lm) = V) := ⟨_, rfl⟩
  have Q13 : Nd w9 (.slice (some ⟨gx, 0, none⟩) na (na + 4)) (nv Bs la) 3000000 := by
    have h := Rx.out.nd Ha.out.2.2.2.1 (by rw [Hna.out]; exact hla)
    rw [Hna.out] at h
    exact h
  have Q14 : Nd w9 (.slice (some ⟨gy, 0, none⟩) nb (nb + 4)) (nv Bs lb) 3000000 := by
    have h := Ry.out.nd Hb.out.2.2.2.1 (by rw [Hnb.out]; exact hlb)
    rw [Hnb.out] at h
    exact h
  have Q15 : Nd w9 (.slice (some ⟨gz, 0, none⟩) nm (nm + 4)) (nv Bs lm) 3000000 := by
    have h := Rz.out.nd Hm.out.2.2.2.1 (by rw [Hnm.out]; exact hlm)
    rw [Hnm.out] at h
    exact h
  have Cc := mmul_v _ _ _ (nv Bs la) (nv Bs lb) (nv Bs lm) w9 Q13.1 Q14.1 Q15.1
  rw [Hc.out, HV3.out] at Cc
  clear Q13 Q14 Q15
  go_wp2_with fail
  refine Cc.mono ?_
  clear Cc
  rintro e w10 hans
  obtain ⟨r3, rfl, hom, hbel⟩ := hans.om
  replace Rx : Hid (Rm w10 gx la) := Rx.out.below hbel (Nat.le_refl _)
  replace Ry : Hid (Rm w10 gy lb) := Ry.out.below hbel (Nat.le_refl _)
  replace Rz : Hid (Rm w10 gz lm) := Rz.out.below hbel (Nat.le_refl _)
  replace HB : Hid (Below w.heap.size w w10) := HB.out.trans (hbel.mono HB.out.size)
  have Or3 : Hid (Om w10 r3 (if c = 0 then V3 else 0)) := hom
  clear hans hom hbel
  have Q16 : Nd w10 (.slice pa na ca) (nv Bs la) 3000000 := by
    have h := ag_nd Ha.out HB.out
    rw [Hna.out] at h
    exact h
  have Q17 : Nd w10 (.slice pb nb cb) (nv Bs lb) 3000000 := by
    have h := ag_nd Hb.out HB.out
    rw [Hnb.out] at h
    exact h
  have Q18 : Nd w10 (.slice pm nm cm) (nv Bs lm) 3000000 := by
    have h := ag_nd Hm.out HB.out
    rw [Hnm.out] at h
    exact h
  have Cc := dmul _ _ _ (nv Bs la) (nv Bs lb) (nv Bs lm) w10 Q16 Q17 Q18
  rw [Hc.out, HV3.out] at Cc
  clear Q16 Q17 Q18
  go_wp2_with fail
  refine Cc.mono ?_
  clear Cc
  rintro e w11 hans
  obtain ⟨s3, rfl, hom, hbel⟩ := hans.om
  replace Rx : Hid (Rm w11 gx la) := Rx.out.below hbel (Nat.le_refl _)
  replace Ry : Hid (Rm w11 gy lb) := Ry.out.below hbel (Nat.le_refl _)
  replace Rz : Hid (Rm w11 gz lm) := Rz.out.below hbel (Nat.le_refl _)
  replace Or3 : Hid (Om w11 r3 (if c = 0 then V3 else 0)) := Or3.out.below hbel (Nat.le_refl _)
  replace HB : Hid (Below w.heap.size w w11) := HB.out.trans (hbel.mono HB.out.size)
  have Os3 : Hid (Om w11 s3 (if c = 0 then V3 else 0)) := hom
  clear hans hom hbel
  have Cc := lsame_eq r3 s3 (if c = 0 then V3 else 0) w11 Or3.out.nm Os3.out.nm (Nat.le_trans Or3.out.2 (by decide))
  go_wp2_with fail
  refine Cc.mono ?_
  clear Cc
  rintro e w12 ⟨rfl, qq, hq⟩
  have hbel : Below w11.heap.size w11 w12 := by rw [hq]; exact below_drewN (Below.refl _ _) qq
  replace Rx : Hid (Rm w12 gx la) := Rx.out.below hbel (Nat.le_refl _)
  replace Ry : Hid (Rm w12 gy lb) := Ry.out.below hbel (Nat.le_refl _)
  replace Rz : Hid (Rm w12 gz lm) := Rz.out.below hbel (Nat.le_refl _)
  replace Or3 : Hid (Om w12 r3 (if c = 0 then V3 else 0)) := Or3.out.below hbel (Nat.le_refl _)
  replace Os3 : Hid (Om w12 s3 (if c = 0 then V3 else 0)) := Os3.out.below hbel (Nat.le_refl _)
  replace HB : Hid (Below w.heap.size w w12) := HB.out.trans (hbel.mono HB.out.size)
  clear hq hbel
  clear Or3 Os3
  obtain ⟨ci4, Vi4, HF4⟩ : ∃ c V : Nat, Hid (∀ (w w' : World) (e : Ending), AnsI w w' e (nv Bs la) (nv Bs lm) → ∃ r, e = .returned (.tuple #[r, .int .i64 (c : Int)]) ∧ Om w' r V ∧ Below w.heap.size w w') := inv_out (nv Bs la) (nv Bs lm)
  have Q19 : Nd w12 (.slice (some ⟨gx, 0, none⟩) na (na + 4)) (nv Bs la) 3000000 := by
    have h := Rx.out.nd Ha.out.2.2.2.1 (by rw [Hna.out]; exact hla)
    rw [Hna.out] at h
    exact h
  have Q20 : Nd w12 (.slice (some ⟨gz, 0, none⟩) nm (nm + 4)) (nv Bs lm) 3000000 := by
    have h := Rz.out.nd Hm.out.2.2.2.1 (by rw [Hnm.out]; exact hlm)
    rw [Hnm.out] at h
    exact h
  have Cc := minv_v _ _ (nv Bs la) (nv Bs lm) w12 Q19.1 Q20.1
  clear Q19 Q20
  go_wp2_with fail
  refine Cc.mono ?_
  clear Cc
  rintro e w13 hans
  obtain ⟨r4, rfl, hom, hbel⟩ := HF4.out _ _ _ hans
  replace Rx : Hid (Rm w13 gx la) := Rx.out.below hbel (Nat.le_refl _)
  replace Ry : Hid (Rm w13 gy lb) := Ry.out.below hbel (Nat.le_refl _)
  replace Rz : Hid (Rm w13 gz lm) := Rz.out.below hbel (Nat.le_refl _)
  replace HB : Hid (Below w.heap.size w w13) := HB.out.trans (hbel.mono HB.out.size)
  have Or4 : Hid (Om w13 r4 Vi4) := hom
  clear hans hom hbel
  have Q21 : Nd w13 (.slice pa na ca) (nv Bs la) 3000000 := by
    have h := ag_nd Ha.out HB.out
    rw [Hna.out] at h
    exact h
  have Q22 : Nd w13 (.slice pm nm cm) (nv Bs lm) 3000000 := by
    have h := ag_nd Hm.out HB.out
    rw [Hnm.out] at h
    exact h
  have Cc := dinv _ _ (nv Bs la) (nv Bs lm) w13 Q21 Q22
  clear Q21 Q22
  go_wp2_with fail
  refine Cc.mono ?_
  clear Cc
  rintro e w14 hans
  obtain ⟨s4, rfl, hom, hbel⟩ := HF4.out _ _ _ hans
  replace Rx : Hid (Rm w14 gx la) := Rx.out.below hbel (Nat.le_refl _)
  replace Ry : Hid (Rm w14 gy lb) := Ry.out.below hbel (Nat.le_refl _)
  replace Rz : Hid (Rm w14 gz lm) := Rz.out.below hbel (Nat.le_refl _)
  replace Or4 : Hid (Om w14 r4 (Vi4)) := Or4.out.below hbel (Nat.le_refl _)
  replace HB : Hid (Below w.heap.size w w14) := HB.out.trans (hbel.mono HB.out.size)
  have Os4 : Hid (Om w14 s4 Vi4) := hom
  clear hans hom hbel
  have Cc := lsame_eq r4 s4 (Vi4) w14 Or4.out.nm Os4.out.nm (Nat.le_trans Or4.out.2 (by decide))
  go_wp2_with fail
  refine Cc.mono ?_
  clear Cc
  rintro e w15 ⟨rfl, qq, hq⟩
  have hbel : Below w14.heap.size w14 w15 := by rw [hq]; exact below_drewN (Below.refl _ _) qq
  replace Rx : Hid (Rm w15 gx la) := Rx.out.below hbel (Nat.le_refl _)
  replace Ry : Hid (Rm w15 gy lb) := Ry.out.below hbel (Nat.le_refl _)
  replace Rz : Hid (Rm w15 gz lm) := Rz.out.below hbel (Nat.le_refl _)
  replace Or4 : Hid (Om w15 r4 (Vi4)) := Or4.out.below hbel (Nat.le_refl _)
  replace Os4 : Hid (Om w15 s4 (Vi4)) := Os4.out.below hbel (Nat.le_refl _)
  replace HB : Hid (Below w.heap.size w w15) := HB.out.trans (hbel.mono HB.out.size)
  clear hq hbel
  clear Or4 Os4
  have Cc := spared_v gx na ca pa la w15 Rx.out (Ha.out.2.2.1.below HB.out (Nat.le_refl _)) Hna.out.symm hla
  go_wp2_with fail
  refine Cc.mono ?_
  clear Cc
  rintro e w16 ⟨rfl, hbel⟩
  replace Rx : Hid (Rm w16 gx la) := Rx.out.below hbel (Nat.le_refl _)
  replace Ry : Hid (Rm w16 gy lb) := Ry.out.below hbel (Nat.le_refl _)
  replace Rz : Hid (Rm w16 gz lm) := Rz.out.below hbel (Nat.le_refl _)
  replace HB : Hid (Below w.heap.size w w16) := HB.out.trans (hbel.mono HB.out.size)
  clear hbel
  have Cc := spared_v gy nb cb pb lb w16 Ry.out (Hb.out.2.2.1.below HB.out (Nat.le_refl _)) Hnb.out.symm hlb
  go_wp2_with fail
  refine Cc.mono ?_
  clear Cc
  rintro e w17 ⟨rfl, hbel⟩
  replace Rx : Hid (Rm w17 gx la) := Rx.out.below hbel (Nat.le_refl _)
  replace Ry : Hid (Rm w17 gy lb) := Ry.out.below hbel (Nat.le_refl _)
  replace Rz : Hid (Rm w17 gz lm) := Rz.out.below hbel (Nat.le_refl _)
  replace HB : Hid (Below w.heap.size w w17) := HB.out.trans (hbel.mono HB.out.size)
  clear hbel
  have Cc := spared_v gz nm cm pm lm w17 Rz.out (Hm.out.2.2.1.below HB.out (Nat.le_refl _)) Hnm.out.symm hlm
  go_wp2_with fail
  refine Cc.mono ?_
  clear Cc
  rintro e w18 ⟨rfl, hbel⟩
  replace Rx : Hid (Rm w18 gx la) := Rx.out.below hbel (Nat.le_refl _)
  replace Ry : Hid (Rm w18 gy lb) := Ry.out.below hbel (Nat.le_refl _)
  replace Rz : Hid (Rm w18 gz lm) := Rz.out.below hbel (Nat.le_refl _)
  replace HB : Hid (Below w.heap.size w w18) := HB.out.trans (hbel.mono HB.out.size)
  clear hbel
  have HI0 : Hid (Bl 29 w18 gx (((xl la).take 0 ++ la.drop 0 ++ List.replicate 4 2779096485).map U)) := Rx.out
  go_wp2
  go_loopw [14] (fun s wr => ∃ k : Nat, k ≤ na ∧ s = .int .i64 (k : Int) ∧ Hid (Bl 29 wr gx (((xl la).take k ++ la.drop k ++ List.replicate 4 2779096485).map U)) ∧ Hid (But w18 wr gx)) (fun s _ => na - (intOf s).toNat)
  case atStart => exact ⟨0, Nat.zero_le _, rfl, HI0, But.refl _ _⟩
  case round =>
    clear HI0
    obtain ⟨k, hk, rfl, HI, HU⟩ := hrel
    by_cases hlt : k < na
    · have hlI : (k : Int) < (na : Int) := by omega
      have hkl : k < la.length := by rw [Hna.out]; exact hlt
      obtain ⟨x, Hx⟩ : ∃ x, Hid (la.getD k 0 = x) := ⟨_, rfl⟩
      have hx : x < 4294967296 := by rw [← Hx.out, ← Bs_eq]; exact Ha.out.2.2.2.1.getD Bs_pos k
      have gc := HI.out.limb k x (by simp [xl_len]; omega) (by rw [xl_get la k hkl]; exact Hx.out)
      have gf := HI.out.frozen k
      have hxo := u32_xor_nat x 5 hx (by decide)
      rw [show ((5 : Nat) : Int) = 5 from rfl] at hxo
      obtain ⟨xv, Hxv⟩ : ∃ xv, Hid (x ^^^ 5 = xv) := ⟨_, rfl⟩
      rw [Hxv.out] at hxo
      have hxv : xv < 4294967296 := by rw [← Hxv.out]; exact xor5_lt hx
      have HS : Hid (((xl la).take k ++ la.drop k ++ List.replicate 4 2779096485).set k xv = (xl la).take (k + 1) ++ la.drop (k + 1) ++ List.replicate 4 2779096485) := by rw [← Hxv.out, ← Hx.out]; exact xl_set la k hkl _
      clear hkl
      go_wp2
      go_roundw
      case rel =>
        refine ⟨k + 1, by omega, by go_num, ?_, HU.out.set _ _⟩
        have h := HI.out.setU k xv
        rw [HS.out] at h
        exact h
      case measure => simp [intOf]; omega
    · obtain rfl : k = na := by omega
      have hlI : ¬ ((k : Int) < (k : Int)) := by omega
      have RX : Hid (Rm wr gx (xl la)) := by
        have h := HI.out
        rw [List.take_of_length_le (by rw [xl_len, Hna.out]; exact Nat.le_refl _), List.drop_of_length_le (by rw [Hna.out]; exact Nat.le_refl _), List.append_nil] at h
        exact h
      replace Ry : Hid (Rm wr gy lb) := Ry.out.but HU.out (by have := Dy.out; omega)
      replace Rz : Hid (Rm wr gz lm) := Rz.out.but HU.out (by have := Dz.out; omega)
      replace HB : Hid (Below w.heap.size w wr) := HB.out.trans (HU.out.below HB.out.size HGx.out)
      clear HI HU Rx
      have Rx : Hid (Rm wr gx (xl la)) := RX.out
      clear RX
      obtain ⟨c2, Hc2⟩ : ∃ c : Nat, Hid (rcode (nv Bs lm) (Lg (nv Bs (xl la)) || Lg (nv Bs lb)) = c) := ⟨_, rfl⟩
      obtain ⟨V5, HV5⟩ : ∃ V : Nat, Hid ((nv Bs (xl la)) * (nv Bs lb) % (nv Bs lm) = V) := ⟨_, rfl⟩
      have Q23 : Nd wr (.slice (some ⟨gx, 0, none⟩) k (k + 4)) (nv Bs (xl la)) 3000000 := by
        have h := Rx.out.nd (xl_sm Ha.out.2.2.2.1) (by rw [xl_len, Hna.out]; exact hla)
        rw [xl_len, Hna.out] at h
        exact h
      have Q24 : Nd wr (.slice pb nb cb) (nv Bs lb) 3000000 := by
        have h := ag_nd Hb.out HB.out
        rw [Hnb.out] at h
        exact h
      have Q25 : Nd wr (.slice pm nm cm) (nv Bs lm) 3000000 := by
        have h := ag_nd Hm.out HB.out
        rw [Hnm.out] at h
        exact h
      have Cc := dmul _ _ _ (nv Bs (xl la)) (nv Bs lb) (nv Bs lm) wr Q23 Q24 Q25
      rw [Hc2.out, HV5.out] at Cc
      clear Q23 Q24 Q25
      go_wp2_with fail
      refine Cc.mono ?_
      clear Cc
      rintro e w19 hans
      obtain ⟨s5, rfl, hom, hbel⟩ := hans.om
      replace Rx : Hid (Rm w19 gx (xl la)) := Rx.out.below hbel (Nat.le_refl _)
      replace Ry : Hid (Rm w19 gy lb) := Ry.out.below hbel (Nat.le_refl _)
      replace Rz : Hid (Rm w19 gz lm) := Rz.out.below hbel (Nat.le_refl _)
      replace HB : Hid (Below w.heap.size w w19) := HB.out.trans (hbel.mono HB.out.size)
      have Os5 : Hid (Om w19 s5 (if c2 = 0 then V5 else 0)) := hom
      clear hans hom hbel
      have Q26 : Nd w19 (.slice (some ⟨gx, 0, none⟩) k (k + 4)) (nv Bs (xl la)) 3000000 := by
        have h := Rx.out.nd (xl_sm Ha.out.2.2.2.1) (by rw [xl_len, Hna.out]; exact hla)
        rw [xl_len, Hna.out] at h
        exact h
      have Q27 : Nd w19 (.slice (some ⟨gy, 0, none⟩) nb (nb + 4)) (nv Bs lb) 3000000 := by
        have h := Ry.out.nd Hb.out.2.2.2.1 (by rw [Hnb.out]; exact hlb)
        rw [Hnb.out] at h
        exact h
      have Q28 : Nd w19 (.slice (some ⟨gz, 0, none⟩) nm (nm + 4)) (nv Bs lm) 3000000 := by
        have h := Rz.out.nd Hm.out.2.2.2.1 (by rw [Hnm.out]; exact hlm)
        rw [Hnm.out] at h
        exact h
      have Cc := mmul_v _ _ _ (nv Bs (xl la)) (nv Bs lb) (nv Bs lm) w19 Q26.1 Q27.1 Q28.1
      rw [Hc2.out, HV5.out] at Cc
      clear Q26 Q27 Q28
      go_wp2_with fail
      refine Cc.mono ?_
      clear Cc
      rintro e w20 hans
      obtain ⟨r5, rfl, hom, hbel⟩ := hans.om
      replace Rx : Hid (Rm w20 gx (xl la)) := Rx.out.below hbel (Nat.le_refl _)
      replace Ry : Hid (Rm w20 gy lb) := Ry.out.below hbel (Nat.le_refl _)
      replace Rz : Hid (Rm w20 gz lm) := Rz.out.below hbel (Nat.le_refl _)
      replace Os5 : Hid (Om w20 s5 (if c2 = 0 then V5 else 0)) := Os5.out.below hbel (Nat.le_refl _)
      replace HB : Hid (Below w.heap.size w w20) := HB.out.trans (hbel.mono HB.out.size)
      have Or5 : Hid (Om w20 r5 (if c2 = 0 then V5 else 0)) := hom
      clear hans hom hbel
      have Cc := lsame_eq r5 s5 (if c2 = 0 then V5 else 0) w20 Or5.out.nm Os5.out.nm (Nat.le_trans Or5.out.2 (by decide))
      go_wp2_with fail
      refine Cc.mono ?_
      clear Cc
      rintro e w21 ⟨rfl, qq, hq⟩
      have hbel : Below w20.heap.size w20 w21 := by rw [hq]; exact below_drewN (Below.refl _ _) qq
      replace Rx : Hid (Rm w21 gx (xl la)) := Rx.out.below hbel (Nat.le_refl _)
      replace Ry : Hid (Rm w21 gy lb) := Ry.out.below hbel (Nat.le_refl _)
      replace Rz : Hid (Rm w21 gz lm) := Rz.out.below hbel (Nat.le_refl _)
      replace Os5 : Hid (Om w21 s5 (if c2 = 0 then V5 else 0)) := Os5.out.below hbel (Nat.le_refl _)
      replace Or5 : Hid (Om w21 r5 (if c2 = 0 then V5 else 0)) := Or5.out.below hbel (Nat.le_refl _)
      replace HB : Hid (Below w.heap.size w w21) := HB.out.trans (hbel.mono HB.out.size)
      clear hq hbel
      clear Os5 Or5
      obtain ⟨V6, HV6⟩ : ∃ V : Nat, Hid (((nv Bs (xl la)) + (nv Bs lb)) % (nv Bs lm) = V) := ⟨_, rfl⟩
      have Q29 : Nd w21 (.slice (some ⟨gx, 0, none⟩) k (k + 4)) (nv Bs (xl la)) 3000000 := by
        have h := Rx.out.nd (xl_sm Ha.out.2.2.2.1) (by rw [xl_len, Hna.out]; exact hla)
        rw [xl_len, Hna.out] at h
        exact h
      have Q30 : Nd w21 (.slice pb nb cb) (nv Bs lb) 3000000 := by
        have h := ag_nd Hb.out HB.out
        rw [Hnb.out] at h
        exact h
      have Q31 : Nd w21 (.slice pm nm cm) (nv Bs lm) 3000000 := by
        have h := ag_nd Hm.out HB.out
        rw [Hnm.out] at h
        exact h
      have Cc := dadd _ _ _ (nv Bs (xl la)) (nv Bs lb) (nv Bs lm) w21 Q29 Q30 Q31
      rw [Hc2.out, HV6.out] at Cc
      clear Q29 Q30 Q31
      go_wp2_with fail
      refine Cc.mono ?_
      clear Cc
      rintro e w22 hans
      obtain ⟨s6, rfl, hom, hbel⟩ := hans.om
      replace Rx : Hid (Rm w22 gx (xl la)) := Rx.out.below hbel (Nat.le_refl _)
      replace Ry : Hid (Rm w22 gy lb) := Ry.out.below hbel (Nat.le_refl _)
      replace Rz : Hid (Rm w22 gz lm) := Rz.out.below hbel (Nat.le_refl _)
      replace HB : Hid (Below w.heap.size w w22) := HB.out.trans (hbel.mono HB.out.size)
      have Os6 : Hid (Om w22 s6 (if c2 = 0 then V6 else 0)) := hom
      clear hans hom hbel
      have Q32 : Nd w22 (.slice (some ⟨gx, 0, none⟩) k (k + 4)) (nv Bs (xl la)) 3000000 := by
        have h := Rx.out.nd (xl_sm Ha.out.2.2.2.1) (by rw [xl_len, Hna.out]; exact hla)
        rw [xl_len, Hna.out] at h
        exact h
      have Q33 : Nd w22 (.slice (some ⟨gy, 0, none⟩) nb (nb + 4)) (nv Bs lb) 3000000 := by
        have h := Ry.out.nd Hb.out.2.2.2.1 (by rw [Hnb.out]; exact hlb)
        rw [Hnb.out] at h
        exact h
      have Q34 : Nd w22 (.slice (some ⟨gz, 0, none⟩) nm (nm + 4)) (nv Bs lm) 3000000 := by
        have h := Rz.out.nd Hm.out.2.2.2.1 (by rw [Hnm.out]; exact hlm)
        rw [Hnm.out] at h
        exact h
      have Cc := madd_v _ _ _ (nv Bs (xl la)) (nv Bs lb) (nv Bs lm) w22 Q32.1 Q33.1 Q34.1
      rw [Hc2.out, HV6.out] at Cc
      clear Q32 Q33 Q34
      go_wp2_with fail
      refine Cc.mono ?_
      clear Cc
      rintro e w23 hans
      obtain ⟨r6, rfl, hom, hbel⟩ := hans.om
      replace Rx : Hid (Rm w23 gx (xl la)) := Rx.out.below hbel (Nat.le_refl _)
      replace Ry : Hid (Rm w23 gy lb) := Ry.out.below hbel (Nat.le_refl _)
      replace Rz : Hid (Rm w23 gz lm) := Rz.out.below hbel (Nat.le_refl _)
      replace Os6 : Hid (Om w23 s6 (if c2 = 0 then V6 else 0)) := Os6.out.below hbel (Nat.le_refl _)
      replace HB : Hid (Below w.heap.size w w23) := HB.out.trans (hbel.mono HB.out.size)
      have Or6 : Hid (Om w23 r6 (if c2 = 0 then V6 else 0)) := hom
      clear hans hom hbel
      have Cc := lsame_eq r6 s6 (if c2 = 0 then V6 else 0) w23 Or6.out.nm Os6.out.nm (Nat.le_trans Or6.out.2 (by decide))
      go_wp2_with fail
      refine Cc.mono ?_
      clear Cc
      rintro e w24 ⟨rfl, qq, hq⟩
      have hbel : Below w23.heap.size w23 w24 := by rw [hq]; exact below_drewN (Below.refl _ _) qq
      replace Rx : Hid (Rm w24 gx (xl la)) := Rx.out.below hbel (Nat.le_refl _)
      replace Ry : Hid (Rm w24 gy lb) := Ry.out.below hbel (Nat.le_refl _)
      replace Rz : Hid (Rm w24 gz lm) := Rz.out.below hbel (Nat.le_refl _)
      replace Os6 : Hid (Om w24 s6 (if c2 = 0 then V6 else 0)) := Os6.out.below hbel (Nat.le_refl _)
      replace Or6 : Hid (Om w24 r6 (if c2 = 0 then V6 else 0)) := Or6.out.below hbel (Nat.le_refl _)
      replace HB : Hid (Below w.heap.size w w24) := HB.out.trans (hbel.mono HB.out.size)
      clear hq hbel
      clear Os6 Or6
      obtain ⟨V7, HV7⟩ : ∃ V : Nat, Hid (lessV (nv Bs lm) ((nv Bs (xl la)) % (nv Bs lm)) ((nv Bs lb) % (nv Bs lm)) = V) := ⟨_, rfl⟩
      have Q35 : Nd w24 (.slice (some ⟨gx, 0, none⟩) k (k + 4)) (nv Bs (xl la)) 3000000 := by
        have h := Rx.out.nd (xl_sm Ha.out.2.2.2.1) (by rw [xl_len, Hna.out]; exact hla)
        rw [xl_len, Hna.out] at h
        exact h
      have Q36 : Nd w24 (.slice pb nb cb) (nv Bs lb) 3000000 := by
        have h := ag_nd Hb.out HB.out
        rw [Hnb.out] at h
        exact h
      have Q37 : Nd w24 (.slice pm nm cm) (nv Bs lm) 3000000 := by
        have h := ag_nd Hm.out HB.out
        rw [Hnm.out] at h
        exact h
      have Cc := dsub _ _ _ (nv Bs (xl la)) (nv Bs lb) (nv Bs lm) w24 Q35 Q36 Q37
      rw [Hc2.out, HV7.out] at Cc
      clear Q35 Q36 Q37
      go_wp2_with fail
      refine Cc.mono ?_
      clear Cc
      rintro e w25 hans
      obtain ⟨s7, rfl, hom, hbel⟩ := hans.om
      replace Rx : Hid (Rm w25 gx (xl la)) := Rx.out.below hbel (Nat.le_refl _)
      replace Ry : Hid (Rm w25 gy lb) := Ry.out.below hbel (Nat.le_refl _)
      replace Rz : Hid (Rm w25 gz lm) := Rz.out.below hbel (Nat.le_refl _)
      replace HB : Hid (Below w.heap.size w w25) := HB.out.trans (hbel.mono HB.out.size)
      have Os7 : Hid (Om w25 s7 (if c2 = 0 then V7 else 0)) := hom
      clear hans hom hbel
      have Q38 : Nd w25 (.slice (some ⟨gx, 0, none⟩) k (k + 4)) (nv Bs (xl la)) 3000000 := by
        have h := Rx.out.nd (xl_sm Ha.out.2.2.2.1) (by rw [xl_len, Hna.out]; exact hla)
        rw [xl_len, Hna.out] at h
        exact h
      have Q39 : Nd w25 (.slice (some ⟨gy, 0, none⟩) nb (nb + 4)) (nv Bs lb) 3000000 := by
        have h := Ry.out.nd Hb.out.2.2.2.1 (by rw [Hnb.out]; exact hlb)
        rw [Hnb.out] at h
        exact h
      have Q40 : Nd w25 (.slice (some ⟨gz, 0, none⟩) nm (nm + 4)) (nv Bs lm) 3000000 := by
        have h := Rz.out.nd Hm.out.2.2.2.1 (by rw [Hnm.out]; exact hlm)
        rw [Hnm.out] at h
        exact h
      have Cc := msub_v _ _ _ (nv Bs (xl la)) (nv Bs lb) (nv Bs lm) w25 Q38.1 Q39.1 Q40.1
      rw [Hc2.out, HV7.out] at Cc
      clear Q38 Q39 Q40
      go_wp2_with fail
      refine Cc.mono ?_
      clear Cc
      rintro e w26 hans
      obtain ⟨r7, rfl, hom, hbel⟩ := hans.om
      replace Rx : Hid (Rm w26 gx (xl la)) := Rx.out.below hbel (Nat.le_refl _)
      replace Ry : Hid (Rm w26 gy lb) := Ry.out.below hbel (Nat.le_refl _)
      replace Rz : Hid (Rm w26 gz lm) := Rz.out.below hbel (Nat.le_refl _)
      replace Os7 : Hid (Om w26 s7 (if c2 = 0 then V7 else 0)) := Os7.out.below hbel (Nat.le_refl _)
      replace HB : Hid (Below w.heap.size w w26) := HB.out.trans (hbel.mono HB.out.size)
      have Or7 : Hid (Om w26 r7 (if c2 = 0 then V7 else 0)) := hom
      clear hans hom hbel
      have Cc := lsame_eq r7 s7 (if c2 = 0 then V7 else 0) w26 Or7.out.nm Os7.out.nm (Nat.le_trans Or7.out.2 (by decide))
      go_wp2_with fail
      refine Cc.mono ?_
      clear Cc
      rintro e w27 ⟨rfl, qq, hq⟩
      have hbel : Below w26.heap.size w26 w27 := by rw [hq]; exact below_drewN (Below.refl _ _) qq
      replace Rx : Hid (Rm w27 gx (xl la)) := Rx.out.below hbel (Nat.le_refl _)
      replace Ry : Hid (Rm w27 gy lb) := Ry.out.below hbel (Nat.le_refl _)
      replace Rz : Hid (Rm w27 gz lm) := Rz.out.below hbel (Nat.le_refl _)
      replace Os7 : Hid (Om w27 s7 (if c2 = 0 then V7 else 0)) := Os7.out.below hbel (Nat.le_refl _)
      replace Or7 : Hid (Om w27 r7 (if c2 = 0 then V7 else 0)) := Or7.out.below hbel (Nat.le_refl _)
      replace HB : Hid (Below w.heap.size w w27) := HB.out.trans (hbel.mono HB.out.size)
      clear hq hbel
      clear Os7 Or7
      obtain ⟨ci8, Vi8, HF8⟩ : ∃ c V : Nat, Hid (∀ (w w' : World) (e : Ending), AnsI w w' e (nv Bs (xl la)) (nv Bs lm) → ∃ r, e = .returned (.tuple #[r, .int .i64 (c : Int)]) ∧ Om w' r V ∧ Below w.heap.size w w') := inv_out (nv Bs (xl la)) (nv Bs lm)
      have Q41 : Nd w27 (.slice (some ⟨gx, 0, none⟩) k (k + 4)) (nv Bs (xl la)) 3000000 := by
        have h := Rx.out.nd (xl_sm Ha.out.2.2.2.1) (by rw [xl_len, Hna.out]; exact hla)
        rw [xl_len, Hna.out] at h
        exact h
      have Q42 : Nd w27 (.slice pm nm cm) (nv Bs lm) 3000000 := by
        have h := ag_nd Hm.out HB.out
        rw [Hnm.out] at h
        exact h
      have Cc := dinv _ _ (nv Bs (xl la)) (nv Bs lm) w27 Q41 Q42
      clear Q41 Q42
      go_wp2_with fail
      refine Cc.mono ?_
      clear Cc
      rintro e w28 hans
      obtain ⟨s8, rfl, hom, hbel⟩ := HF8.out _ _ _ hans
      replace Rx : Hid (Rm w28 gx (xl la)) := Rx.out.below hbel (Nat.le_refl _)
      replace Ry : Hid (Rm w28 gy lb) := Ry.out.below hbel (Nat.le_refl _)
      replace Rz : Hid (Rm w28 gz lm) := Rz.out.below hbel (Nat.le_refl _)
      replace HB : Hid (Below w.heap.size w w28) := HB.out.trans (hbel.mono HB.out.size)
      have Os8 : Hid (Om w28 s8 Vi8) := hom
      clear hans hom hbel
      have Q43 : Nd w28 (.slice (some ⟨gx, 0, none⟩) k (k + 4)) (nv Bs (xl la)) 3000000 := by
        have h := Rx.out.nd (xl_sm Ha.out.2.2.2.1) (by rw [xl_len, Hna.out]; exact hla)
        rw [xl_len, Hna.out] at h
        exact h
      have Q44 : Nd w28 (.slice (some ⟨gz, 0, none⟩) nm (nm + 4)) (nv Bs lm) 3000000 := by
        have h := Rz.out.nd Hm.out.2.2.2.1 (by rw [Hnm.out]; exact hlm)
        rw [Hnm.out] at h
        exact h
      have Cc := minv_v _ _ (nv Bs (xl la)) (nv Bs lm) w28 Q43.1 Q44.1
      clear Q43 Q44
      go_wp2_with fail
      refine Cc.mono ?_
      clear Cc
      rintro e w29 hans
      obtain ⟨r8, rfl, hom, hbel⟩ := HF8.out _ _ _ hans
      replace Rx : Hid (Rm w29 gx (xl la)) := Rx.out.below hbel (Nat.le_refl _)
      replace Ry : Hid (Rm w29 gy lb) := Ry.out.below hbel (Nat.le_refl _)
      replace Rz : Hid (Rm w29 gz lm) := Rz.out.below hbel (Nat.le_refl _)
      replace Os8 : Hid (Om w29 s8 (Vi8)) := Os8.out.below hbel (Nat.le_refl _)
      replace HB : Hid (Below w.heap.size w w29) := HB.out.trans (hbel.mono HB.out.size)
      have Or8 : Hid (Om w29 r8 Vi8) := hom
      clear hans hom hbel
      have Cc := lsame_eq r8 s8 (Vi8) w29 Or8.out.nm Os8.out.nm (Nat.le_trans Or8.out.2 (by decide))
      go_wp2_with fail
      refine Cc.mono ?_
      clear Cc
      rintro e w30 ⟨rfl, qq, hq⟩
      have hbel : Below w29.heap.size w29 w30 := by rw [hq]; exact below_drewN (Below.refl _ _) qq
      replace Rx : Hid (Rm w30 gx (xl la)) := Rx.out.below hbel (Nat.le_refl _)
      replace Ry : Hid (Rm w30 gy lb) := Ry.out.below hbel (Nat.le_refl _)
      replace Rz : Hid (Rm w30 gz lm) := Rz.out.below hbel (Nat.le_refl _)
      replace Os8 : Hid (Om w30 s8 (Vi8)) := Os8.out.below hbel (Nat.le_refl _)
      replace Or8 : Hid (Om w30 r8 (Vi8)) := Or8.out.below hbel (Nat.le_refl _)
      replace HB : Hid (Below w.heap.size w w30) := HB.out.trans (hbel.mono HB.out.size)
      clear hq hbel
      clear Os8 Or8
      go_wp2
      go_ret
      exact ⟨rfl, HB.out⟩

end Go.Proofs.Ytecapoknnnoheaa
