import Derived.Test.YtecapoknnnoheaaRyz
namespace Go.Proofs.Ytecapoknnnoheaa
open Go.RowKit

/-- A number as it comes in. -/
def Ag (w : World) (v : Value) (xs : List Nat) : Prop := ∃ aa ca, v = .slice aa xs.length ca ∧ xs.length ≤ ca ∧ ca ≤ 1048576 ∧ Rn w aa xs ∧ Sm Bs xs ∧ (aa = none → ca = 0)
theorem ag_nd {w w' : World} {aa : Option Addr} {ca : Nat} {xs : List Nat} (h : xs.length ≤ ca ∧ ca ≤ 1048576 ∧ Rn w aa xs ∧ Sm Bs xs ∧ (aa = none → ca = 0)) (hb : Below w.heap.size w w') : Nd w' (.slice aa xs.length ca) (nv Bs xs) 3000000 :=
  ⟨⟨xs, ⟨_, _, rfl, h.1, h.2.2.1.below hb (Nat.le_refl _), h.2.2.2.1⟩, rfl, by omega⟩, fun _ _ _ e e2 => (by cases e; exact h.2.2.2.2 e2), fun _ _ _ e => (by cases e; omega)⟩
theorem Rm.but {w w' : World} {g b : Nat} {xs : List Nat} (h : Rm w g xs) (hb : But w w' b) (hne : g ≠ b) : Rm w' g xs := Bl.but h hb hne

set_option maxRecDepth 100000 in
set_option maxHeartbeats 8000000 in
theorem powers_core (a e m : Value) (la le lm : List Nat) (w : World) (ha : Ag w a la) (he : Ag w e le) (hm : Ag w m lm) :
    Calls Try.prog 3 #[a, e, m] w fun e w' => e = .returned (.bool true) ∧ Below w.heap.size w w' := by
  obtain ⟨pa, ca, rfl, ha⟩ := ha
  have Ha : Hid (la.length ≤ ca ∧ ca ≤ 1048576 ∧ Rn w pa la ∧ Sm Bs la ∧ (pa = none → ca = 0)) := ha
  obtain ⟨na, Hna⟩ : ∃ n, Hid (la.length = n) := ⟨_, rfl⟩
  have hla : na ≤ 1048576 := by rw [← Hna.out]; have := Ha.out.1; have := Ha.out.2.1; omega
  have hlca : na ≤ ca := by rw [← Hna.out]; exact Ha.out.1
  rw [Hna.out]
  clear ha
  obtain ⟨pe, ce, rfl, he⟩ := he
  have He : Hid (le.length ≤ ce ∧ ce ≤ 1048576 ∧ Rn w pe le ∧ Sm Bs le ∧ (pe = none → ce = 0)) := he
  obtain ⟨ne, Hne⟩ : ∃ n, Hid (le.length = n) := ⟨_, rfl⟩
  have hle : ne ≤ 1048576 := by rw [← Hne.out]; have := He.out.1; have := He.out.2.1; omega
  have hlce : ne ≤ ce := by rw [← Hne.out]; exact He.out.1
  rw [Hne.out]
  clear he
  obtain ⟨pm, cm, rfl, hm⟩ := hm
  have Hm : Hid (lm.length ≤ cm ∧ cm ≤ 1048576 ∧ Rn w pm lm ∧ Sm Bs lm ∧ (pm = none → cm = 0)) := hm
  obtain ⟨nm, Hnm⟩ : ∃ n, Hid (lm.length = n) := ⟨_, rfl⟩
  have hlm : nm ≤ 1048576 := by rw [← Hnm.out]; have := Hm.out.1; have := Hm.out.2.1; omega
  have hlcm : nm ≤ cm := by rw [← Hnm.out]; exact Hm.out.1
  rw [Hnm.out]
  clear hm
  have HB : Hid (Below w.heap.size w w) := Below.refl _ _
  go_enter Try.func3, Try.ntmps3
  have Cc := roomy_v pa na ca la w (Ha.out.2.2.1.below HB.out (Nat.le_refl _)) Hna.out.symm hla
  go_wp2_with fail
  refine Cc.mono ?_
  clear Cc
  rintro e w1 ⟨rfl, hrm, hbel⟩
  have HGx : Hid (w.heap.size ≤ w.heap.size) := HB.out.size
  replace HB : Hid (Below w.heap.size w w1) := HB.out.trans (hbel.mono HB.out.size)
  have Rx : Hid (Rm w1 w.heap.size la) := hrm
  clear hrm hbel
  obtain ⟨gx, Hgx⟩ : ∃ g, Hid (w.heap.size = g) := ⟨_, rfl⟩
  rw [Hgx.out] at Rx ⊢
  replace HGx : Hid (w.heap.size ≤ gx) := Nat.le_of_eq Hgx.out
  have Lx : Hid (gx < w1.heap.size) := Bl.lt Rx.out
  have hDy : Hid (gx < w1.heap.size) := Lx.out
  have Cc := roomy_v pe ne ce le w1 (He.out.2.2.1.below HB.out (Nat.le_refl _)) Hne.out.symm hle
  go_wp2_with fail
  refine Cc.mono ?_
  clear Cc
  rintro e w2 ⟨rfl, hrm, hbel⟩
  have HGy : Hid (w.heap.size ≤ w1.heap.size) := HB.out.size
  replace Rx : Hid (Rm w2 gx la) := Rx.out.below hbel (Nat.le_refl _)
  replace HB : Hid (Below w.heap.size w w2) := HB.out.trans (hbel.mono HB.out.size)
  have Ry : Hid (Rm w2 w1.heap.size le) := hrm
  clear hrm hbel
  generalize hgy : w1.heap.size = gy at *
  have Ly : Hid (gy < w2.heap.size) := Bl.lt Ry.out
  have Dy : Hid (gx < gy) := hDy.out
  clear hDy
  have hDz : Hid (gx < w2.heap.size) := Bl.lt Rx.out
  have Cc := roomy_v pm nm cm lm w2 (Hm.out.2.2.1.below HB.out (Nat.le_refl _)) Hnm.out.symm hlm
  go_wp2_with fail
  refine Cc.mono ?_
  clear Cc
  rintro e w3 ⟨rfl, hrm, hbel⟩
  have HGz : Hid (w.heap.size ≤ w2.heap.size) := HB.out.size
  replace Rx : Hid (Rm w3 gx la) := Rx.out.below hbel (Nat.le_refl _)
  replace Ry : Hid (Rm w3 gy le) := Ry.out.below hbel (Nat.le_refl _)
  replace HB : Hid (Below w.heap.size w w3) := HB.out.trans (hbel.mono HB.out.size)
  have Rz : Hid (Rm w3 w2.heap.size lm) := hrm
  clear hrm hbel
  generalize hgz : w2.heap.size = gz at *
  have Lz : Hid (gz < w3.heap.size) := Bl.lt Rz.out
  have Dz : Hid (gx < gz) := hDz.out
  clear hDz
  obtain ⟨c, Hc⟩ : ∃ c : Nat, Hid (rcode (nv Bs lm) (Lg (nv Bs la) || Lg (nv Bs le)) = c) := ⟨_, rfl⟩
  obtain ⟨V, HV⟩ : ∃ V : Nat, Hid ((nv Bs la) ^ (nv Bs le) % (nv Bs lm) = V) := ⟨_, rfl⟩
  have Q1 : Nd w3 (.slice (some ⟨gx, 0, none⟩) na (na + 4)) (nv Bs la) 3000000 := by
    have h := Rx.out.nd Ha.out.2.2.2.1 (by rw [Hna.out]; exact hla)
    rw [Hna.out] at h
    exact h
  have Q2 : Nd w3 (.slice (some ⟨gy, 0, none⟩) ne (ne + 4)) (nv Bs le) 3000000 := by
    have h := Ry.out.nd He.out.2.2.2.1 (by rw [Hne.out]; exact hle)
    rw [Hne.out] at h
    exact h
  have Q3 : Nd w3 (.slice (some ⟨gz, 0, none⟩) nm (nm + 4)) (nv Bs lm) 3000000 := by
    have h := Rz.out.nd Hm.out.2.2.2.1 (by rw [Hnm.out]; exact hlm)
    rw [Hnm.out] at h
    exact h
  have Cc := mexp_v _ _ _ (nv Bs la) (nv Bs le) (nv Bs lm) w3 Q1.1 Q2.1 Q3.1
  rw [Hc.out, HV.out] at Cc
  clear Q1 Q2 Q3
  go_wp2_with fail
  refine Cc.mono ?_
  clear Cc
  rintro e w4 hans
  obtain ⟨r1, rfl, hom, hbel⟩ := hans.om
  replace Rx : Hid (Rm w4 gx la) := Rx.out.below hbel (Nat.le_refl _)
  replace Ry : Hid (Rm w4 gy le) := Ry.out.below hbel (Nat.le_refl _)
  replace Rz : Hid (Rm w4 gz lm) := Rz.out.below hbel (Nat.le_refl _)
  replace HB : Hid (Below w.heap.size w w4) := HB.out.trans (hbel.mono HB.out.size)
  have Or1 : Hid (Om w4 r1 (if c = 0 then V else 0)) := hom
  clear hans hom hbel
  have Q4 : Nd w4 (.slice pa na ca) (nv Bs la) 3000000 := by
    have h := ag_nd Ha.out HB.out
    rw [Hna.out] at h
    exact h
  have Q5 : Nd w4 (.slice pe ne ce) (nv Bs le) 3000000 := by
    have h := ag_nd He.out HB.out
    rw [Hne.out] at h
    exact h
  have Q6 : Nd w4 (.slice pm nm cm) (nv Bs lm) 3000000 := by
    have h := ag_nd Hm.out HB.out
    rw [Hnm.out] at h
    exact h
  have Cc := dexp _ _ _ (nv Bs la) (nv Bs le) (nv Bs lm) w4 Q4 Q5 Q6
  rw [Hc.out, HV.out] at Cc
  clear Q4 Q5 Q6
  go_wp2_with fail
  refine Cc.mono ?_
  clear Cc
  rintro e w5 hans
  obtain ⟨s1, rfl, hom, hbel⟩ := hans.om
  replace Rx : Hid (Rm w5 gx la) := Rx.out.below hbel (Nat.le_refl _)
  replace Ry : Hid (Rm w5 gy le) := Ry.out.below hbel (Nat.le_refl _)
  replace Rz : Hid (Rm w5 gz lm) := Rz.out.below hbel (Nat.le_refl _)
  replace Or1 : Hid (Om w5 r1 (if c = 0 then V else 0)) := Or1.out.below hbel (Nat.le_refl _)
  replace HB : Hid (Below w.heap.size w w5) := HB.out.trans (hbel.mono HB.out.size)
  have Os1 : Hid (Om w5 s1 (if c = 0 then V else 0)) := hom
  clear hans hom hbel
  have Cc := lsame_eq r1 s1 (if c = 0 then V else 0) w5 Or1.out.nm Os1.out.nm (Nat.le_trans Or1.out.2 (by decide))
  go_wp2_with fail
  refine Cc.mono ?_
  clear Cc
  rintro e w6 ⟨rfl, qq, hq⟩
  have hbel : Below w5.heap.size w5 w6 := by rw [hq]; exact below_drewN (Below.refl _ _) qq
  replace Rx : Hid (Rm w6 gx la) := Rx.out.below hbel (Nat.le_refl _)
  replace Ry : Hid (Rm w6 gy le) := Ry.out.below hbel (Nat.le_refl _)
  replace Rz : Hid (Rm w6 gz lm) := Rz.out.below hbel (Nat.le_refl _)
  replace Or1 : Hid (Om w6 r1 (if c = 0 then V else 0)) := Or1.out.below hbel (Nat.le_refl _)
  replace Os1 : Hid (Om w6 s1 (if c = 0 then V else 0)) := Os1.out.below hbel (Nat.le_refl _)
  replace HB : Hid (Below w.heap.size w w6) := HB.out.trans (hbel.mono HB.out.size)
  clear hq hbel
  clear Or1 Os1
  have Cc := spared_v gx na ca pa la w6 Rx.out (Ha.out.2.2.1.below HB.out (Nat.le_refl _)) Hna.out.symm hla
  go_wp2_with fail
  refine Cc.mono ?_
  clear Cc
  rintro e w7 ⟨rfl, hbel⟩
  replace Rx : Hid (Rm w7 gx la) := Rx.out.below hbel (Nat.le_refl _)
  replace Ry : Hid (Rm w7 gy le) := Ry.out.below hbel (Nat.le_refl _)
  replace Rz : Hid (Rm w7 gz lm) := Rz.out.below hbel (Nat.le_refl _)
  replace HB : Hid (Below w.heap.size w w7) := HB.out.trans (hbel.mono HB.out.size)
  clear hbel
  have Cc := spared_v gy ne ce pe le w7 Ry.out (He.out.2.2.1.below HB.out (Nat.le_refl _)) Hne.out.symm hle
  go_wp2_with fail
  refine Cc.mono ?_
  clear Cc
  rintro e w8 ⟨rfl, hbel⟩
  replace Rx : Hid (Rm w8 gx la) := Rx.out.below hbel (Nat.le_refl _)
  replace Ry : Hid (Rm w8 gy le) := Ry.out.below hbel (Nat.le_refl _)
  replace Rz : Hid (Rm w8 gz lm) := Rz.out.below hbel (Nat.le_refl _)
  replace HB : Hid (Below w.heap.size w w8) := HB.out.trans (hbel.mono HB.out.size)
  clear hbel
  have Cc := spared_v gz nm cm pm lm w8 Rz.out (Hm.out.2.2.1.below HB.out (Nat.le_refl _)) Hnm.out.symm hlm
  go_wp2_with fail
  refine Cc.mono ?_
  clear Cc
  rintro e w9 ⟨rfl, hbel⟩
  replace Rx : Hid (Rm w9 gx la) := Rx.out.below hbel (Nat.le_refl _)
  replace Ry : Hid (Rm w9 gy le) := Ry.out.below hbel (Nat.le_refl _)
  replace Rz : Hid (Rm w9 gz lm) := Rz.out.below hbel (Nat.le_refl _)
  replace HB : Hid (Below w.heap.size w w9) := HB.out.trans (hbel.mono HB.out.size)
  clear hbel
  have HI0 : Hid (Bl 29 w9 gx (((xl la).take 0 ++ la.drop 0 ++ List.replicate 4 2779096485).map U)) := Rx.out
  go_wp2
  go_loopw [14] (fun s wr => ∃ k : Nat, k ≤ na ∧ s = .int .i64 (k : Int) ∧ Hid (Bl 29 wr gx (((xl la).take k ++ la.drop k ++ List.replicate 4 2779096485).map U)) ∧ Hid (But w9 wr gx)) (fun s _ => na - (intOf s).toNat)
  case atStart => exact ⟨0, Nat.zero_le _, rfl, HI0, But.refl _ _⟩
  case round =>
    clear HI0
    obtain ⟨k, hk, rfl, HI, HU⟩ := hrel
    by_cases hlt : k < na
    · have hlI : (k : Int) < (na : Int) := by omega
      have hkl : k < la.length := by rw [Hna.out]; exact hlt
      obtain ⟨x, Hx⟩ : ∃ x, Hid (la.getD k 0 = x) := ⟨_, rfl⟩
      have hx : x < 4294967296 := by rw [← Hx.out, ← Bs_eq]; exact Ha.out.2.2.2.1.getD Bs_pos k
      have gc := HI.out.limb k x (by simp [xl_len]; omega) (by rw [xl_get la k hkl]; exact Hx.out)
      have gf := HI.out.frozen k
      have hxo := u32_xor_nat x 5 hx (by decide)
      rw [show ((5 : Nat) : Int) = 5 from rfl] at hxo
      obtain ⟨xv, Hxv⟩ : ∃ xv, Hid (x ^^^ 5 = xv) := ⟨_, rfl⟩
      rw [Hxv.out] at hxo
      have hxv : xv < 4294967296 := by rw [← Hxv.out]; exact xor5_lt hx
      have HS : Hid (((xl la).take k ++ la.drop k ++ List.replicate 4 2779096485).set k xv = (xl la).take (k + 1) ++ la.drop (k + 1) ++ List.replicate 4 2779096485) := by rw [← Hxv.out, ← Hx.out]; exact xl_set la k hkl _
      clear hkl
      go_wp2
      go_roundw
      case rel =>
        refine ⟨k + 1, by omega, by go_num, ?_, HU.out.set _ _⟩
        have h := HI.out.setU k xv
        rw [HS.out] at h
        exact h
      case measure => simp [intOf]; omega
    · obtain rfl : k = na := by omega
      have hlI : ¬ ((k : Int) < (k : Int)) := by omega
      have RX : Hid (Rm wr gx (xl la)) := by
        have h := HI.out
        rw [List.take_of_length_le (by rw [xl_len, Hna.out]; exact Nat.le_refl _), List.drop_of_length_le (by rw [Hna.out]; exact Nat.le_refl _), List.append_nil] at h
        exact h
      replace Ry : Hid (Rm wr gy le) := Ry.out.but HU.out (by have := Dy.out; omega)
      replace Rz : Hid (Rm wr gz lm) := Rz.out.but HU.out (by have := Dz.out; omega)
      replace HB : Hid (Below w.heap.size w wr) := HB.out.trans (HU.out.below HB.out.size HGx.out)
      clear HI HU Rx
      have Rx : Hid (Rm wr gx (xl la)) := RX.out
      clear RX
      obtain ⟨c2, Hc2⟩ : ∃ c : Nat, Hid (rcode (nv Bs lm) (Lg (nv Bs (xl la)) || Lg (nv Bs le)) = c) := ⟨_, rfl⟩
      obtain ⟨V2, HV2⟩ : ∃ V : Nat, Hid ((nv Bs (xl la)) ^ (nv Bs le) % (nv Bs lm) = V) := ⟨_, rfl⟩
      have Q7 : Nd wr (.slice (some ⟨gx, 0, none⟩) k (k + 4)) (nv Bs (xl la)) 3000000 := by
        have h := Rx.out.nd (xl_sm Ha.out.2.2.2.1) (by rw [xl_len, Hna.out]; exact hla)
        rw [xl_len, Hna.out] at h
        exact h
      have Q8 : Nd wr (.slice pe ne ce) (nv Bs le) 3000000 := by
        have h := ag_nd He.out HB.out
        rw [Hne.out] at h
        exact h
      have Q9 : Nd wr (.slice pm nm cm) (nv Bs lm) 3000000 := by
        have h := ag_nd Hm.out HB.out
        rw [Hnm.out] at h
        exact h
      have Cc := dexp _ _ _ (nv Bs (xl la)) (nv Bs le) (nv Bs lm) wr Q7 Q8 Q9
      rw [Hc2.out, HV2.out] at Cc
      clear Q7 Q8 Q9
      go_wp2_with fail
      refine Cc.mono ?_
      clear Cc
      rintro e w10 hans
      obtain ⟨s2, rfl, hom, hbel⟩ := hans.om
      replace Rx : Hid (Rm w10 gx (xl la)) := Rx.out.below hbel (Nat.le_refl _)
      replace Ry : Hid (Rm w10 gy le) := Ry.out.below hbel (Nat.le_refl _)
      replace Rz : Hid (Rm w10 gz lm) := Rz.out.below hbel (Nat.le_refl _)
      replace HB : Hid (Below w.heap.size w w10) := HB.out.trans (hbel.mono HB.out.size)
      have Os2 : Hid (Om w10 s2 (if c2 = 0 then V2 else 0)) := hom
      clear hans hom hbel
      have Q10 : Nd w10 (.slice (some ⟨gx, 0, none⟩) k (k + 4)) (nv Bs (xl la)) 3000000 := by
        have h := Rx.out.nd (xl_sm Ha.out.2.2.2.1) (by rw [xl_len, Hna.out]; exact hla)
        rw [xl_len, Hna.out] at h
        exact h
      have Q11 : Nd w10 (.slice (some ⟨gy, 0, none⟩) ne (ne + 4)) (nv Bs le) 3000000 := by
        have h := Ry.out.nd He.out.2.2.2.1 (by rw [Hne.out]; exact hle)
        rw [Hne.out] at h
        exact h
      have Q12 : Nd w10 (.slice (some ⟨gz, 0, none⟩) nm (nm + 4)) (nv Bs lm) 3000000 := by
        have h := Rz.out.nd Hm.out.2.2.2.1 (by rw [Hnm.out]; exact hlm)
        rw [Hnm.out] at h
        exact h
      have Cc := mexp_v _ _ _ (nv Bs (xl la)) (nv Bs le) (nv Bs lm) w10 Q10.1 Q11.1 Q12.1
      rw [Hc2.out, HV2.out] at Cc
      clear Q10 Q11 Q12
      go_wp2_with fail
      refine Cc.mono ?_
      clear Cc
      rintro e w11 hans
      obtain ⟨r2, rfl, hom, hbel⟩ := hans.om
      replace Rx : Hid (Rm w11 gx (xl la)) := Rx.out.below hbel (Nat.le_refl _)
      replace Ry : Hid (Rm w11 gy le) := Ry.out.below hbel (Nat.le_refl _)
      replace Rz : Hid (Rm w11 gz lm) := Rz.out.below hbel (Nat.le_refl _)
      replace Os2 : Hid (Om w11 s2 (if c2 = 0 then V2 else 0)) := Os2.out.below hbel (Nat.le_refl _)
      replace HB : Hid (Below w.heap.size w w11) := HB.out.trans (hbel.mono HB.out.size)
      have Or2 : Hid (Om w11 r2 (if c2 = 0 then V2 else 0)) := hom
      clear hans hom hbel
      have Cc := lsame_eq r2 s2 (if c2 = 0 then V2 else 0) w11 Or2.out.nm Os2.out.nm (Nat.le_trans Or2.out.2 (by decide))
      go_wp2_with fail
      refine Cc.mono ?_
      clear Cc
      rintro e w12 ⟨rfl, qq, hq⟩
      have hbel : Below w11.heap.size w11 w12 := by rw [hq]; exact below_drewN (Below.refl _ _) qq
      replace Rx : Hid (Rm w12 gx (xl la)) := Rx.out.below hbel (Nat.le_refl _)
      replace Ry : Hid (Rm w12 gy le) := Ry.out.below hbel (Nat.le_refl _)
      replace Rz : Hid (Rm w12 gz lm) := Rz.out.below hbel (Nat.le_refl _)
      replace Os2 : Hid (Om w12 s2 (if c2 = 0 then V2 else 0)) := Os2.out.below hbel (Nat.le_refl _)
      replace Or2 : Hid (Om w12 r2 (if c2 = 0 then V2 else 0)) := Or2.out.below hbel (Nat.le_refl _)
      replace HB : Hid (Below w.heap.size w w12) := HB.out.trans (hbel.mono HB.out.size)
      clear hq hbel
      go_wp2
      go_ret
      exact ⟨rfl, HB.out⟩

end Go.Proofs.Ytecapoknnnoheaa
