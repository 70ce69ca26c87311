import Derived.Test.YthnogdkkdekgpaaGreatDoorRX
namespace Go.Proofs.YthnogdkkdekgpaaGreatDoor
open Go.RowKit

/-- Four rooms, since a world. -/
structure R4 (W w : World) (g1 g2 g3 g4 : Nat) (n e m s : List UInt8) : Prop where
  bel : Below W.heap.size W w
  m1 : Rm w g1 n
  m2 : Rm w g2 e
  m3 : Rm w g3 m
  m4 : Rm w g4 s
  o1 : W.heap.size ≤ g1
  o2 : g1 < g2
  o3 : g2 < g3
  o4 : g3 < g4
theorem R4.below {W w w' : World} {g1 g2 g3 g4 : Nat} {n e m s : List UInt8} (h : R4 W w g1 g2 g3 g4 n e m s) (hb : Below w.heap.size w w') : R4 W w' g1 g2 g3 g4 n e m s :=
  ⟨h.bel.trans (hb.mono h.bel.size), h.m1.below hb (Nat.le_refl _), h.m2.below hb (Nat.le_refl _), h.m3.below hb (Nat.le_refl _), h.m4.below hb (Nat.le_refl _), h.o1, h.o2, h.o3, h.o4⟩
theorem R4.drewN {W w : World} {g1 g2 g3 g4 : Nat} {n e m s : List UInt8} (h : R4 W w g1 g2 g3 g4 n e m s) (q : Nat) : R4 W (w.drewN q) g1 g2 g3 g4 n e m s := ⟨below_drewN h.bel q, h.m1, h.m2, h.m3, h.m4, h.o1, h.o2, h.o3, h.o4⟩
theorem R4.turn3 {W w w' : World} {g1 g2 g3 g4 : Nat} {n e m s m' : List UInt8} (h : R4 W w g1 g2 g3 g4 n e m s) (hb : But w w' g3) (hl : Rm w' g3 m') : R4 W w' g1 g2 g3 g4 n e m' s :=
  ⟨h.bel.trans (hb.below h.bel.size (by have := h.o1; have := h.o2; have := h.o3; omega)), h.m1.but hb (by have := h.o2; have := h.o3; omega), h.m2.but hb (by have := h.o3; omega), hl, h.m4.but hb (by have := h.o4; omega), h.o1, h.o2, h.o3, h.o4⟩

set_option maxRecDepth 100000 in
set_option maxHeartbeats 8000000 in
theorem pver_core (h : Int) (a1 a2 a3 a4 : Option Addr) (c1 c2 c3 c4 : Nat) (n e m s : List UInt8) (W : World) (T : Sha.Tb W) (R : Sha.Rt W) (r1 : Rd W a1 n) (r2 : Rd W a2 e) (r3 : Rd W a3 m) (r4 : Rd W a4 s)
    (n3 : a3 = none → c3 = 0) (q3 : m.length ≤ c3) (l1 : n.length ≤ 2000000) (l2 : e.length ≤ 2000000) (l3 : m.length ≤ 2000000) (l4 : s.length ≤ 2000000) :
    Calls Tryz.prog 3 #[.int .i64 h, .slice a1 n.length c1, .slice a2 e.length c2, .slice a3 m.length c3, .slice a4 s.length c4] W fun x w' => x = .returned (.bool true) ∧ Below W.heap.size W w' := by
  have HT : Hid (Sha.Tb W) := T
  have HR : Hid (Sha.Rt W) := R
  have H1 : Hid (Rd W a1 n) := r1
  have H2 : Hid (Rd W a2 e) := r2
  have H3 : Hid (Rd W a3 m) := r3
  have H4 : Hid (Rd W a4 s) := r4
  have N3 : Hid (a3 = none → m.length = 0 ∧ c3 = 0) := fun x => by have := n3 x; omega
  have HP : Hid (∀ (w : World) (g1 g2 g3 g4 : Nat) (m' : List UInt8), R4 W w g1 g2 g3 g4 n e m' s → m'.length = m.length → Calls Tryz.prog 5 #[.int .i64 h, .slice (some ⟨g1, 0, none⟩) n.length (n.length + 9), .slice (some ⟨g2, 0, none⟩) e.length (e.length + 9), .slice (some ⟨g3, 0, none⟩) m.length (m.length + 9), .slice (some ⟨g4, 0, none⟩) s.length (s.length + 9)] w fun x w' => x = .returned (.int .i64 (pverV h n e m' s)) ∧ Below w.heap.size w w') := fun w g1 g2 g3 g4 m' hS hm => by
    have := pverify_any h (some ⟨g1, 0, none⟩) (some ⟨g2, 0, none⟩) (some ⟨g3, 0, none⟩) (some ⟨g4, 0, none⟩) (n.length + 9) (e.length + 9) (m.length + 9) (s.length + 9) n e m' s w (HT.out.below hS.bel) hS.m1.rd hS.m2.rd hS.m3.rd hS.m4.rd (by omega) (by omega) (by omega) (by omega) (by omega) (by omega)
    rwa [hm] at this
  have HD : Hid (∀ (w : World) (b3 : Option Addr) (d3 : Nat) (m' : List UInt8), Below W.heap.size W w → Rd w b3 m' → m'.length = m.length → (b3 = none → m.length = 0 ∧ d3 = 0) → Calls Tryz.prog 6 #[.int .i64 h, .slice a1 n.length c1, .slice a2 e.length c2, .slice b3 m.length d3, .slice a4 s.length c4] w fun x w' => x = .returned (.int .i64 (pverV h n e m' s)) ∧ Below w.heap.size w w') := fun w b3 d3 m' hb hr3 hm hn => by
    have := rpverify_any h a1 a2 b3 a4 c1 c2 d3 c4 n e m' s w (RtB HR.out hb (Nat.le_refl _)) (H1.out.below hb (Nat.le_refl _)) (H2.out.below hb (Nat.le_refl _)) hr3 (H4.out.below hb (Nat.le_refl _)) (by rw [hm]; exact hn) (by omega) (by omega) (by omega) (by omega)
    rwa [hm] at this
  have C1 := proomy_any a1 c1 n W r1 (by omega)
  clear T R r1 r2 r3 r4 n3
  go_enter Tryz.func3, Tryz.ntmps3
  go_wp2_with fail
  refine C1.mono ?_
  rintro x w1 ⟨rfl, hR1, hb1⟩
  clear C1
  have HR1 : Hid (Rm w1 W.heap.size n) := hR1
  have B1 : Hid (Below W.heap.size W w1) := hb1
  have C2 := proomy_any a2 c2 e w1 (H2.out.below hb1 (Nat.le_refl _)) (by omega)
  clear hR1 hb1
  go_wp2_with fail
  refine C2.mono ?_
  rintro x w2 ⟨rfl, hR2, hb2⟩
  clear C2
  have HR12 : Hid (Rm w2 W.heap.size n) := HR1.out.below hb2 (Nat.le_refl _)
  have HR22 : Hid (Rm w2 w1.heap.size e) := hR2
  have B2 : Hid (Below W.heap.size W w2) := B1.out.trans (hb2.mono B1.out.size)
  have C3 := proomy_any a3 c3 m w2 (H3.out.below B2.out (Nat.le_refl _)) (by omega)
  have HO2 : Hid (W.heap.size < w1.heap.size) := Bl.lt HR1.out
  clear hR2 hb2 HR1 B1
  go_wp2_with fail
  refine C3.mono ?_
  rintro x w3 ⟨rfl, hR3, hb3⟩
  clear C3
  have HR13 : Hid (Rm w3 W.heap.size n) := HR12.out.below hb3 (Nat.le_refl _)
  have HR23 : Hid (Rm w3 w1.heap.size e) := HR22.out.below hb3 (Nat.le_refl _)
  have HR33 : Hid (Rm w3 w2.heap.size m) := hR3
  have B3 : Hid (Below W.heap.size W w3) := B2.out.trans (hb3.mono B2.out.size)
  have HO3 : Hid (w1.heap.size < w2.heap.size) := Bl.lt HR22.out
  have C4 := proomy_any a4 c4 s w3 (H4.out.below B3.out (Nat.le_refl _)) (by omega)
  clear hR3 hb3 HR12 HR22 B2
  go_wp2_with fail
  refine C4.mono ?_
  rintro x w4 ⟨rfl, hR4, hb4⟩
  clear C4
  obtain ⟨g1, hg1⟩ : ∃ g, W.heap.size = g := ⟨_, rfl⟩
  obtain ⟨g2, hg2⟩ : ∃ g, w1.heap.size = g := ⟨_, rfl⟩
  obtain ⟨g3, hg3⟩ : ∃ g, w2.heap.size = g := ⟨_, rfl⟩
  obtain ⟨g4, hg4⟩ : ∃ g, w3.heap.size = g := ⟨_, rfl⟩
  have S4 : Hid (R4 W w4 g1 g2 g3 g4 n e m s) := ⟨B3.out.trans (hb4.mono B3.out.size), by rw [← hg1]; exact HR13.out.below hb4 (Nat.le_refl _), by rw [← hg2]; exact HR23.out.below hb4 (Nat.le_refl _), by rw [← hg3]; exact HR33.out.below hb4 (Nat.le_refl _), by rw [← hg4]; exact hR4, by omega, by rw [← hg1, ← hg2]; exact HO2.out, by rw [← hg2, ← hg3]; exact HO3.out, by rw [← hg3, ← hg4]; exact Bl.lt HR33.out⟩
  have CV := HP.out w4 g1 g2 g3 g4 m S4.out rfl
  rw [hg1, hg2, hg3, hg4]
  clear hg1 hg2 hg3 hg4 hR4 hb4 HR13 HR23 HR33 B3 HO2 HO3
  obtain ⟨V1, HV1⟩ : ∃ V, Hid (pverV h n e m s = V) := ⟨_, rfl⟩
  rw [HV1.out] at CV
  go_wp2_with fail
  refine CV.mono ?_
  rintro x w5 ⟨rfl, hb⟩
  have S5 : Hid (R4 W w5 g1 g2 g3 g4 n e m s) := S4.out.below hb
  clear CV hb S4
  have CV := HD.out w5 a3 c3 m S5.out.bel (H3.out.below S5.out.bel (Nat.le_refl _)) rfl N3.out
  rw [HV1.out] at CV
  have dV1 : (V1 != V1) = false := by simp
  go_wp2_with fail
  refine CV.mono ?_
  rintro x w6 ⟨rfl, hb⟩
  have S6 : Hid (R4 W w6 g1 g2 g3 g4 n e m s) := S5.out.below hb
  clear CV hb S5
  have CP := pspared_any g1 c1 n.length a1 n w6 rfl S6.out.m1 (H1.out.below S6.out.bel (Nat.le_refl _)) (by omega)
  go_wp2_with fail
  refine CP.mono ?_
  rintro x w7 ⟨rfl, q6, hw6⟩
  clear CP
  have S7 : Hid (R4 W w7 g1 g2 g3 g4 n e m s) := by rw [hw6]; exact S6.out.drewN q6
  clear hw6 S6
  have CP := pspared_any g2 c2 e.length a2 e w7 rfl S7.out.m2 (H2.out.below S7.out.bel (Nat.le_refl _)) (by omega)
  go_wp2_with fail
  refine CP.mono ?_
  rintro x w8 ⟨rfl, q7, hw7⟩
  clear CP
  have S8 : Hid (R4 W w8 g1 g2 g3 g4 n e m s) := by rw [hw7]; exact S7.out.drewN q7
  clear hw7 S7
  have CP := pspared_any g3 c3 m.length a3 m w8 rfl S8.out.m3 (H3.out.below S8.out.bel (Nat.le_refl _)) (by omega)
  go_wp2_with fail
  refine CP.mono ?_
  rintro x w9 ⟨rfl, q8, hw8⟩
  clear CP
  have S9 : Hid (R4 W w9 g1 g2 g3 g4 n e m s) := by rw [hw8]; exact S8.out.drewN q8
  clear hw8 S8
  have CP := pspared_any g4 c4 s.length a4 s w9 rfl S9.out.m4 (H4.out.below S9.out.bel (Nat.le_refl _)) (by omega)
  go_wp2_with fail
  refine CP.mono ?_
  rintro x w10 ⟨rfl, q9, hw9⟩
  clear CP
  have S10 : Hid (R4 W w10 g1 g2 g3 g4 n e m s) := by rw [hw9]; exact S9.out.drewN q9
  clear hw9 S9
  have CT := pturn_any g3 (m.length + 9) m w10 S10.out.m3 (by omega)
  clear HV1 dV1
  go_wp2_with fail
  refine CT.mono ?_
  rintro x w11 ⟨rfl, hR11, hb11⟩
  clear CT
  have S11 : Hid (R4 W w11 g1 g2 g3 g4 n e (m.map trn) s) := S10.out.turn3 hb11 hR11
  have hm11 : (m.map trn).length = m.length := by simp
  clear hR11 hb11 S10
  generalize m.map trn = m2 at *
  obtain ⟨V2, HV2⟩ : ∃ V, Hid (pverV h n e m2 s = V) := ⟨_, rfl⟩
  have CV := HD.out w11 (some ⟨g3, 0, none⟩) (m.length + 9) m2 S11.out.bel S11.out.m3.rd hm11 (fun e => by cases e)
  rw [HV2.out] at CV
  go_wp2_with fail
  refine CV.mono ?_
  rintro x w12 ⟨rfl, hb⟩
  have S12 : Hid (R4 W w12 g1 g2 g3 g4 n e m2 s) := S11.out.below hb
  clear CV hb S11
  have CV := HP.out w12 g1 g2 g3 g4 m2 S12.out hm11
  rw [HV2.out] at CV
  have dV2 : (V2 == V2) = true := by simp
  clear HV2
  go_wp2_with fail
  refine CV.mono ?_
  rintro x w13 ⟨rfl, hb⟩
  have S13 : Hid (R4 W w13 g1 g2 g3 g4 n e m2 s) := S12.out.below hb
  clear CV hb S12
  go_wp2
  go_ret
  exact ⟨rfl, S13.out.bel⟩

end Go.Proofs.YthnogdkkdekgpaaGreatDoor
