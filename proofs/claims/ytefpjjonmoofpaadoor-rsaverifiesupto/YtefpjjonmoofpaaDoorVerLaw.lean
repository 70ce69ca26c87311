import Derived.Test.YtefpjjonmoofpaaDoorRVer
import Derived.Test.YtefpjjonmoofpaaDoorKeepR
import Derived.Test.YtefpjjonmoofpaaDoorStill
import Derived.Test.YtefpjjonmoofpaaDoorTurn
namespace Go.Proofs.YtefpjjonmoofpaaDoor
open Go.RowKit

/-- Four lent lists, since a world. -/
structure VS (W w : World) (g1 k1 g2 k2 g3 k3 g4 k4 : Nat) (n e m s : List UInt8) : Prop where
  bel : Below W.heap.size W w
  l1 : Ln w W.heap.size g1 k1 n
  l2 : Ln w W.heap.size g2 k2 e
  l3 : Ln w W.heap.size g3 k3 m
  l4 : Ln w W.heap.size g4 k4 s
  o1 : g1 < g2
  o2 : g2 < g3
  o3 : g3 < g4
theorem VS.below {W w w' : World} {g1 k1 g2 k2 g3 k3 g4 k4 : Nat} {n e m s : List UInt8} (h : VS W w g1 k1 g2 k2 g3 k3 g4 k4 n e m s) (hb : Below w.heap.size w w') : VS W w' g1 k1 g2 k2 g3 k3 g4 k4 n e m s :=
  ⟨h.bel.trans (hb.mono h.bel.size), h.l1.below hb (Nat.le_refl _), h.l2.below hb (Nat.le_refl _), h.l3.below hb (Nat.le_refl _), h.l4.below hb (Nat.le_refl _), h.o1, h.o2, h.o3⟩
theorem VS.drewN {W w : World} {g1 k1 g2 k2 g3 k3 g4 k4 : Nat} {n e m s : List UInt8} (h : VS W w g1 k1 g2 k2 g3 k3 g4 k4 n e m s) (q : Nat) : VS W (w.drewN q) g1 k1 g2 k2 g3 k3 g4 k4 n e m s :=
  ⟨below_drewN h.bel q, h.l1, h.l2, h.l3, h.l4, h.o1, h.o2, h.o3⟩
theorem VS.turn3 {W w w' : World} {g1 k1 g2 k2 g3 k3 g4 k4 : Nat} {n e m s m' : List UInt8} (h : VS W w g1 k1 g2 k2 g3 k3 g4 k4 n e m s) (hb : But w w' g3) (hl : Ln w' W.heap.size g3 k3 m') : VS W w' g1 k1 g2 k2 g3 k3 g4 k4 n e m' s :=
  ⟨h.bel.trans (hb.below h.bel.size h.l3.parts.1), h.l1.but hb (by have := h.o1; have := h.o2; omega), h.l2.but hb (by have := h.o2; omega), hl, h.l4.but hb (by have := h.o3; omega), h.o1, h.o2, h.o3⟩
theorem VS.turn4 {W w w' : World} {g1 k1 g2 k2 g3 k3 g4 k4 : Nat} {n e m s s' : List UInt8} (h : VS W w g1 k1 g2 k2 g3 k3 g4 k4 n e m s) (hb : But w w' g4) (hl : Ln w' W.heap.size g4 k4 s') : VS W w' g1 k1 g2 k2 g3 k3 g4 k4 n e m s' :=
  ⟨h.bel.trans (hb.below h.bel.size h.l4.parts.1), h.l1.but hb (by have := h.o1; have := h.o2; have := h.o3; omega), h.l2.but hb (by have := h.o2; have := h.o3; omega), h.l3.but hb (by have := h.o3; omega), hl, h.o1, h.o2, h.o3⟩
/-- A copy made by append to nil. -/
theorem copy_form {w : World} {base : Nat} {v : Value} {l : List UInt8} {n : Nat} (h : Owb w base v l) (hl : l.length = n) : ∃ a c, v = .slice a n c ∧ Rd w a l ∧ (a = none → n = 0 ∧ c = 0) := by
  rcases h.2 with ⟨e, h0⟩ | ⟨g, cap, cur, e, _⟩
  · have h0' : n = 0 := by rw [← hl]; exact h0
    exact ⟨none, 0, by rw [h0']; exact e, .inl (List.eq_nil_of_length_eq_zero h0), fun _ => ⟨h0', rfl⟩⟩
  · obtain ⟨a, c, e2, _, hr⟩ := h.nb
    rw [hl] at e2
    refine ⟨a, c, e2, hr, fun ea => ?_⟩
    rw [e2] at e
    injection e with e3
    rw [ea] at e3
    cases e3

set_option maxRecDepth 100000 in
set_option maxHeartbeats 16000000 in
theorem ver_core (h : Int) (a1 a2 a3 a4 : Option Addr) (c1 c2 c3 c4 : Nat) (n e m s : List UInt8) (W : World) (T : Sha.Tb W) (I : Inf W) (R : Sha.Rt W) (r1 : Rd W a1 n) (r2 : Rd W a2 e) (r3 : Rd W a3 m) (r4 : Rd W a4 s)
    (n1 : a1 = none → c1 = 0) (n2 : a2 = none → c2 = 0) (n3 : a3 = none → c3 = 0) (n4 : a4 = none → c4 = 0) (q1 : n.length ≤ c1) (q2 : e.length ≤ c2) (q3 : m.length ≤ c3) (q4 : s.length ≤ c4) (l1 : n.length ≤ 2000000) (l2 : e.length ≤ 2000000) (l3 : m.length ≤ 2000000) (l4 : s.length ≤ 2000000) :
    Calls Tryd.prog 8 #[.int .i64 h, .slice a1 n.length c1, .slice a2 e.length c2, .slice a3 m.length c3, .slice a4 s.length c4] W fun x w' => x = .returned (.bool true) ∧ Below W.heap.size W w' := by
  have HT : Hid (Sha.Tb W) := T
  have HI : Hid (Inf W) := I
  have HR : Hid (Sha.Rt W) := R
  have H1 : Hid (Rd W a1 n) := r1
  have H2 : Hid (Rd W a2 e) := r2
  have H3 : Hid (Rd W a3 m) := r3
  have H4 : Hid (Rd W a4 s) := r4
  have N1 : Hid (a1 = none → n.length = 0 ∧ c1 = 0) := fun x => by have := n1 x; omega
  have N2 : Hid (a2 = none → e.length = 0 ∧ c2 = 0) := fun x => by have := n2 x; omega
  have N3 : Hid (a3 = none → m.length = 0 ∧ c3 = 0) := fun x => by have := n3 x; omega
  have N4 : Hid (a4 = none → s.length = 0 ∧ c4 = 0) := fun x => by have := n4 x; omega
  clear T I R r1 r2 r3 r4 n1 n2 n3 n4 q1 q2 q3 q4
  have HVer : Hid (∀ (w : World) (g1 k1 g2 k2 g3 k3 g4 k4 : Nat) (m' s' : List UInt8), VS W w g1 k1 g2 k2 g3 k3 g4 k4 n e m' s' → m'.length = m.length → s'.length = s.length → Calls Tryd.prog 18 #[.int .i64 h, .slice (some ⟨g1, 0, none⟩) n.length k1, .slice (some ⟨g2, 0, none⟩) e.length k2, .slice (some ⟨g3, 0, none⟩) m.length k3, .slice (some ⟨g4, 0, none⟩) s.length k4] w fun x w' => x = .returned (.int .i64 (verV h n e m' s')) ∧ Below w.heap.size w w') := fun w g1 k1 g2 k2 g3 k3 g4 k4 m' s' hV hm hs => by
    obtain ⟨_, _, p3, p4, _⟩ := hV.l3.parts
    unfold maxLen at p4
    have := verify_any h (some ⟨g1, 0, none⟩) (some ⟨g2, 0, none⟩) (some ⟨g3, 0, none⟩) (some ⟨g4, 0, none⟩) k1 k2 k3 k4 n e m' s' w (HT.out.below hV.bel) (HI.out.below hV.bel) hV.l1.rd hV.l2.rd hV.l3.rd hV.l4.rd (by omega) (by omega) (by omega) (by omega) (by omega) (by omega)
    rwa [hm, hs] at this
  have HRef : Hid (∀ (w : World) (b3 b4 : Option Addr) (d3 d4 : Nat) (m' s' : List UInt8), Below W.heap.size W w → Rd w b3 m' → Rd w b4 s' → m'.length = m.length → s'.length = s.length → (b3 = none → m.length = 0 ∧ d3 = 0) → Calls Tryd.prog 28 #[.int .i64 h, .slice a1 n.length c1, .slice a2 e.length c2, .slice b3 m.length d3, .slice b4 s.length d4] w fun x w' => x = .returned (.int .i64 (verV h n e m' s')) ∧ Below w.heap.size w w') := fun w b3 b4 d3 d4 m' s' hB r3 r4 hm hs hn => by
    have := rverify_any h a1 a2 b3 b4 c1 c2 d3 d4 n e m' s' w (Rt.below' HR.out hB) (H1.out.below hB (Nat.le_refl _)) (H2.out.below hB (Nat.le_refl _)) r3 r4 (by rw [hm]; exact hn) (by omega) (by omega) (by omega) (by omega)
    rwa [hm, hs] at this
  have C1 := lent_any a1 c1 n W H1.out N1.out (by omega)
  go_enter Tryd.func8, Tryd.ntmps8
  go_wp2_with fail
  refine C1.mono ?_
  rintro x w1 ⟨g1, k1, rfl, hL1, hb1⟩
  clear C1
  have HL1 : Hid (Ln w1 W.heap.size g1 k1 n) := hL1
  have B1 : Hid (Below W.heap.size W w1) := hb1
  have C2 := lent_any a2 c2 e w1 (H2.out.below hb1 (Nat.le_refl _)) N2.out (by omega)
  clear hL1 hb1
  go_wp2_with fail
  refine C2.mono ?_
  rintro x w2 ⟨g2, k2, rfl, hL2, hb2⟩
  clear C2
  have HL12 : Hid (Ln w2 W.heap.size g1 k1 n) := HL1.out.below hb2 (Nat.le_refl _)
  have HL22 : Hid (Ln w2 W.heap.size g2 k2 e) := Owb.base hL2 B1.out.size
  have o1 : g1 < g2 := by have := HL1.out.parts.2.1; have := hL2.parts.1; omega
  have B2 : Hid (Below W.heap.size W w2) := B1.out.trans (hb2.mono B1.out.size)
  have C3 := lent_any a3 c3 m w2 (H3.out.below B2.out (Nat.le_refl _)) N3.out (by omega)
  clear hL2 hb2 HL1 B1
  go_wp2_with fail
  refine C3.mono ?_
  rintro x w3 ⟨g3, k3, rfl, hL3, hb3⟩
  clear C3
  have HL13 : Hid (Ln w3 W.heap.size g1 k1 n) := HL12.out.below hb3 (Nat.le_refl _)
  have HL23 : Hid (Ln w3 W.heap.size g2 k2 e) := HL22.out.below hb3 (Nat.le_refl _)
  have HL33 : Hid (Ln w3 W.heap.size g3 k3 m) := Owb.base hL3 B2.out.size
  have o2 : g2 < g3 := by have := HL22.out.parts.2.1; have := hL3.parts.1; omega
  have B3 : Hid (Below W.heap.size W w3) := B2.out.trans (hb3.mono B2.out.size)
  have C4 := lent_any a4 c4 s w3 (H4.out.below B3.out (Nat.le_refl _)) N4.out (by omega)
  clear hL3 hb3 HL12 HL22 B2
  go_wp2_with fail
  refine C4.mono ?_
  rintro x w4 ⟨g4, k4, rfl, hL4, hb4⟩
  clear C4
  have S4 : Hid (VS W w4 g1 k1 g2 k2 g3 k3 g4 k4 n e m s) := ⟨B3.out.trans (hb4.mono B3.out.size), HL13.out.below hb4 (Nat.le_refl _), HL23.out.below hb4 (Nat.le_refl _), HL33.out.below hb4 (Nat.le_refl _), Owb.base hL4 B3.out.size, o1, o2, by have := HL33.out.parts.2.1; have := hL4.parts.1; omega⟩
  have o3 : g3 < g4 := S4.out.o3
  clear hL4 hb4 HL13 HL23 HL33 B3 N1 N2 N4 o1 o2
  obtain ⟨V1, HV1⟩ : ∃ V, Hid (verV h n e m s = V) := ⟨_, rfl⟩
  have CV := HVer.out w4 g1 k1 g2 k2 g3 k3 g4 k4 m s S4.out rfl rfl
  rw [HV1.out] at CV
  go_wp2_with fail
  refine (CV).mono ?_
  rintro x w5 ⟨rfl, hb⟩
  have S5 : Hid (VS W w5 g1 k1 g2 k2 g3 k3 g4 k4 n e m s) := S4.out.below hb
  clear CV hb S4 
  have CV := HRef.out w5 a3 a4 c3 c4 m s S5.out.bel (H3.out.below S5.out.bel (Nat.le_refl _)) (H4.out.below S5.out.bel (Nat.le_refl _)) rfl rfl N3.out
  rw [HV1.out] at CV
  have dV1 : (V1 != V1) = false := by simp
  go_wp2_with fail
  refine (CV).mono ?_
  rintro x w6 ⟨rfl, hb⟩
  have S6 : Hid (VS W w6 g1 k1 g2 k2 g3 k3 g4 k4 n e m s) := S5.out.below hb
  clear CV hb S5 
  go_wp2_with fail
  refine (still_true _ g1 k1 c1 a1 n w6 S6.out.l1 (H1.out.below S6.out.bel (Nat.le_refl _)) (by omega)).mono ?_
  rintro x w7 ⟨rfl, q7, hw⟩
  have S7 : Hid (VS W w7 g1 k1 g2 k2 g3 k3 g4 k4 n e m s) := by rw [hw]; exact S6.out.drewN q7
  clear hw S6 
  go_wp2_with fail
  refine (still_true _ g2 k2 c2 a2 e w7 S7.out.l2 (H2.out.below S7.out.bel (Nat.le_refl _)) (by omega)).mono ?_
  rintro x w8 ⟨rfl, q8, hw⟩
  have S8 : Hid (VS W w8 g1 k1 g2 k2 g3 k3 g4 k4 n e m s) := by rw [hw]; exact S7.out.drewN q8
  clear hw S7 
  go_wp2_with fail
  refine (still_true _ g3 k3 c3 a3 m w8 S8.out.l3 (H3.out.below S8.out.bel (Nat.le_refl _)) (by omega)).mono ?_
  rintro x w9 ⟨rfl, q9, hw⟩
  have S9 : Hid (VS W w9 g1 k1 g2 k2 g3 k3 g4 k4 n e m s) := by rw [hw]; exact S8.out.drewN q9
  clear hw S8 
  go_wp2_with fail
  refine (still_true _ g4 k4 c4 a4 s w9 S9.out.l4 (H4.out.below S9.out.bel (Nat.le_refl _)) (by omega)).mono ?_
  rintro x w10 ⟨rfl, q10, hw⟩
  have S10 : Hid (VS W w10 g1 k1 g2 k2 g3 k3 g4 k4 n e m s) := by rw [hw]; exact S9.out.drewN q10
  clear hw S9 
  have CT := turned_any _ g3 k3 m w10 S10.out.l3 (by omega)
  go_wp2_with fail
  refine CT.mono ?_
  rintro x w11 ⟨rfl, ⟨m', hm', hL⟩, hbut⟩
  have S11 : Hid (VS W w11 g1 k1 g2 k2 g3 k3 g4 k4 n e m' s) := S10.out.turn3 hbut hL
  have Hm' : Hid (m'.length = m.length) := hm'
  clear CT hm' hL hbut S10 HV1 dV1
  have HN0 : Hid (Owb w11 w11.heap.size (.slice none 0 0) []) := Owb.nil _ _
  have hg4 : g4 < w11.heap.size := S11.out.l4.parts.2.1
  obtain ⟨BM, hBM⟩ : ∃ b, b = w11.heap.size := ⟨_, rfl⟩
  rw [← hBM] at hg4
  have HBM : Hid (BM = w11.heap.size) := hBM
  clear hBM
  go_wp2_with (at_builtin; refine append_rdb rfl (.tmp 68) (.tmp 69) rfl w11.heap.size _ [] rfl HN0.out (some ⟨g3, 0, none⟩) m.length k3 m' rfl Hm'.out (fun e => by cases e) S11.out.l3.rd (by rw [List.length_nil]; omega) (Nat.le_refl _) ?_; intro vm w12 h5 h6)
  have hb : Below w11.heap.size w11 w12 := (Below.refl _ _).grown h6 (Nat.le_refl _) (fun k h => by cases h)
  have S12 : Hid (VS W w12 g1 k1 g2 k2 g3 k3 g4 k4 n e m' s) := S11.out.below hb
  have hvm : Owb w12 BM vm m' := by rw [HBM.out]; exact h5
  obtain ⟨am, cm, em, _, hcm⟩ := copy_form hvm Hm'.out
  subst em
  have HCM : Hid (am = none → m.length = 0 ∧ cm = 0) := hcm
  have OM12 : Hid (Owb w12 BM (.slice am m.length cm) m') := hvm
  have HOMr : Hid (∀ w, Owb w BM (.slice am m.length cm) m' → Rd w am m') := fun w ho => by
    obtain ⟨a, c, e, _, hr⟩ := ho.nb
    injection e with e1
    subst e1
    exact hr
  clear h5 h6 hb hvm hcm HN0 S11 HBM
  obtain ⟨V2, HV2⟩ : ∃ V, Hid (verV h n e m' s = V) := ⟨_, rfl⟩
  have CV := HVer.out w12 g1 k1 g2 k2 g3 k3 g4 k4 m' s S12.out Hm'.out rfl
  rw [HV2.out] at CV
  go_wp2_with fail
  refine (CV).mono ?_
  rintro x w13 ⟨rfl, hb⟩
  have S13 : Hid (VS W w13 g1 k1 g2 k2 g3 k3 g4 k4 n e m' s) := S12.out.below hb
  have OM13 : Hid (Owb w13 BM (.slice am m.length cm) m') := OM12.out.below hb (Nat.le_refl _)
  clear CV hb S12 OM12
  have CV := HRef.out w13 am a4 cm c4 m' s S13.out.bel (HOMr.out _ OM13.out) (H4.out.below S13.out.bel (Nat.le_refl _)) Hm'.out rfl HCM.out
  rw [HV2.out] at CV
  have dV2 : (V2 != V2) = false := by simp
  go_wp2_with fail
  refine (CV).mono ?_
  rintro x w14 ⟨rfl, hb⟩
  have S14 : Hid (VS W w14 g1 k1 g2 k2 g3 k3 g4 k4 n e m' s) := S13.out.below hb
  have OM14 : Hid (Owb w14 BM (.slice am m.length cm) m') := OM13.out.below hb (Nat.le_refl _)
  clear CV hb S13 OM13
  have CS := still_true _ g3 k3 cm am m' w14 S14.out.l3 (HOMr.out _ OM14.out) (by rw [Hm'.out]; omega)
  rw [Hm'.out] at CS
  go_wp2_with fail
  refine (CS).mono ?_
  rintro x w15 ⟨rfl, q15, hw⟩
  have S15 : Hid (VS W w15 g1 k1 g2 k2 g3 k3 g4 k4 n e m' s) := by rw [hw]; exact S14.out.drewN q15
  have OM15 : Hid (Owb w15 BM (.slice am m.length cm) m') := by rw [hw]; exact OM14.out
  clear CS hw S14 OM14
  have et : Int.tmod (m.length : Int) 2 = ((m.length % 2 : Nat) : Int) := by rw [Int.tmod_eq_emod_of_nonneg (by omega)]; omega
  have et2 : (m.length : Int) % 2 = ((m.length % 2 : Nat) : Int) := by omega
  clear dV2 HV2
  by_cases hodd : m.length % 2 = 1
  · rw [hodd] at et et2
    clear hodd
    have HZ : Hid (Below W.heap.size W w15) := S15.out.bel
    go_wp2
    go_ret
    exact ⟨rfl, HZ.out⟩
  have hev : m.length % 2 = 0 := by omega
  rw [hev] at et et2
  clear hodd hev
  have CT := turned_any _ g4 k4 s w15 S15.out.l4 (by omega)
  go_wp2_with fail
  refine CT.mono ?_
  rintro x w16 ⟨rfl, ⟨s', hs', hL⟩, hbut⟩
  have S16 : Hid (VS W w16 g1 k1 g2 k2 g3 k3 g4 k4 n e m' s') := S15.out.turn4 hbut hL
  have OM16 : Hid (Owb w16 BM (.slice am m.length cm) m') := OM15.out.but hbut hg4
  have Hs' : Hid (s'.length = s.length) := hs'
  clear CT hs' hL hbut S15 OM15 et et2
  have HN0 : Hid (Owb w16 w16.heap.size (.slice none 0 0) []) := Owb.nil _ _
  go_wp2_with (at_builtin; refine append_rdb rfl (.tmp 97) (.tmp 98) rfl w16.heap.size _ [] rfl HN0.out (some ⟨g4, 0, none⟩) s.length k4 s' rfl Hs'.out (fun e => by cases e) S16.out.l4.rd (by rw [List.length_nil]; omega) (Nat.le_refl _) ?_; intro vs w17 h5 h6)
  have hb : Below w16.heap.size w16 w17 := (Below.refl _ _).grown h6 (Nat.le_refl _) (fun k h => by cases h)
  have S17 : Hid (VS W w17 g1 k1 g2 k2 g3 k3 g4 k4 n e m' s') := S16.out.below hb
  have OM17 : Hid (Owb w17 BM (.slice am m.length cm) m') := OM16.out.below hb (Nat.le_refl _)
  have hvs : Owb w17 w16.heap.size vs s' := h5
  obtain ⟨aSg, cs, es, hrs, _⟩ := copy_form hvs Hs'.out
  subst es
  have RS17 : Hid (Rd w17 aSg s') := hrs
  clear h5 h6 hb hvs hrs HN0 S16 OM16
  obtain ⟨V3, HV3⟩ : ∃ V, Hid (verV h n e m' s' = V) := ⟨_, rfl⟩
  have CV := HVer.out w17 g1 k1 g2 k2 g3 k3 g4 k4 m' s' S17.out Hm'.out Hs'.out
  rw [HV3.out] at CV
  go_wp2_with fail
  refine (CV).mono ?_
  rintro x w18 ⟨rfl, hb⟩
  have S18 : Hid (VS W w18 g1 k1 g2 k2 g3 k3 g4 k4 n e m' s') := S17.out.below hb
  have OM18 : Hid (Owb w18 BM (.slice am m.length cm) m') := OM17.out.below hb (Nat.le_refl _)
  have RS18 : Hid (Rd w18 aSg s') := RS17.out.below hb (Nat.le_refl _)
  clear CV hb S17 OM17 RS17
  have CV := HRef.out w18 am aSg cm cs m' s' S18.out.bel (HOMr.out _ OM18.out) RS18.out Hm'.out Hs'.out HCM.out
  rw [HV3.out] at CV
  have dV3 : (V3 == V3) = true := by simp
  go_wp2_with fail
  refine (CV).mono ?_
  rintro x w19 ⟨rfl, hb⟩
  have S19 : Hid (VS W w19 g1 k1 g2 k2 g3 k3 g4 k4 n e m' s') := S18.out.below hb
  have OM19 : Hid (Owb w19 BM (.slice am m.length cm) m') := OM18.out.below hb (Nat.le_refl _)
  have RS19 : Hid (Rd w19 aSg s') := RS18.out.below hb (Nat.le_refl _)
  clear CV hb S18 OM18 RS18
  go_wp2_with fail
  refine (still_true _ g1 k1 c1 a1 n w19 S19.out.l1 (H1.out.below S19.out.bel (Nat.le_refl _)) (by omega)).mono ?_
  rintro x w20 ⟨rfl, q20, hw⟩
  have S20 : Hid (VS W w20 g1 k1 g2 k2 g3 k3 g4 k4 n e m' s') := by rw [hw]; exact S19.out.drewN q20
  have OM20 : Hid (Owb w20 BM (.slice am m.length cm) m') := by rw [hw]; exact OM19.out
  have RS20 : Hid (Rd w20 aSg s') := by rw [hw]; exact RS19.out
  clear hw S19 OM19 RS19
  go_wp2_with fail
  refine (still_true _ g2 k2 c2 a2 e w20 S20.out.l2 (H2.out.below S20.out.bel (Nat.le_refl _)) (by omega)).mono ?_
  rintro x w21 ⟨rfl, q21, hw⟩
  have S21 : Hid (VS W w21 g1 k1 g2 k2 g3 k3 g4 k4 n e m' s') := by rw [hw]; exact S20.out.drewN q21
  have OM21 : Hid (Owb w21 BM (.slice am m.length cm) m') := by rw [hw]; exact OM20.out
  have RS21 : Hid (Rd w21 aSg s') := by rw [hw]; exact RS20.out
  clear hw S20 OM20 RS20
  have CS := still_true _ g3 k3 cm am m' w21 S21.out.l3 (HOMr.out _ OM21.out) (by rw [Hm'.out]; omega)
  rw [Hm'.out] at CS
  go_wp2_with fail
  refine (CS).mono ?_
  rintro x w22 ⟨rfl, q22, hw⟩
  have S22 : Hid (VS W w22 g1 k1 g2 k2 g3 k3 g4 k4 n e m' s') := by rw [hw]; exact S21.out.drewN q22
  have OM22 : Hid (Owb w22 BM (.slice am m.length cm) m') := by rw [hw]; exact OM21.out
  have RS22 : Hid (Rd w22 aSg s') := by rw [hw]; exact RS21.out
  clear CS hw S21 OM21 RS21
  have CS := still_true _ g4 k4 cs aSg s' w22 S22.out.l4 RS22.out (by rw [Hs'.out]; omega)
  rw [Hs'.out] at CS
  go_wp2_with fail
  refine (CS).mono ?_
  rintro x w23 ⟨rfl, q23, hw⟩
  have S23 : Hid (VS W w23 g1 k1 g2 k2 g3 k3 g4 k4 n e m' s') := by rw [hw]; exact S22.out.drewN q23
  have OM23 : Hid (Owb w23 BM (.slice am m.length cm) m') := by rw [hw]; exact OM22.out
  have RS23 : Hid (Rd w23 aSg s') := by rw [hw]; exact RS22.out
  clear CS hw S22 OM22 RS22
  have HZ : Hid (Below W.heap.size W w23) := S23.out.bel
  go_wp2
  go_ret
  exact ⟨rfl, HZ.out⟩

end Go.Proofs.YtefpjjonmoofpaaDoor
