import Derived.Test.YtefpjjonmoofpaaStill
import Derived.Test.YtefpjjonmoofpaaTurn
import Derived.Test.YtefpjjonmoofpaaRekey
import Derived.Test.YtefpjjonmoofpaaRKey
namespace Go.Proofs.Ytefpjjonmoofpaa
open Go.RowKit

/-- Two lent lists, since a world. -/
structure KS (W w : World) (g1 k1 g2 k2 : Nat) (x y : List UInt8) : Prop where
  bel : Below W.heap.size W w
  l1 : Ln w W.heap.size g1 k1 x
  l2 : Ln w W.heap.size g2 k2 y
  ne : g1 ≠ g2
theorem KS.below {W w w' : World} {g1 k1 g2 k2 : Nat} {x y : List UInt8} (h : KS W w g1 k1 g2 k2 x y) (hb : Below w.heap.size w w') : KS W w' g1 k1 g2 k2 x y :=
  ⟨h.bel.trans (hb.mono h.bel.size), h.l1.below hb (Nat.le_refl _), h.l2.below hb (Nat.le_refl _), h.ne⟩
theorem KS.drewN {W w : World} {g1 k1 g2 k2 : Nat} {x y : List UInt8} (h : KS W w g1 k1 g2 k2 x y) (q : Nat) : KS W (w.drewN q) g1 k1 g2 k2 x y := ⟨below_drewN h.bel q, h.l1, h.l2, h.ne⟩
theorem KS.turn1 {W w w' : World} {g1 k1 g2 k2 : Nat} {x y x' : List UInt8} (h : KS W w g1 k1 g2 k2 x y) (hb : But w w' g1) (hl : Ln w' W.heap.size g1 k1 x') : KS W w' g1 k1 g2 k2 x' y :=
  ⟨h.bel.trans (hb.below h.bel.size h.l1.parts.1), hl, h.l2.but hb (fun e => h.ne e.symm), h.ne⟩
theorem KS.turn2 {W w w' : World} {g1 k1 g2 k2 : Nat} {x y y' : List UInt8} (h : KS W w g1 k1 g2 k2 x y) (hb : But w w' g2) (hl : Ln w' W.heap.size g2 k2 y') : KS W w' g1 k1 g2 k2 x y' :=
  ⟨h.bel.trans (hb.below h.bel.size h.l2.parts.1), h.l1.but hb h.ne, hl, h.ne⟩
theorem KS.mk' {W w1 w2 : World} {g1 k1 g2 k2 : Nat} {x y : List UInt8} (h1 : Ln w1 W.heap.size g1 k1 x) (b1 : Below W.heap.size W w1) (h2 : Ln w2 w1.heap.size g2 k2 y) (b2 : Below w1.heap.size w1 w2) : KS W w2 g1 k1 g2 k2 x y := by
  have := h1.parts.2.1
  have := h2.parts.1
  exact ⟨b1.trans (b2.mono b1.size), h1.below b2 (Nat.le_refl _), Owb.base h2 b1.size, by omega⟩

set_option maxHeartbeats 4000000 in
theorem keys_core (a0 a1 : Option Addr) (c0 c1 : Nat) (n e : List UInt8) (W : World) (h0 : Rd W a0 n) (h1 : Rd W a1 e) (n0 : a0 = none → c0 = 0) (n1 : a1 = none → c1 = 0) (m0 : n.length ≤ c0) (m1 : e.length ≤ c1) (l0 : n.length ≤ 2000000) (l1 : e.length ≤ 2000000) :
    Calls Try.prog 3 #[.slice a0 n.length c0, .slice a1 e.length c1] W fun x w' => x = .returned (.bool true) ∧ Below W.heap.size W w' := by
  have H0 : Hid (Rd W a0 n) := h0
  have H1 : Hid (Rd W a1 e) := h1
  have C1 := lent_any a0 c0 n W h0 (fun h => by have := n0 h; omega) (by omega)
  have N1 : Hid (a1 = none → e.length = 0 ∧ c1 = 0) := fun h => by have := n1 h; omega
  clear h0 h1 n0 n1 m0 m1
  go_enter Try.func3, Try.ntmps3
  go_wp2_with fail
  refine C1.mono ?_
  rintro x w1 ⟨g1, k1, rfl, hL1, hb1⟩
  clear C1
  have C2 := lent_any a1 c1 e w1 (H1.out.below hb1 (Nat.le_refl _)) N1.out (by omega)
  have HL1 : Hid (Ln w1 W.heap.size g1 k1 n) := hL1
  have HB1 : Hid (Below W.heap.size W w1) := hb1
  clear hL1 hb1
  go_wp2_with fail
  refine C2.mono ?_
  rintro x w2 ⟨g2, k2, rfl, hL2, hb2⟩
  clear C2
  have K2 : Hid (KS W w2 g1 k1 g2 k2 n e) := KS.mk' HL1.out HB1.out hL2 hb2
  clear HL1 HB1 hL2 hb2 N1
  have C3 := key_any _ _ k1 k2 n e w2 K2.out.l1.rd K2.out.l2.rd (by omega) (by omega)
  go_wp2_with fail
  refine C3.mono ?_
  rintro x w' ⟨rfl, rfl⟩
  clear C3
  have C4 := rkey_any a0 a1 c0 c1 n e w' (H0.out.below K2.out.bel (Nat.le_refl _)) (H1.out.below K2.out.bel (Nat.le_refl _)) (by omega) (by omega)
  go_wp2_with fail
  refine C4.mono ?_
  rintro x w3 ⟨rfl, hb3⟩
  clear C4
  have K3 : Hid (KS W w3 g1 k1 g2 k2 n e) := K2.out.below hb3
  clear hb3 K2
  have C5 := still_true _ g1 k1 c0 a0 n w3 K3.out.l1 (H0.out.below K3.out.bel (Nat.le_refl _)) (by omega)
  have d1 : (keyC n e != keyC n e) = false := by simp
  generalize keyC n e = kc at *
  go_wp2_with fail
  refine C5.mono ?_
  rintro x w4 ⟨rfl, q4, hw4⟩
  clear C5
  have K4 : Hid (KS W w4 g1 k1 g2 k2 n e) := by rw [hw4]; exact K3.out.drewN q4
  clear hw4 K3
  have C6 := still_true _ g2 k2 c1 a1 e w4 K4.out.l2 (H1.out.below K4.out.bel (Nat.le_refl _)) (by omega)
  go_wp2_with fail
  refine C6.mono ?_
  rintro x w5 ⟨rfl, q5, hw5⟩
  clear C6
  have K5 : Hid (KS W w5 g1 k1 g2 k2 n e) := by rw [hw5]; exact K4.out.drewN q5
  clear hw5 K4 d1
  have C7 := turned_any _ g1 k1 n w5 K5.out.l1 (by omega)
  go_wp2_with fail
  refine C7.mono ?_
  rintro x w6 ⟨rfl, ⟨n', hn', hL6⟩, hbut6⟩
  clear C7
  have K6 : Hid (KS W w6 g1 k1 g2 k2 n' e) := K5.out.turn1 hbut6 hL6
  clear hL6 hbut6 K5
  have C8 := turned_any _ g2 k2 e w6 K6.out.l2 (by omega)
  go_wp2_with fail
  refine C8.mono ?_
  rintro x w7 ⟨rfl, ⟨e', he', hL7⟩, hbut7⟩
  clear C8
  have K7 : Hid (KS W w7 g1 k1 g2 k2 n' e') := K6.out.turn2 hbut7 hL7
  clear hL7 hbut7 K6 H0 H1
  rw [← hn', ← he']
  rw [← hn'] at l0
  rw [← he'] at l1
  clear hn' he'
  have HN0 : Hid (Owb w7 w7.heap.size (.slice none 0 0) []) := Owb.nil _ _
  go_wp2_with (at_builtin; first | (refine append_rdb rfl (.tmp 39) (.tmp 40) rfl w7.heap.size _ [] rfl HN0.out (some ⟨g1, 0, none⟩) n'.length k1 n' rfl rfl (fun e => by cases e) K7.out.l1.rd (by rw [List.length_nil]; omega) (Nat.le_refl _) ?_; intro u w8 h5 h6) | (refine append_rdb rfl (.tmp 42) (.tmp 43) rfl w8.heap.size _ [] rfl (Owb.nil _ _) (some ⟨g2, 0, none⟩) e'.length k2 e' rfl rfl (fun e => by cases e) (K7.out.below ((Below.refl _ _).grown h6 (Nat.le_refl _) (fun k h => by cases h))).l2.rd (by rw [List.length_nil]; omega) (Nat.le_refl _) ?_; intro v w9 h7 h8))
  have hb8 : Below w7.heap.size w7 w8 := (Below.refl _ _).grown h6 (Nat.le_refl _) (fun k h => by cases h)
  have hb9 : Below w8.heap.size w8 w9 := (Below.refl _ _).grown h8 (Nat.le_refl _) (fun k h => by cases h)
  have K9 : Hid (KS W w9 g1 k1 g2 k2 n' e') := (K7.out.below hb8).below hb9
  have HU : Owb w8 w7.heap.size u n' := h5
  obtain ⟨au, cu, eu, hu⟩ : ∃ a c, u = .slice a n'.length c ∧ Rd w8 a n' := by obtain ⟨a, c, e, _, h⟩ := HU.nb; exact ⟨a, c, e, h⟩
  subst eu
  have HU9 : Hid (Rd w9 au n') := hu.below hb9 (Nat.le_refl _)
  have HV : Owb w9 w8.heap.size v e' := h7
  obtain ⟨av, cv, ev, hv⟩ : ∃ a c, v = .slice a e'.length c ∧ Hid (Rd w9 a e') := by obtain ⟨a, c, e, _, h⟩ := HV.nb; exact ⟨a, c, e, h⟩
  subst ev
  clear h5 h6 h7 h8 hb8 hb9 HN0 K7 hu HU HV
  have C9 := key_any _ _ k1 k2 n' e' w9 K9.out.l1.rd K9.out.l2.rd (by omega) (by omega)
  go_wp2_with fail
  refine C9.mono ?_
  rintro x w' ⟨rfl, rfl⟩
  clear C9
  have C10 := rkey_any au av cu cv n' e' w' HU9.out hv.out (by omega) (by omega)
  go_wp2_with fail
  refine C10.mono ?_
  rintro x w10 ⟨rfl, hb10⟩
  clear C10
  have K10 : Hid (KS W w10 g1 k1 g2 k2 n' e') := K9.out.below hb10
  have HU10 : Hid (Rd w10 au n') := HU9.out.below hb10 (Nat.le_refl _)
  have HV10 : Hid (Rd w10 av e') := hv.out.below hb10 (Nat.le_refl _)
  clear hb10 K9 HU9 hv
  have C11 := still_true _ g1 k1 cu au n' w10 K10.out.l1 HU10.out (by omega)
  have d2 : (keyC n' e' == keyC n' e') = true := by simp
  generalize keyC n' e' = kd at *
  go_wp2_with fail
  refine C11.mono ?_
  rintro x w11 ⟨rfl, q11, hw11⟩
  clear C11
  have K11 : Hid (KS W w11 g1 k1 g2 k2 n' e') := by rw [hw11]; exact K10.out.drewN q11
  have HV11 : Hid (Rd w11 av e') := by rw [hw11]; exact HV10.out
  clear hw11 K10 HU10 HV10
  have C12 := still_true _ g2 k2 cv av e' w11 K11.out.l2 HV11.out (by omega)
  go_wp2_with fail
  refine C12.mono ?_
  rintro x w12 ⟨rfl, q12, hw12⟩
  clear C12
  have K12 : Hid (KS W w12 g1 k1 g2 k2 n' e') := by rw [hw12]; exact K11.out.drewN q12
  clear hw12 K11 HV11
  have C13 := rekeyed_any w12
  go_wp2_with fail
  refine C13.mono ?_
  rintro x w13 ⟨rfl, hb13⟩
  clear C13
  have HZ : Hid (Below W.heap.size W w13) := (K12.out.below hb13).bel
  clear hb13 K12
  go_wp2
  go_ret
  exact ⟨rfl, HZ.out⟩

end Go.Proofs.Ytefpjjonmoofpaa
