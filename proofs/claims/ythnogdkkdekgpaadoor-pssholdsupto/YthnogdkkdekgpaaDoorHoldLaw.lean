import Derived.Test.YthnogdkkdekgpaaDoorRD
import Derived.Test.YthnogdkkdekgpaaDoorEncLaw
namespace Go.Proofs.YthnogdkkdekgpaaDoor
open Go.RowKit

theorem trn_trn (x : UInt8) : trn (trn x) = x := by
  apply UInt8.toNat_inj.1
  have h1 := trn_nat (trn x)
  have h2 := trn_nat x
  omega
theorem map_trn2 (l : List UInt8) : (l.map trn).map trn = l := by
  rw [List.map_map]
  have : (trn ∘ trn) = id := by funext x; exact trn_trn x
  rw [this, List.map_id]

set_option maxRecDepth 100000 in
set_option maxHeartbeats 8000000 in
theorem holds_core (h : Int) (a1 a2 : Option Addr) (c1 c2 : Nat) (d s : List UInt8) (bits : Int) (W : World) (T : Sha.Tb W) (R : Sha.Rt W) (r1 : Rd W a1 d) (r2 : Rd W a2 s) (n1 : a1 = none → c1 = 0) (k1 : d.length ≤ c1) (k2 : s.length ≤ c2) (k2' : c2 ≤ 9223372036854775807) (l1 : d.length ≤ 2000000) (l2 : s.length ≤ 2000000) :
    Calls Tryd.prog 8 #[.int .i64 h, .slice a1 d.length c1, .slice a2 s.length c2, .int .i64 bits] W fun x w' => x = .returned (.bool true) ∧ Below W.heap.size W w' := by
  have HT : Hid (Sha.Tb W) := T
  have HR : Hid (Sha.Rt W) := R
  have H1 : Hid (Rd W a1 d) := r1
  have H2 : Hid (Rd W a2 s) := r2
  have N1 : Hid (a1 = none → d.length = 0 ∧ c1 = 0) := fun e => by have := n1 e; omega
  have HP : Hid (∀ (w : World) (g1 g2 : Nat) (d' s' : List UInt8), R2 W w g1 g2 d' s' → d'.length = d.length → s'.length = s.length → Calls Tryd.prog 18 #[.int .i64 h, .slice (some ⟨g1, 0, none⟩) d.length (d.length + 9), .slice (some ⟨g2, 0, none⟩) s.length (s.length + 9), .int .i64 bits] w fun x w' => x = .returned (.bool (holdsV h d' s' bits)) ∧ Below w.heap.size w w') := fun w g1 g2 d' s' hS hd hs => by
    have := pholds_any h (some ⟨g1, 0, none⟩) (some ⟨g2, 0, none⟩) (d.length + 9) (s.length + 9) d' s' bits w (HT.out.below hS.bel) hS.m1.rd hS.m2.rd (by omega) (by omega) (by omega) (by omega) (by omega) (by omega)
    rwa [hd, hs] at this
  have HD : Hid (∀ (w : World) (b1 b2 : Option Addr) (z1 z2 : Nat) (d' s' : List UInt8), Below W.heap.size W w → Rd w b1 d' → Rd w b2 s' → d'.length = d.length → s'.length = s.length → (b1 = none → d.length = 0 ∧ z1 = 0) → s.length ≤ z2 → z2 ≤ 9223372036854775807 → Calls Tryd.prog 25 #[.int .i64 h, .slice b1 d.length z1, .slice b2 s.length z2, .int .i64 bits] w fun x w' => x = .returned (.bool (holdsV h d' s' bits)) ∧ Below w.heap.size w w') := fun w b1 b2 z1 z2 d' s' hb hr1 hr2 hd hs hn1 hz hz' => by
    have := rholds_any h b1 b2 z1 z2 d' s' bits w (RtB HR.out hb (Nat.le_refl _)) hr1 hr2 (by rw [hd]; exact hn1) (by omega) hz' (by omega) (by omega)
    rwa [hd, hs] at this
  have C1 := proomy_any a1 c1 d W r1 (by omega)
  clear T R r1 r2 n1
  go_enter Tryd.func8, Tryd.ntmps8
  go_wp2_with fail
  refine C1.mono ?_
  rintro x w1 ⟨rfl, hR1, hb1⟩
  clear C1
  have HR1 : Hid (Rm w1 W.heap.size d) := hR1
  have B1 : Hid (Below W.heap.size W w1) := hb1
  have C2 := proomy_any a2 c2 s w1 (H2.out.below hb1 (Nat.le_refl _)) (by omega)
  clear hR1 hb1
  go_wp2_with fail
  refine C2.mono ?_
  rintro x w2 ⟨rfl, hR2, hb2⟩
  clear C2
  obtain ⟨g1, hg1⟩ : ∃ g, W.heap.size = g := ⟨_, rfl⟩
  obtain ⟨g2, hg2⟩ : ∃ g, w1.heap.size = g := ⟨_, rfl⟩
  have S2 : Hid (R2 W w2 g1 g2 d s) := ⟨B1.out.trans (hb2.mono B1.out.size), by rw [← hg1]; exact HR1.out.below hb2 (Nat.le_refl _), by rw [← hg2]; exact hR2, by omega, by rw [← hg1, ← hg2]; exact Bl.lt HR1.out⟩
  have C3 := HP.out w2 g1 g2 d s S2.out rfl rfl
  rw [hg1, hg2]
  clear hg1 hg2 hR2 hb2 HR1 B1
  obtain ⟨v1, Hv1⟩ : ∃ v, Hid (holdsV h d s bits = v) := ⟨_, rfl⟩
  rw [Hv1.out] at C3
  go_wp2_with fail
  refine C3.mono ?_
  rintro x w3 ⟨rfl, hb3⟩
  clear C3
  have S3 : Hid (R2 W w3 g1 g2 d s) := S2.out.below hb3
  have C4 := HD.out w3 a1 a2 c1 c2 d s S3.out.bel (H1.out.below S3.out.bel (Nat.le_refl _)) (H2.out.below S3.out.bel (Nat.le_refl _)) rfl rfl N1.out k2 k2'
  rw [Hv1.out] at C4
  clear hb3 S2
  have dv1 : (v1 != v1) = false := by simp
  go_wp2_with fail
  refine C4.mono ?_
  rintro x w4 ⟨rfl, hb4⟩
  clear C4
  have S4 : Hid (R2 W w4 g1 g2 d s) := S3.out.below hb4
  have C6 := pspared_any g1 c1 d.length a1 d w4 rfl S4.out.m1 (H1.out.below S4.out.bel (Nat.le_refl _)) (by omega)
  clear hb4 S3
  go_wp2_with fail
  refine C6.mono ?_
  rintro x w6 ⟨rfl, q6, hw6⟩
  clear C6
  have S6 : Hid (R2 W w6 g1 g2 d s) := by rw [hw6]; exact S4.out.drewN q6
  have C7 := pspared_any g2 c2 s.length a2 s w6 rfl S6.out.m2 (H2.out.below S6.out.bel (Nat.le_refl _)) (by omega)
  clear hw6 S4
  go_wp2_with fail
  refine C7.mono ?_
  rintro x w7 ⟨rfl, q7, hw7⟩
  clear C7 dv1
  have S7 : Hid (R2 W w7 g1 g2 d s) := by rw [hw7]; exact S6.out.drewN q7
  have C8 := pturn_any g1 (d.length + 9) d w7 S7.out.m1 (by omega)
  clear hw7 S6
  go_wp2_with fail
  refine C8.mono ?_
  rintro x w8 ⟨rfl, hR8, hb8⟩
  clear C8
  have S8 : Hid (R2 W w8 g1 g2 (d.map trn) s) := S7.out.turn1 hb8 hR8
  have hd8 : (d.map trn).length = d.length := by simp
  clear hR8 hb8 S7
  have C9 := HD.out w8 (some ⟨g1, 0, none⟩) a2 (d.length + 9) c2 (d.map trn) s S8.out.bel S8.out.m1.rd (H2.out.below S8.out.bel (Nat.le_refl _)) hd8 rfl (fun e => by cases e) k2 k2'
  obtain ⟨v2, Hv2⟩ : ∃ v, Hid (holdsV h (d.map trn) s bits = v) := ⟨_, rfl⟩
  rw [Hv2.out] at C9
  go_wp2_with fail
  refine C9.mono ?_
  rintro x w9 ⟨rfl, hb9⟩
  clear C9
  have S9 : Hid (R2 W w9 g1 g2 (d.map trn) s) := S8.out.below hb9
  have C10 := HP.out w9 g1 g2 (d.map trn) s S9.out hd8 rfl
  rw [Hv2.out] at C10
  clear hb9 S8
  have dv2 : (v2 != v2) = false := by simp
  go_wp2_with fail
  refine C10.mono ?_
  rintro x w10 ⟨rfl, hb10⟩
  clear C10
  have S10 : Hid (R2 W w10 g1 g2 (d.map trn) s) := S9.out.below hb10
  have C11 := pturn_any g1 (d.length + 9) (d.map trn) w10 S10.out.m1 (by rw [hd8]; omega)
  rw [hd8, map_trn2] at C11
  clear hb10 S9 hd8
  go_wp2_with fail
  refine C11.mono ?_
  rintro x w11 ⟨rfl, hR11, hb11⟩
  clear C11 dv2
  have S11 : Hid (R2 W w11 g1 g2 d s) := S10.out.turn1 hb11 hR11
  have C12 := pturn_any g2 (s.length + 9) s w11 S11.out.m2 (by omega)
  clear hR11 hb11 S10
  go_wp2_with fail
  refine C12.mono ?_
  rintro x w12 ⟨rfl, hR12, hb12⟩
  clear C12
  have S12 : Hid (R2 W w12 g1 g2 d (s.map trn)) := S11.out.turn2 hb12 hR12
  have hs12 : (s.map trn).length = s.length := by simp
  clear hR12 hb12 S11
  have C13 := HD.out w12 a1 (some ⟨g2, 0, none⟩) c1 (s.length + 9) d (s.map trn) S12.out.bel (H1.out.below S12.out.bel (Nat.le_refl _)) S12.out.m2.rd rfl hs12 N1.out (by omega) (by omega)
  obtain ⟨v3, Hv3⟩ : ∃ v, Hid (holdsV h d (s.map trn) bits = v) := ⟨_, rfl⟩
  rw [Hv3.out] at C13
  go_wp2_with fail
  refine C13.mono ?_
  rintro x w13 ⟨rfl, hb13⟩
  clear C13
  have S13 : Hid (R2 W w13 g1 g2 d (s.map trn)) := S12.out.below hb13
  have C14 := HP.out w13 g1 g2 d (s.map trn) S13.out rfl hs12
  rw [Hv3.out] at C14
  clear hb13 S12
  have dv3 : (v3 == v3) = true := by simp
  go_wp2_with fail
  refine C14.mono ?_
  rintro x w14 ⟨rfl, hb14⟩
  clear C14
  have S14 : Hid (Below W.heap.size W w14) := S13.out.bel.trans (hb14.mono S13.out.bel.size)
  clear hb14
  go_wp2
  go_ret
  exact ⟨rfl, S14.out⟩

end Go.Proofs.YthnogdkkdekgpaaDoor
