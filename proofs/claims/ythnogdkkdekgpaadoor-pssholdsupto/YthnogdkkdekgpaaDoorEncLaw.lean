import Derived.Test.YthnogdkkdekgpaaDoorRC
namespace Go.Proofs.YthnogdkkdekgpaaDoor
open Go.RowKit

/-- Two rooms, since a world. -/
structure R2 (W w : World) (g1 g2 : Nat) (d s : List UInt8) : Prop where
  bel : Below W.heap.size W w
  m1 : Rm w g1 d
  m2 : Rm w g2 s
  o1 : W.heap.size ≤ g1
  o2 : g1 < g2
theorem R2.below {W w w' : World} {g1 g2 : Nat} {d s : List UInt8} (h : R2 W w g1 g2 d s) (hb : Below w.heap.size w w') : R2 W w' g1 g2 d s :=
  ⟨h.bel.trans (hb.mono h.bel.size), h.m1.below hb (Nat.le_refl _), h.m2.below hb (Nat.le_refl _), h.o1, h.o2⟩
theorem R2.drewN {W w : World} {g1 g2 : Nat} {d s : List UInt8} (h : R2 W w g1 g2 d s) (q : Nat) : R2 W (w.drewN q) g1 g2 d s := ⟨below_drewN h.bel q, h.m1, h.m2, h.o1, h.o2⟩
theorem R2.turn1 {W w w' : World} {g1 g2 : Nat} {d s d' : List UInt8} (h : R2 W w g1 g2 d s) (hb : But w w' g1) (hl : Rm w' g1 d') : R2 W w' g1 g2 d' s :=
  ⟨h.bel.trans (hb.below h.bel.size h.o1), hl, h.m2.but hb (by have := h.o2; omega), h.o1, h.o2⟩
theorem R2.turn2 {W w w' : World} {g1 g2 : Nat} {d s s' : List UInt8} (h : R2 W w g1 g2 d s) (hb : But w w' g2) (hl : Rm w' g2 s') : R2 W w' g1 g2 d s' :=
  ⟨h.bel.trans (hb.below h.bel.size (by have := h.o1; have := h.o2; omega)), h.m1.but hb (by have := h.o2; omega), hl, h.o1, h.o2⟩
theorem pencV_len (h : Int) (d s : List UInt8) (bits : Int) : (pencV h d s bits).length ≤ 65536 := by
  unfold pencV
  split
  · rename_i hp
    obtain ⟨h1, _, h3, _, h5⟩ := pcode_ok hp
    rw [encF_length h d s _ (isHB_pos h1) h5]
    unfold wid
    omega
  · simp

set_option maxRecDepth 100000 in
set_option maxHeartbeats 8000000 in
theorem encs_core (h : Int) (a1 a2 : Option Addr) (c1 c2 : Nat) (d s : List UInt8) (bits : Int) (W : World) (T : Sha.Tb W) (R : Sha.Rt W) (r1 : Rd W a1 d) (r2 : Rd W a2 s) (n1 : a1 = none → c1 = 0) (n2 : a2 = none → c2 = 0) (k1 : d.length ≤ c1) (k2 : s.length ≤ c2) (l1 : d.length ≤ 2000000) (l2 : s.length ≤ 2000000) :
    Calls Tryd.prog 7 #[.int .i64 h, .slice a1 d.length c1, .slice a2 s.length c2, .int .i64 bits] W fun x w' => x = .returned (.bool true) ∧ Below W.heap.size W w' := by
  have HT : Hid (Sha.Tb W) := T
  have HR : Hid (Sha.Rt W) := R
  have H1 : Hid (Rd W a1 d) := r1
  have H2 : Hid (Rd W a2 s) := r2
  have N1 : Hid (a1 = none → d.length = 0 ∧ c1 = 0) := fun e => by have := n1 e; omega
  have N2 : Hid (a2 = none → s.length = 0 ∧ c2 = 0) := fun e => by have := n2 e; omega
  obtain ⟨e, He⟩ : ∃ e, Hid (pcode h d.length s.length bits = e) := ⟨_, rfl⟩
  have HP : Hid (∀ (w : World) (g1 g2 : Nat) (d' s' : List UInt8), R2 W w g1 g2 d' s' → d'.length = d.length → s'.length = s.length → Calls Tryd.prog 16 #[.int .i64 h, .slice (some ⟨g1, 0, none⟩) d.length (d.length + 9), .slice (some ⟨g2, 0, none⟩) s.length (s.length + 9), .int .i64 bits] w fun x w' => ∃ a' c', x = .returned (.tuple #[.slice a' (pencV h d' s' bits).length c', .int .i64 e]) ∧ Rd w' a' (pencV h d' s' bits) ∧ Below w.heap.size w w') := fun w g1 g2 d' s' hS hd hs => by
    have := pencode_any h (some ⟨g1, 0, none⟩) (some ⟨g2, 0, none⟩) (d.length + 9) (s.length + 9) d' s' bits w (HT.out.below hS.bel) hS.m1.rd hS.m2.rd (by omega) (by omega) (by omega) (by omega) (by omega) (by omega)
    rw [hd, hs, He.out] at this
    refine this.mono ?_
    rintro x w' ⟨r, rfl, ho⟩
    obtain ⟨a', c', er, _, hr⟩ := ho.own.nb
    exact ⟨a', c', by rw [er], hr, ho.bel⟩
  have HD : Hid (∀ (w : World) (b1 b2 : Option Addr) (z1 z2 : Nat) (d' s' : List UInt8), Below W.heap.size W w → Rd w b1 d' → Rd w b2 s' → d'.length = d.length → s'.length = s.length → (b1 = none → d.length = 0 ∧ z1 = 0) → (b2 = none → s.length = 0 ∧ z2 = 0) → Calls Tryd.prog 23 #[.int .i64 h, .slice b1 d.length z1, .slice b2 s.length z2, .int .i64 bits] w fun x w' => ∃ a' c', x = .returned (.tuple #[.slice a' (pencV h d' s' bits).length c', .int .i64 e]) ∧ Rd w' a' (pencV h d' s' bits) ∧ Below w.heap.size w w') := fun w b1 b2 z1 z2 d' s' hb hr1 hr2 hd hs hn1 hn2 => by
    have := rpencode_any h b1 b2 z1 z2 d' s' bits w (RtB HR.out hb (Nat.le_refl _)) hr1 hr2 (by rw [hd]; exact hn1) (by rw [hs]; exact hn2) (by omega) (by omega)
    rw [hd, hs, He.out] at this
    refine this.mono ?_
    rintro x w' ⟨r, rfl, ho⟩
    obtain ⟨a', c', er, _, hr⟩ := ho.own.nb
    exact ⟨a', c', by rw [er], hr, ho.bel⟩
  have C1 := proomy_any a1 c1 d W r1 (by omega)
  clear T R r1 r2 n1 n2
  go_enter Tryd.func7, Tryd.ntmps7
  go_wp2_with fail
  refine C1.mono ?_
  rintro x w1 ⟨rfl, hR1, hb1⟩
  clear C1
  have HR1 : Hid (Rm w1 W.heap.size d) := hR1
  have B1 : Hid (Below W.heap.size W w1) := hb1
  have C2 := proomy_any a2 c2 s w1 (H2.out.below hb1 (Nat.le_refl _)) (by omega)
  clear hR1 hb1
  go_wp2_with fail
  refine C2.mono ?_
  rintro x w2 ⟨rfl, hR2, hb2⟩
  clear C2
  obtain ⟨g1, hg1⟩ : ∃ g, W.heap.size = g := ⟨_, rfl⟩
  obtain ⟨g2, hg2⟩ : ∃ g, w1.heap.size = g := ⟨_, rfl⟩
  have S2 : Hid (R2 W w2 g1 g2 d s) := ⟨B1.out.trans (hb2.mono B1.out.size), by rw [← hg1]; exact HR1.out.below hb2 (Nat.le_refl _), by rw [← hg2]; exact hR2, by omega, by rw [← hg1, ← hg2]; exact Bl.lt HR1.out⟩
  have C3 := HP.out w2 g1 g2 d s S2.out rfl rfl
  rw [hg1, hg2]
  clear hg1 hg2 hR2 hb2 HR1 B1
  go_wp2_with fail
  refine C3.mono ?_
  rintro x w3 ⟨a3, c3, rfl, hr3, hb3⟩
  clear C3
  have S3 : Hid (R2 W w3 g1 g2 d s) := S2.out.below hb3
  have Hr3 : Hid (Rd w3 a3 (pencV h d s bits)) := hr3
  have C4 := HD.out w3 a1 a2 c1 c2 d s S3.out.bel (H1.out.below S3.out.bel (Nat.le_refl _)) (H2.out.below S3.out.bel (Nat.le_refl _)) rfl rfl N1.out N2.out
  clear hr3 hb3 S2
  go_wp2_with fail
  refine C4.mono ?_
  rintro x w4 ⟨a4, c4, rfl, hr4, hb4⟩
  clear C4
  have S4 : Hid (R2 W w4 g1 g2 d s) := S3.out.below hb4
  have C5 := psame_any a3 a4 c3 c4 _ _ w4 (Hr3.out.below hb4 (Nat.le_refl _)) hr4 (by have := pencV_len h d s bits; omega)
  rw [decide_eq_true rfl] at C5
  generalize (pencV h d s bits).length = z1 at *
  clear hr4 hb4 S3 Hr3
  go_wp2_with fail
  refine C5.mono ?_
  rintro x w5 ⟨rfl, q5, hw5⟩
  clear C5
  have S5 : Hid (R2 W w5 g1 g2 d s) := by rw [hw5]; exact S4.out.drewN q5
  have C6 := pspared_any g1 c1 d.length a1 d w5 rfl S5.out.m1 (H1.out.below S5.out.bel (Nat.le_refl _)) (by omega)
  clear hw5 S4
  go_wp2_with fail
  refine C6.mono ?_
  rintro x w6 ⟨rfl, q6, hw6⟩
  clear C6
  have S6 : Hid (R2 W w6 g1 g2 d s) := by rw [hw6]; exact S5.out.drewN q6
  have C7 := pspared_any g2 c2 s.length a2 s w6 rfl S6.out.m2 (H2.out.below S6.out.bel (Nat.le_refl _)) (by omega)
  clear hw6 S5
  go_wp2_with fail
  refine C7.mono ?_
  rintro x w7 ⟨rfl, q7, hw7⟩
  clear C7
  have S7 : Hid (R2 W w7 g1 g2 d s) := by rw [hw7]; exact S6.out.drewN q7
  have C8 := pturn_any g1 (d.length + 9) d w7 S7.out.m1 (by omega)
  clear hw7 S6
  go_wp2_with fail
  refine C8.mono ?_
  rintro x w8 ⟨rfl, hR8, hb8⟩
  clear C8
  have S8 : Hid (R2 W w8 g1 g2 (d.map trn) s) := S7.out.turn1 hb8 hR8
  have C9 := pturn_any g2 (s.length + 9) s w8 S8.out.m2 (by omega)
  clear hR8 hb8 S7
  go_wp2_with fail
  refine C9.mono ?_
  rintro x w9 ⟨rfl, hR9, hb9⟩
  clear C9
  have S9 : Hid (R2 W w9 g1 g2 (d.map trn) (s.map trn)) := S8.out.turn2 hb9 hR9
  have hd9 : (d.map trn).length = d.length := by simp
  have hs9 : (s.map trn).length = s.length := by simp
  clear hR9 hb9 S8
  generalize d.map trn = d2 at *
  generalize s.map trn = s2 at *
  have C10 := HD.out w9 (some ⟨g1, 0, none⟩) (some ⟨g2, 0, none⟩) (d.length + 9) (s.length + 9) d2 s2 S9.out.bel S9.out.m1.rd S9.out.m2.rd hd9 hs9 (fun e => by cases e) (fun e => by cases e)
  go_wp2_with fail
  refine C10.mono ?_
  rintro x w10 ⟨a10, c10, rfl, hr10, hb10⟩
  clear C10
  have S10 : Hid (R2 W w10 g1 g2 d2 s2) := S9.out.below hb10
  have Hr10 : Hid (Rd w10 a10 (pencV h d2 s2 bits)) := hr10
  have C11 := HP.out w10 g1 g2 d2 s2 S10.out hd9 hs9
  clear hr10 hb10 S9
  go_wp2_with fail
  refine C11.mono ?_
  rintro x w11 ⟨a11, c11, rfl, hr11, hb11⟩
  clear C11
  have S11 : Hid (R2 W w11 g1 g2 d2 s2) := S10.out.below hb11
  have C12 := psame_any a11 a10 c11 c10 _ _ w11 hr11 (Hr10.out.below hb11 (Nat.le_refl _)) (by have := pencV_len h d2 s2 bits; omega)
  rw [decide_eq_true rfl] at C12
  generalize (pencV h d2 s2 bits).length = z2 at *
  clear hr11 hb11 Hr10 S10
  have d0 : (e == e) = true := by simp
  go_wp2_with fail
  refine C12.mono ?_
  rintro x w12 ⟨rfl, q12, hw12⟩
  clear C12
  have S12 : Hid (Below W.heap.size W w12) := by rw [hw12]; exact below_drewN S11.out.bel q12
  clear hw12
  go_wp2
  go_ret
  exact ⟨rfl, S12.out⟩

end Go.Proofs.YthnogdkkdekgpaaDoor
