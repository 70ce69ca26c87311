import Derived.Test.YtghfoppojdkhkaaGreatDoorCB
import Derived.Test.YtghfoppojdkhkaaGreatDoorCO
import Derived.Deep.CutRange
namespace Go.Proofs.YtghfoppojdkhkaaGreatDoor
open Go.RowKit

set_option maxRecDepth 100000

theorem Kv.n0 {c s : Int} {p b n gx gy : Nat} (h : Kv c p b n gx gy s) : n ≠ 0 := by
  cases h
  · decide +kernel
  · decide +kernel
theorem Vl.shape {w : World} {v : Value} {V k : Nat} (h : Vl w v V k) : Sl3 v := by
  obtain ⟨xs, ⟨ao, c, e, _⟩, _⟩ := h
  exact ⟨_, _, _, e⟩
theorem Fm.row (w : World) (t : TypeId) (zs vs : List Value) (_h : zs.length = vs.length) : Fm w ((w.alloc (.cells zs.toArray t)).setRow w.heap.size vs.toArray) [(t, vs)] [] [] := by
  have hb := But.setRow (w.alloc (.cells zs.toArray t)) w.heap.size vs.toArray
  have ha := alloc_below w (.cells zs.toArray t)
  refine ⟨fun i hi => ?_, fun q hq => (by cases hq), fun q hq => (by cases hq), .nil, ?_, ha.trans (hb.below ha.size (Nat.le_refl _))⟩
  · obtain rfl : i = 0 := by simpa using hi
    exact setRow_heap _ _ _ _ _ _ (alloc_bl w zs t)
  · have := hb.size
    rw [World.size_alloc] at this
    simp only [List.length_singleton]
    omega
/-- A number in a row of one's own, other than the block x. -/
def Mq (w : World) (base x : Nat) (v : Value) (V : Nat) : Prop := Ow w base v (dg Bs V) ∧ (dg Bs V).length ≤ 3000000 ∧ V < pw 384 ∧ v.ownBlock ≠ some x
theorem Mq.mk {w : World} {base x : Nat} {v : Value} {V : Nat} (h : Mq w base x v V) : Mk w base v V 384 := ⟨h.1, h.2.1, h.2.2.1⟩
theorem Mq.nk {w : World} {base x : Nat} {v : Value} {V : Nat} (h : Mq w base x v V) : Nk w v V 384 := h.mk.nk
theorem Mq.below {w w' : World} {base x : Nat} {v : Value} {V : Nat} (h : Mq w base x v V) (hb : Below w.heap.size w w') : Mq w' base x v V := ⟨h.1.below hb (Nat.le_refl _), h.2⟩
theorem Mq.but {w w' : World} {base x : Nat} {v : Value} {V : Nat} (h : Mq w base x v V) (hb : But w w' x) : Mq w' base x v V := ⟨h.1.but' hb h.2.2.2, h.2⟩
section
variable {P : Program} {ops : Array Oper} {Q : Exit → Act → World → Prop} {md : Region.Mode} {S : World → Prop} {k : Nat}
/-- Where two may come up next: either. -/
theorem wpAnyK_two (i j : Nat) {oi oj : Oper} {ri rj : List Oper} {fuel : Nat} {listed : Array Bool} {a : Act} {w : World} (hi : ops.toList.drop i = oi :: ri) (hj : ops.toList.drop j = oj :: rj) (hr : Region.ready md ops listed = [i, j])
    (h1 : ∀ K' : Act → World → Prop, Shut (∀ a w, ((listed.setIfInBounds i true).getD k true = false → S w) → wpAnyK P md ops Q k S fuel (listed.setIfInBounds i true) a w → K' a w) → if Region.wanted oi (yielded ops a.tmps) = true then Oper.wp P oi a w K' Q else K' (a.put oi.dst undef) w)
    (h2 : ∀ K' : Act → World → Prop, Shut (∀ a w, ((listed.setIfInBounds j true).getD k true = false → S w) → wpAnyK P md ops Q k S fuel (listed.setIfInBounds j true) a w → K' a w) → if Region.wanted oj (yielded ops a.tmps) = true then Oper.wp P oj a w K' Q else K' (a.put oj.dst undef) w) :
    wpAnyK P md ops Q k S (fuel + 1) listed a w := by
  refine ⟨fun h0 => (by rw [hr] at h0; cases h0), fun l hl => ?_⟩
  rw [hr] at hl
  rcases List.mem_cons.1 hl with rfl | hl
  · exact wpOp_step (op_at hi) (fun K' hK => h1 K' (fun a w hS hW => hK a w ⟨hS, hW⟩))
  · obtain rfl : l = j := by simpa using hl
    exact wpOp_step (op_at hj) (fun K' hK => h2 K' (fun a w hS hW => hK a w ⟨hS, hW⟩))
end
theorem pw_pos (k : Nat) : 0 < pw k := Nat.pow_pos (by decide)
theorem Mq.none (w : World) (base x : Nat) : Mq w base x (.slice none 0 0) 0 := ⟨by rw [dg_zero]; exact Ow.nil w base, by rw [dg_zero]; exact Nat.zero_le _, pw_pos 384, fun e => by cases e⟩
theorem bl_div {V D : Nat} (h : bl V ≤ D) : V / 2 ^ D = 0 := by
  apply Nat.div_eq_of_lt
  rcases Nat.eq_zero_or_pos V with h0 | h0
  · subst h0; exact Nat.pow_pos (by decide)
  · exact Nat.lt_of_lt_of_le (bl_lt V) (Nat.pow_le_pow_right (by decide) h)
/-- A box of three cells written anew. -/
theorem Fm.put3 {w wN w' : World} {t : TypeId} {a b c : Value} (h : Fm w wN [(t, [a, b, c])] [] []) (x y z : Value) (hw : w' = ((wN.setCell ⟨w.heap.size, 0, none⟩ x).setCell ⟨w.heap.size, 1, none⟩ y).setCell ⟨w.heap.size, 2, none⟩ z) : Fm w w' [(t, [x, y, z])] [] [] := by
  subst hw
  have hb := (((But.refl wN w.heap.size).set 0 x).set 1 y).set 2 z
  refine ⟨fun i hi => ?_, fun q hq => (by cases hq), fun q hq => (by cases hq), .nil, Nat.le_trans h.sz hb.size, h.bel.trans (hb.below h.bel.size (Nat.le_refl _))⟩
  obtain rfl : i = 0 := by simpa using hi
  exact (((h.bx 0 (by simp)).set 0 x).set 1 y).set 2 z
section
variable {p b : Nat} (C : Cv p b)
include C
theorem Cv.four {P Q R S : Pt} (h1 : onP p b P) (h2 : onP p b Q) (h3 : onP p b R) (h4 : onP p b S) : sm p (sm p P Q) (sm p R S) = sm p (sm p P R) (sm p Q S) := by
  rw [C.ass h1 h2 (C.son h3 h4), ← C.ass h2 h3 h4, C.comm h2 h3, C.ass h3 h2 h4, ← C.ass h1 h3 (C.son h2 h4)]
theorem Cv.lad {P Q : Pt} (hP : onP p b P) (hQ : onP p b Q) (a c d e : Nat) : sm p (sm p (sm p (ml p a P) (ml p c Q)) (sm p (ml p a P) (ml p c Q))) (sm p (ml p d P) (ml p e Q)) = sm p (ml p (a + a + d) P) (ml p (c + c + e) Q) := by
  have m1 := fun k => C.mon hP k
  have m2 := fun k => C.mon hQ k
  rw [C.four (m1 a) (m2 c) (m1 a) (m2 c), ← C.madd hP, ← C.madd hQ, C.four (m1 _) (m2 _) (m1 _) (m2 _), ← C.madd hP, ← C.madd hQ]
omit C in
theorem half_eq (V j d : Nat) (hd : d < 2) (h : (V / 2 ^ j % 2 = 1) = (d = 1)) : V / 2 ^ (j + 1) + V / 2 ^ (j + 1) + d = V / 2 ^ j := by
  rw [Nat.pow_succ, ← Nat.div_div_eq_div_mul]
  have h1 := Nat.div_add_mod (V / 2 ^ j) 2
  have h2 := Nat.mod_lt (V / 2 ^ j) (show 0 < 2 by decide)
  have h3 : V / 2 ^ j % 2 = d := by
    rcases (show d = 0 ∨ d = 1 by omega) with rfl | rfl
    · have : ¬ V / 2 ^ j % 2 = 1 := by rw [h]; omega
      omega
    · rw [h]
  omega
theorem Cv.lad00 {P Q : Pt} {A B j : Nat} (hP : onP p b P) (hQ : onP p b Q) (ha : ¬ A / 2 ^ j % 2 = 1) (hc : ¬ B / 2 ^ j % 2 = 1) : sm p (sm p (sm p (ml p (A / 2 ^ (j + 1)) P) (ml p (B / 2 ^ (j + 1)) Q)) (sm p (ml p (A / 2 ^ (j + 1)) P) (ml p (B / 2 ^ (j + 1)) Q))) .O = sm p (ml p (A / 2 ^ j) P) (ml p (B / 2 ^ j) Q) := by
  have h := C.lad hP hQ (A / 2 ^ (j + 1)) (B / 2 ^ (j + 1)) 0 0
  rw [half_eq A j 0 (by omega) (by simp [ha]), half_eq B j 0 (by omega) (by simp [hc])] at h
  rw [← h, show sm p (ml p 0 P) (ml p 0 Q) = .O from C.zl (on_O (b := b))]
theorem Cv.lad10 {P Q : Pt} {A B j : Nat} (hP : onP p b P) (hQ : onP p b Q) (ha : A / 2 ^ j % 2 = 1) (hc : ¬ B / 2 ^ j % 2 = 1) : sm p (sm p (sm p (ml p (A / 2 ^ (j + 1)) P) (ml p (B / 2 ^ (j + 1)) Q)) (sm p (ml p (A / 2 ^ (j + 1)) P) (ml p (B / 2 ^ (j + 1)) Q))) P = sm p (ml p (A / 2 ^ j) P) (ml p (B / 2 ^ j) Q) := by
  have h := C.lad hP hQ (A / 2 ^ (j + 1)) (B / 2 ^ (j + 1)) 1 0
  rw [half_eq A j 1 (by omega) (by simp [ha]), half_eq B j 0 (by omega) (by simp [hc])] at h
  rw [← h, C.mone hP, show sm p P (ml p 0 Q) = P from C.zr hP]
theorem Cv.lad01 {P Q : Pt} {A B j : Nat} (hP : onP p b P) (hQ : onP p b Q) (ha : ¬ A / 2 ^ j % 2 = 1) (hc : B / 2 ^ j % 2 = 1) : sm p (sm p (sm p (ml p (A / 2 ^ (j + 1)) P) (ml p (B / 2 ^ (j + 1)) Q)) (sm p (ml p (A / 2 ^ (j + 1)) P) (ml p (B / 2 ^ (j + 1)) Q))) Q = sm p (ml p (A / 2 ^ j) P) (ml p (B / 2 ^ j) Q) := by
  have h := C.lad hP hQ (A / 2 ^ (j + 1)) (B / 2 ^ (j + 1)) 0 1
  rw [half_eq A j 0 (by omega) (by simp [ha]), half_eq B j 1 (by omega) (by simp [hc])] at h
  rw [← h, C.mone hQ, show sm p (ml p 0 P) Q = Q from C.zl hQ]
theorem Cv.lad11 {P Q : Pt} {A B j : Nat} (hP : onP p b P) (hQ : onP p b Q) (ha : A / 2 ^ j % 2 = 1) (hc : B / 2 ^ j % 2 = 1) : sm p (sm p (sm p (ml p (A / 2 ^ (j + 1)) P) (ml p (B / 2 ^ (j + 1)) Q)) (sm p (ml p (A / 2 ^ (j + 1)) P) (ml p (B / 2 ^ (j + 1)) Q))) (sm p P Q) = sm p (ml p (A / 2 ^ j) P) (ml p (B / 2 ^ j) Q) := by
  have h := C.lad hP hQ (A / 2 ^ (j + 1)) (B / 2 ^ (j + 1)) 1 1
  rw [half_eq A j 1 (by omega) (by simp [ha]), half_eq B j 1 (by omega) (by simp [hc])] at h
  rw [← h, C.mone hP, C.mone hQ]
end
theorem bl_pw {V : Nat} (h : V < pw 384) : bl V ≤ 384 := by
  rcases Nat.eq_zero_or_pos V with h0 | h0
  · subst h0; decide
  · have h1 := bl_le V (by omega)
    rcases Nat.lt_or_ge 384 (bl V) with h2 | h2
    · exfalso
      have h3 : pw 384 ≤ 2 ^ (bl V - 1) := pw_mono (m := bl V - 1) (by omega)
      omega
    · exact h2
set_option maxHeartbeats 20000000 in
theorem ladder_v {k s : Int} {p b n gx gy : Nat} (hk : Kv k p b n gx gy s) (pv bv nv xv yv av cv v1 v2 : Value) (A B X1 Y1 Z1 X2 Y2 Z2 : Nat) (P Q : Pt) (w : World)
    (hp : Nk w pv p 384) (hb : Nk w bv b 384) (hn : Nk w nv n 384) (hgx : Sl3 xv) (hgy : Sl3 yv) (ha : Nk w av A 1024) (hc : Nk w cv B 1024) (h1 : Rt w v1 X1 Y1 Z1) (h2 : Rt w v2 X2 Y2 Z2)
    (hP : Rp p X1 Y1 Z1 P) (hQ : Rp p X2 Y2 Z2 Q) (oP : onP p b P) (oQ : onP p b Q) :
    Calls Tryz.prog 75 #[.agg #[pv, bv, .int .i64 s, nv, xv, yv, .bool false, .func (.func 93) #[.agg #[pv, bv]] #[]], av, cv, v1, v2] w fun e w' => ∃ r X Y Z, e = .returned r ∧ Rm w w' r X Y Z ∧ Rp p X Y Z (sm p (ml p (A % n) P) (ml p (B % n) Q)) ∧ Below w.heap.size w w' := by
  obtain ⟨p0, p1, p2, rfl⟩ := hp.sl
  obtain ⟨b0, b1, b2, rfl⟩ := hb.sl
  obtain ⟨n0, n1, n2, rfl⟩ := hn.sl
  obtain ⟨gx0, gx1, gx2, rfl⟩ := hgx
  obtain ⟨gy0, gy1, gy2, rfl⟩ := hgy
  obtain ⟨a0, a1, a2, rfl⟩ := ha.sl
  obtain ⟨c0, c1, c2, rfl⟩ := hc.sl
  have HR : Hid (Rt w v1 X1 Y1 Z1 ∧ Rt w v2 X2 Y2 Z2) := ⟨h1, h2⟩
  obtain ⟨x, y, z, rfl, hx, hy, hz⟩ := h1
  obtain ⟨u, v, t, rfl, hu, hv, ht⟩ := h2
  obtain ⟨x0, x1, x2, rfl⟩ := hx.sl
  obtain ⟨y0, y1, y2, rfl⟩ := hy.sl
  obtain ⟨z0, z1, z2, rfl⟩ := hz.sl
  obtain ⟨u0, u1, u2, rfl⟩ := hu.sl
  obtain ⟨v0, v1, v2, rfl⟩ := hv.sl
  obtain ⟨t0, t1, t2, rfl⟩ := ht.sl
  have HF0 : Hid (Fm w ((((w.alloc (.cells #[.slice p0 p1 p2, .slice b0 b1 b2, .int .i64 s, .slice n0 n1 n2, .slice gx0 gx1 gx2, .slice gy0 gy1 gy2, .bool false, .func (.func 93) #[.agg #[.slice p0 p1 p2, .slice b0 b1 b2]] #[]] 68)).alloc (.cells #[.slice x0 x1 x2, .slice y0 y1 y2, .slice z0 z1 z2] 97)).alloc (.cells #[.slice u0 u1 u2, .slice v0 v1 v2, .slice t0 t1 t2] 97)).alloc (.cells #[.slice none 0 0, .slice none 0 0, .slice none 0 0] 97)) [(68, [.slice p0 p1 p2, .slice b0 b1 b2, .int .i64 s, .slice n0 n1 n2, .slice gx0 gx1 gx2, .slice gy0 gy1 gy2, .bool false, .func (.func 93) #[.agg #[.slice p0 p1 p2, .slice b0 b1 b2]] #[]]), (97, [.slice x0 x1 x2, .slice y0 y1 y2, .slice z0 z1 z2]), (97, [.slice u0 u1 u2, .slice v0 v1 v2, .slice t0 t1 t2]), (97, [.slice none 0 0, .slice none 0 0, .slice none 0 0])] [(.slice p0 p1 p2, p, 384), (.slice b0 b1 b2, b, 384), (.slice n0 n1 n2, n, 384), (.slice a0 a1 a2, A, 1024), (.slice c0 c1 c2, B, 1024)] []) := (((((Fm.nil (w := w) (A := [(.slice p0 p1 p2, p, 384), (.slice b0 b1 b2, b, 384), (.slice n0 n1 n2, n, 384), (.slice a0 a1 a2, A, 1024), (.slice c0 c1 c2, B, 1024)]) (ar_cons hp (ar_cons hb (ar_cons hn (ar_cons ha (ar_cons hc ar_nil)))))).push (by simp) 68 [.slice p0 p1 p2, .slice b0 b1 b2, .int .i64 s, .slice n0 n1 n2, .slice gx0 gx1 gx2, .slice gy0 gy1 gy2, .bool false, .func (.func 93) #[.agg #[.slice p0 p1 p2, .slice b0 b1 b2]] #[]]).push (by simp) 97 [.slice x0 x1 x2, .slice y0 y1 y2, .slice z0 z1 z2]).push (by simp) 97 [.slice u0 u1 u2, .slice v0 v1 v2, .slice t0 t1 t2]).push (by simp) 97 [.slice none 0 0, .slice none 0 0, .slice none 0 0])
  have Hp : Hid (Pm p) := hk.pm
  have Hn0 : Hid (n ≠ 0) := hk.n0
  have HM : Hid (Rp p X1 Y1 Z1 P ∧ Rp p X2 Y2 Z2 Q ∧ onP p b P ∧ onP p b Q) := ⟨hP, hQ, oP, oQ⟩
  have Hnl : Hid (n < pw 384) := hn.2
  clear hp hb hn ha hc hx hy hz hu hv ht hP hQ oP oQ
  have C := vdiv _ _ A n _ _ _ (HF0.out.arg 3 (Nat.le_of_ble_eq_true rfl)).1 (HF0.out.arg 2 (Nat.le_of_ble_eq_true rfl)).1 (by decide) (by decide) Hn0.out
  go_enter Tryz.func75, Tryz.ntmps75
  go_wp2_with fail
  generalize ((((w.alloc (.cells #[.slice p0 p1 p2, .slice b0 b1 b2, .int .i64 s, .slice n0 n1 n2, .slice gx0 gx1 gx2, .slice gy0 gy1 gy2, .bool false, .func (.func 93) #[.agg #[.slice p0 p1 p2, .slice b0 b1 b2]] #[]] 68)).alloc (.cells #[.slice x0 x1 x2, .slice y0 y1 y2, .slice z0 z1 z2] 97)).alloc (.cells #[.slice u0 u1 u2, .slice v0 v1 v2, .slice t0 t1 t2] 97)).alloc (.cells #[.slice none 0 0, .slice none 0 0, .slice none 0 0] 97)) = w0 at *
  refine C.mono ?_
  clear C
  rintro e w1 ⟨q1, r1, rfl, hq1, hr1⟩
  have HF1 : Hid (Fm w w1 [(68, [.slice p0 p1 p2, .slice b0 b1 b2, .int .i64 s, .slice n0 n1 n2, .slice gx0 gx1 gx2, .slice gy0 gy1 gy2, .bool false, .func (.func 93) #[.agg #[.slice p0 p1 p2, .slice b0 b1 b2]] #[]]), (97, [.slice x0 x1 x2, .slice y0 y1 y2, .slice z0 z1 z2]), (97, [.slice u0 u1 u2, .slice v0 v1 v2, .slice t0 t1 t2]), (97, [.slice none 0 0, .slice none 0 0, .slice none 0 0])] [(.slice p0 p1 p2, p, 384), (.slice b0 b1 b2, b, 384), (.slice n0 n1 n2, n, 384), (.slice a0 a1 a2, A, 1024), (.slice c0 c1 c2, B, 1024)] [(r1, A % n, 384)]) := HF0.out.step ⟨⟨hr1.1, hr1.2.1, hr1.2.2⟩, Nat.lt_trans (Nat.mod_lt _ (Nat.pos_of_ne_zero Hn0.out)) Hnl.out⟩
  obtain ⟨qq10, qq11, qq12, rfl⟩ := hq1.vl.shape
  obtain ⟨d0, d1, d2, rfl⟩ := hr1.vl.shape
  clear hq1 hr1
  have c03 : w1.cell? ⟨w.heap.size, 3, none⟩ = some (.slice n0 n1 n2) := HF1.out.cell 0 3 (Nat.le_of_ble_eq_true rfl) (Nat.le_of_ble_eq_true rfl)
  go_wp2_with fail
  clear c03
  refine (vdiv _ _ B n _ _ _ (HF1.out.arg 4 (Nat.le_of_ble_eq_true rfl)).1 (HF1.out.arg 2 (Nat.le_of_ble_eq_true rfl)).1 (by decide) (by decide) Hn0.out).mono ?_
  rintro e w2 ⟨q2, r2, rfl, hq2, hr2⟩
  have HF2 : Hid (Fm w w2 [(68, [.slice p0 p1 p2, .slice b0 b1 b2, .int .i64 s, .slice n0 n1 n2, .slice gx0 gx1 gx2, .slice gy0 gy1 gy2, .bool false, .func (.func 93) #[.agg #[.slice p0 p1 p2, .slice b0 b1 b2]] #[]]), (97, [.slice x0 x1 x2, .slice y0 y1 y2, .slice z0 z1 z2]), (97, [.slice u0 u1 u2, .slice v0 v1 v2, .slice t0 t1 t2]), (97, [.slice none 0 0, .slice none 0 0, .slice none 0 0])] [(.slice p0 p1 p2, p, 384), (.slice b0 b1 b2, b, 384), (.slice n0 n1 n2, n, 384), (.slice a0 a1 a2, A, 1024), (.slice c0 c1 c2, B, 1024)] [(r2, B % n, 384), (.slice d0 d1 d2, A % n, 384)]) := HF1.out.step ⟨⟨hr2.1, hr2.2.1, hr2.2.2⟩, Nat.lt_trans (Nat.mod_lt _ (Nat.pos_of_ne_zero Hn0.out)) Hnl.out⟩
  obtain ⟨qq20, qq21, qq22, rfl⟩ := hq2.vl.shape
  obtain ⟨e0, e1, e2, rfl⟩ := hr2.vl.shape
  clear hq2 hr2
  go_wp2_with fail
  refine (infinity_v w2).mono ?_
  rintro e w3 ⟨r, rfl, hm, hB⟩
  have HF3 : Hid (Fm w w3 [(68, [.slice p0 p1 p2, .slice b0 b1 b2, .int .i64 s, .slice n0 n1 n2, .slice gx0 gx1 gx2, .slice gy0 gy1 gy2, .bool false, .func (.func 93) #[.agg #[.slice p0 p1 p2, .slice b0 b1 b2]] #[]]), (97, [.slice x0 x1 x2, .slice y0 y1 y2, .slice z0 z1 z2]), (97, [.slice u0 u1 u2, .slice v0 v1 v2, .slice t0 t1 t2]), (97, [.slice none 0 0, .slice none 0 0, .slice none 0 0])] [(.slice p0 p1 p2, p, 384), (.slice b0 b1 b2, b, 384), (.slice n0 n1 n2, n, 384), (.slice a0 a1 a2, A, 1024), (.slice c0 c1 c2, B, 1024)] [(.slice e0 e1 e2, B % n, 384), (.slice d0 d1 d2, A % n, 384)]) := HF2.out.below hB
  have HMi : Hid (Mq w3 (w.heap.size + 4) w3.heap.size r 1) := ⟨hm.1.base HF2.out.sz, hm.2.1, (hm.le (show 1 ≤ 384 by decide)).2.2, fun e => by have := (hm.1.block e).2; omega⟩
  have HM1 : Hid (Nk w3 r 1 384) := hm.nk.le (by decide)
  obtain ⟨i0, i1, i2, rfl⟩ := hm.nk.sl
  clear hm hB
  go_wp2_with fail
  have HS4 : Hid (Fm w3 (w3.alloc (.cells #[.slice none 0 0, .slice i0 i1 i2, .slice none 0 0] 97)) [(97, [.slice none 0 0, .slice i0 i1 i2, .slice none 0 0])] [] []) := (Fm.nil (w := w3) (A := []) ar_nil).push (by simp) 97 [.slice none 0 0, .slice i0 i1 i2, .slice none 0 0]
  have HF4 : Hid (Fm w (w3.alloc (.cells #[.slice none 0 0, .slice i0 i1 i2, .slice none 0 0] 97)) [(68, [.slice p0 p1 p2, .slice b0 b1 b2, .int .i64 s, .slice n0 n1 n2, .slice gx0 gx1 gx2, .slice gy0 gy1 gy2, .bool false, .func (.func 93) #[.agg #[.slice p0 p1 p2, .slice b0 b1 b2]] #[]]), (97, [.slice x0 x1 x2, .slice y0 y1 y2, .slice z0 z1 z2]), (97, [.slice u0 u1 u2, .slice v0 v1 v2, .slice t0 t1 t2]), (97, [.slice none 0 0, .slice none 0 0, .slice none 0 0])] [(.slice p0 p1 p2, p, 384), (.slice b0 b1 b2, b, 384), (.slice n0 n1 n2, n, 384), (.slice a0 a1 a2, A, 1024), (.slice c0 c1 c2, B, 1024)] [(.slice e0 e1 e2, B % n, 384), (.slice d0 d1 d2, A % n, 384)]) := HF3.out.below HS4.out.bel
  generalize (w3.alloc (.cells #[.slice none 0 0, .slice i0 i1 i2, .slice none 0 0] 97)) = w4 at *
  have hs3 : w.heap.size + 4 ≤ w3.heap.size := HF3.out.sz
  have hs4 : w3.heap.size + 1 ≤ w4.heap.size := HS4.out.sz
  go_cut [12] from 33 to 41 (fun sl wx => ∃ (w' : World) (g : Nat) (f0 g0 h0 : Option Addr) (f1 f2 g1 g2 h1 h2 : Nat), w' = wx ∧ sl = .pointer (some ⟨g, 0, none⟩) ∧ w3.heap.size < g ∧ Hid ((Fm w3 w' [(97, [.slice none 0 0, .slice i0 i1 i2, .slice none 0 0])] [] []) ∧ Bl 120 w' g [.slice none 0 0, .slice i0 i1 i2, .slice none 0 0, .slice x0 x1 x2, .slice y0 y1 y2, .slice z0 z1 z2, .slice u0 u1 u2, .slice v0 v1 v2, .slice t0 t1 t2, .slice f0 f1 f2, .slice g0 g1 g2, .slice h0 h1 h2] ∧ Mq w' (w.heap.size + 4) w3.heap.size (.slice f0 f1 f2) (plusX p b X1 Y1 Z1 X2 Y2 Z2) ∧ Mq w' (w.heap.size + 4) w3.heap.size (.slice g0 g1 g2) (plusY p b X1 Y1 Z1 X2 Y2 Z2) ∧ Mq w' (w.heap.size + 4) w3.heap.size (.slice h0 h1 h2) (plusZ p b X1 Y1 Z1 X2 Y2 Z2)))
  case first =>
    have HF4d : Hid (Fm w w4.drew [(68, [.slice p0 p1 p2, .slice b0 b1 b2, .int .i64 s, .slice n0 n1 n2, .slice gx0 gx1 gx2, .slice gy0 gy1 gy2, .bool false, .func (.func 93) #[.agg #[.slice p0 p1 p2, .slice b0 b1 b2]] #[]]), (97, [.slice x0 x1 x2, .slice y0 y1 y2, .slice z0 z1 z2]), (97, [.slice u0 u1 u2, .slice v0 v1 v2, .slice t0 t1 t2]), (97, [.slice none 0 0, .slice none 0 0, .slice none 0 0])] [(.slice p0 p1 p2, p, 384), (.slice b0 b1 b2, b, 384), (.slice n0 n1 n2, n, 384), (.slice a0 a1 a2, A, 1024), (.slice c0 c1 c2, B, 1024)] [(.slice e0 e1 e2, B % n, 384), (.slice d0 d1 d2, A % n, 384)]) := HF4.out.drew
    have HS4d : Hid (Fm w3 w4.drew [(97, [.slice none 0 0, .slice i0 i1 i2, .slice none 0 0])] [] []) := HS4.out.drew
    refine wp_region_K 10 (fun (w' : World) => w'.cell? ⟨w3.heap.size, 0, none⟩ = some (.slice none 0 0) ∧ w'.cell? ⟨w3.heap.size, 1, none⟩ = some (.slice i0 i1 i2) ∧ w'.cell? ⟨w3.heap.size, 2, none⟩ = some (.slice none 0 0) ∧ w'.cell? ⟨w.heap.size + 1, 0, none⟩ = some (.slice x0 x1 x2) ∧ w'.cell? ⟨w.heap.size + 1, 1, none⟩ = some (.slice y0 y1 y2) ∧ w'.cell? ⟨w.heap.size + 1, 2, none⟩ = some (.slice z0 z1 z2) ∧ w'.cell? ⟨w.heap.size + 2, 0, none⟩ = some (.slice u0 u1 u2) ∧ w'.cell? ⟨w.heap.size + 2, 1, none⟩ = some (.slice v0 v1 v2) ∧ w'.cell? ⟨w.heap.size + 2, 2, none⟩ = some (.slice t0 t1 t2) ∧ w'.cell? ⟨w.heap.size, 0, none⟩ = some (.slice p0 p1 p2) ∧ w'.cell? ⟨w.heap.size, 1, none⟩ = some (.slice b0 b1 b2)) (by kernel_rfl) ?_
    have hHeld : ((fun (w' : World) => w'.cell? ⟨w3.heap.size, 0, none⟩ = some (.slice none 0 0) ∧ w'.cell? ⟨w3.heap.size, 1, none⟩ = some (.slice i0 i1 i2) ∧ w'.cell? ⟨w3.heap.size, 2, none⟩ = some (.slice none 0 0) ∧ w'.cell? ⟨w.heap.size + 1, 0, none⟩ = some (.slice x0 x1 x2) ∧ w'.cell? ⟨w.heap.size + 1, 1, none⟩ = some (.slice y0 y1 y2) ∧ w'.cell? ⟨w.heap.size + 1, 2, none⟩ = some (.slice z0 z1 z2) ∧ w'.cell? ⟨w.heap.size + 2, 0, none⟩ = some (.slice u0 u1 u2) ∧ w'.cell? ⟨w.heap.size + 2, 1, none⟩ = some (.slice v0 v1 v2) ∧ w'.cell? ⟨w.heap.size + 2, 2, none⟩ = some (.slice t0 t1 t2) ∧ w'.cell? ⟨w.heap.size, 0, none⟩ = some (.slice p0 p1 p2) ∧ w'.cell? ⟨w.heap.size, 1, none⟩ = some (.slice b0 b1 b2))) (World.drew _) := ⟨HS4d.out.cell 0 0 (Nat.le_of_ble_eq_true rfl) (Nat.le_of_ble_eq_true rfl), HS4d.out.cell 0 1 (Nat.le_of_ble_eq_true rfl) (Nat.le_of_ble_eq_true rfl), HS4d.out.cell 0 2 (Nat.le_of_ble_eq_true rfl) (Nat.le_of_ble_eq_true rfl), HF4d.out.cell 1 0 (Nat.le_of_ble_eq_true rfl) (Nat.le_of_ble_eq_true rfl), HF4d.out.cell 1 1 (Nat.le_of_ble_eq_true rfl) (Nat.le_of_ble_eq_true rfl), HF4d.out.cell 1 2 (Nat.le_of_ble_eq_true rfl) (Nat.le_of_ble_eq_true rfl), HF4d.out.cell 2 0 (Nat.le_of_ble_eq_true rfl) (Nat.le_of_ble_eq_true rfl), HF4d.out.cell 2 1 (Nat.le_of_ble_eq_true rfl) (Nat.le_of_ble_eq_true rfl), HF4d.out.cell 2 2 (Nat.le_of_ble_eq_true rfl) (Nat.le_of_ble_eq_true rfl), HF4d.out.cell 0 0 (Nat.le_of_ble_eq_true rfl) (Nat.le_of_ble_eq_true rfl), HF4d.out.cell 0 1 (Nat.le_of_ble_eq_true rfl) (Nat.le_of_ble_eq_true rfl)⟩
    refine wpAnyK_take 0 [8, 10] (v := ?v1) rfl (by kernel_rfl) (fun _ _ _ h => h) (Or.inl ⟨by rfl, ?hy1⟩) hHeld ?_
    case hy1 => (intro w hSw; (try dsimp only at hSw); go_simp; try with_reducible rfl)
    try simp only [Act.put, List.setIfInBounds_toArray, List.set_cons_zero, List.set_cons_succ]
    refine wpAnyK_take 1 [8, 10] (v := ?v2) rfl (by kernel_rfl) (fun _ _ _ h => h) (Or.inl ⟨by rfl, ?hy2⟩) hHeld ?_
    case hy2 => (intro w hSw; (try dsimp only at hSw); go_simp; try with_reducible rfl)
    try simp only [Act.put, List.setIfInBounds_toArray, List.set_cons_zero, List.set_cons_succ]
    refine wpAnyK_take 2 [8, 10] (v := ?v3) rfl (by kernel_rfl) (fun _ _ _ h => h) (Or.inl ⟨by rfl, ?hy3⟩) hHeld ?_
    case hy3 => (intro w hSw; (try dsimp only at hSw); go_simp; try with_reducible rfl)
    try simp only [Act.put, List.setIfInBounds_toArray, List.set_cons_zero, List.set_cons_succ]
    refine wpAnyK_take0 3 (v := ?v4) rfl (by kernel_rfl) (fun _ _ _ h => h) (Or.inl ⟨by rfl, ?hy4⟩) (fun _ => hHeld) ?_
    case hy4 => (intro w hSw; go_simp; try with_reducible rfl)
    try simp only [Act.put, List.setIfInBounds_toArray, List.set_cons_zero, List.set_cons_succ]
    refine wpAnyK_take 4 [7, 8, 10] (v := ?v5) rfl (by kernel_rfl) (fun _ _ _ h => h) (Or.inl ⟨by rfl, ?hy5⟩) hHeld ?_
    case hy5 => (intro w hSw; (try dsimp only at hSw); go_simp; try with_reducible rfl)
    try simp only [Act.put, List.setIfInBounds_toArray, List.set_cons_zero, List.set_cons_succ]
    refine wpAnyK_take 5 [7, 8, 10] (v := ?v6) rfl (by kernel_rfl) (fun _ _ _ h => h) (Or.inl ⟨by rfl, ?hy6⟩) hHeld ?_
    case hy6 => (intro w hSw; (try dsimp only at hSw); go_simp; try with_reducible rfl)
    try simp only [Act.put, List.setIfInBounds_toArray, List.set_cons_zero, List.set_cons_succ]
    refine wpAnyK_take 6 [7, 8, 10] (v := ?v7) rfl (by kernel_rfl) (fun _ _ _ h => h) (Or.inl ⟨by rfl, ?hy7⟩) hHeld ?_
    case hy7 => (intro w hSw; (try dsimp only at hSw); go_simp; try with_reducible rfl)
    try simp only [Act.put, List.setIfInBounds_toArray, List.set_cons_zero, List.set_cons_succ]
    refine wpAnyK_two 7 9 rfl rfl (by kernel_rfl) (fun K hK => ?_) (fun K hK => ?_)
    · go_simp
      refine (plus_v (.slice p0 p1 p2) (.slice b0 b1 b2) _ _ p b X1 Y1 Z1 X2 Y2 Z2 _ Hp (HF4d.out.arg 0 (Nat.le_of_ble_eq_true rfl)) (HF4d.out.arg 1 (Nat.le_of_ble_eq_true rfl)) (HR.out.1.below HF4d.out.bel (Nat.le_refl _)) (HR.out.2.below HF4d.out.bel (Nat.le_refl _))).mono ?_
      rintro e w5 ⟨q3, rfl, hm3, hB⟩
      have HF5 : Hid (Fm w w5 [(68, [.slice p0 p1 p2, .slice b0 b1 b2, .int .i64 s, .slice n0 n1 n2, .slice gx0 gx1 gx2, .slice gy0 gy1 gy2, .bool false, .func (.func 93) #[.agg #[.slice p0 p1 p2, .slice b0 b1 b2]] #[]]), (97, [.slice x0 x1 x2, .slice y0 y1 y2, .slice z0 z1 z2]), (97, [.slice u0 u1 u2, .slice v0 v1 v2, .slice t0 t1 t2]), (97, [.slice none 0 0, .slice none 0 0, .slice none 0 0])] [(.slice p0 p1 p2, p, 384), (.slice b0 b1 b2, b, 384), (.slice n0 n1 n2, n, 384), (.slice a0 a1 a2, A, 1024), (.slice c0 c1 c2, B, 1024)] [(.slice e0 e1 e2, B % n, 384), (.slice d0 d1 d2, A % n, 384)]) := HF4d.out.below hB
      have HS5 : Hid (Fm w3 w5 [(97, [.slice none 0 0, .slice i0 i1 i2, .slice none 0 0])] [] []) := HS4d.out.below hB
      have hB5 := hB
      obtain ⟨fx, gx', hx', rfl, m1, m2, m3⟩ := hm3
      obtain ⟨f0, f1, f2, rfl⟩ := m1.nk.sl
      obtain ⟨g0, g1, g2, rfl⟩ := m2.nk.sl
      obtain ⟨h0, h1, h2, rfl⟩ := m3.nk.sl
      clear hB
      try dsimp only
      refine hK.out _ _ ?hk8 ?_
      case hk8 => exact fun _ => ⟨HS5.out.cell 0 0 (Nat.le_of_ble_eq_true rfl) (Nat.le_of_ble_eq_true rfl), HS5.out.cell 0 1 (Nat.le_of_ble_eq_true rfl) (Nat.le_of_ble_eq_true rfl), HS5.out.cell 0 2 (Nat.le_of_ble_eq_true rfl) (Nat.le_of_ble_eq_true rfl), HF5.out.cell 1 0 (Nat.le_of_ble_eq_true rfl) (Nat.le_of_ble_eq_true rfl), HF5.out.cell 1 1 (Nat.le_of_ble_eq_true rfl) (Nat.le_of_ble_eq_true rfl), HF5.out.cell 1 2 (Nat.le_of_ble_eq_true rfl) (Nat.le_of_ble_eq_true rfl), HF5.out.cell 2 0 (Nat.le_of_ble_eq_true rfl) (Nat.le_of_ble_eq_true rfl), HF5.out.cell 2 1 (Nat.le_of_ble_eq_true rfl) (Nat.le_of_ble_eq_true rfl), HF5.out.cell 2 2 (Nat.le_of_ble_eq_true rfl) (Nat.le_of_ble_eq_true rfl), HF5.out.cell 0 0 (Nat.le_of_ble_eq_true rfl) (Nat.le_of_ble_eq_true rfl), HF5.out.cell 0 1 (Nat.le_of_ble_eq_true rfl) (Nat.le_of_ble_eq_true rfl)⟩
      have hHeld : ((fun (w' : World) => w'.cell? ⟨w3.heap.size, 0, none⟩ = some (.slice none 0 0) ∧ w'.cell? ⟨w3.heap.size, 1, none⟩ = some (.slice i0 i1 i2) ∧ w'.cell? ⟨w3.heap.size, 2, none⟩ = some (.slice none 0 0) ∧ w'.cell? ⟨w.heap.size + 1, 0, none⟩ = some (.slice x0 x1 x2) ∧ w'.cell? ⟨w.heap.size + 1, 1, none⟩ = some (.slice y0 y1 y2) ∧ w'.cell? ⟨w.heap.size + 1, 2, none⟩ = some (.slice z0 z1 z2) ∧ w'.cell? ⟨w.heap.size + 2, 0, none⟩ = some (.slice u0 u1 u2) ∧ w'.cell? ⟨w.heap.size + 2, 1, none⟩ = some (.slice v0 v1 v2) ∧ w'.cell? ⟨w.heap.size + 2, 2, none⟩ = some (.slice t0 t1 t2) ∧ w'.cell? ⟨w.heap.size, 0, none⟩ = some (.slice p0 p1 p2) ∧ w'.cell? ⟨w.heap.size, 1, none⟩ = some (.slice b0 b1 b2))) _ := ⟨HS5.out.cell 0 0 (Nat.le_of_ble_eq_true rfl) (Nat.le_of_ble_eq_true rfl), HS5.out.cell 0 1 (Nat.le_of_ble_eq_true rfl) (Nat.le_of_ble_eq_true rfl), HS5.out.cell 0 2 (Nat.le_of_ble_eq_true rfl) (Nat.le_of_ble_eq_true rfl), HF5.out.cell 1 0 (Nat.le_of_ble_eq_true rfl) (Nat.le_of_ble_eq_true rfl), HF5.out.cell 1 1 (Nat.le_of_ble_eq_true rfl) (Nat.le_of_ble_eq_true rfl), HF5.out.cell 1 2 (Nat.le_of_ble_eq_true rfl) (Nat.le_of_ble_eq_true rfl), HF5.out.cell 2 0 (Nat.le_of_ble_eq_true rfl) (Nat.le_of_ble_eq_true rfl), HF5.out.cell 2 1 (Nat.le_of_ble_eq_true rfl) (Nat.le_of_ble_eq_true rfl), HF5.out.cell 2 2 (Nat.le_of_ble_eq_true rfl) (Nat.le_of_ble_eq_true rfl), HF5.out.cell 0 0 (Nat.le_of_ble_eq_true rfl) (Nat.le_of_ble_eq_true rfl), HF5.out.cell 0 1 (Nat.le_of_ble_eq_true rfl) (Nat.le_of_ble_eq_true rfl)⟩
      clear hK K
      try simp only [Act.put, List.setIfInBounds_toArray, List.set_cons_zero, List.set_cons_succ]
      refine wpAnyK_take0 8 (v := ?v9) rfl (by kernel_rfl) (fun _ _ _ h => h) (Or.inl ⟨by rfl, ?hy9⟩) (fun _ => hHeld) ?_
      case hy9 => (intro w hSw; go_simp; try with_reducible rfl)
      try simp only [Act.put, List.setIfInBounds_toArray, List.set_cons_zero, List.set_cons_succ]
      refine wpAnyK_step 9 rfl (by kernel_rfl) (fun K hK => ?_)
      go_simp
      have HF6 : Hid (Fm w (w5.alloc (.cells #[.slice none 0 0, .slice none 0 0, .slice none 0 0, .slice none 0 0, .slice none 0 0, .slice none 0 0, .slice none 0 0, .slice none 0 0, .slice none 0 0, .slice none 0 0, .slice none 0 0, .slice none 0 0] 120)) [(68, [.slice p0 p1 p2, .slice b0 b1 b2, .int .i64 s, .slice n0 n1 n2, .slice gx0 gx1 gx2, .slice gy0 gy1 gy2, .bool false, .func (.func 93) #[.agg #[.slice p0 p1 p2, .slice b0 b1 b2]] #[]]), (97, [.slice x0 x1 x2, .slice y0 y1 y2, .slice z0 z1 z2]), (97, [.slice u0 u1 u2, .slice v0 v1 v2, .slice t0 t1 t2]), (97, [.slice none 0 0, .slice none 0 0, .slice none 0 0])] [(.slice p0 p1 p2, p, 384), (.slice b0 b1 b2, b, 384), (.slice n0 n1 n2, n, 384), (.slice a0 a1 a2, A, 1024), (.slice c0 c1 c2, B, 1024)] [(.slice e0 e1 e2, B % n, 384), (.slice d0 d1 d2, A % n, 384)]) := HF5.out.below (alloc_below _ _)
      have HS6 : Hid (Fm w3 (w5.alloc (.cells #[.slice none 0 0, .slice none 0 0, .slice none 0 0, .slice none 0 0, .slice none 0 0, .slice none 0 0, .slice none 0 0, .slice none 0 0, .slice none 0 0, .slice none 0 0, .slice none 0 0, .slice none 0 0] 120)) [(97, [.slice none 0 0, .slice i0 i1 i2, .slice none 0 0])] [] []) := HS5.out.below (alloc_below _ _)
      try dsimp only
      refine hK.out _ _ ?hk10 ?_
      case hk10 => exact fun _ => ⟨HS6.out.cell 0 0 (Nat.le_of_ble_eq_true rfl) (Nat.le_of_ble_eq_true rfl), HS6.out.cell 0 1 (Nat.le_of_ble_eq_true rfl) (Nat.le_of_ble_eq_true rfl), HS6.out.cell 0 2 (Nat.le_of_ble_eq_true rfl) (Nat.le_of_ble_eq_true rfl), HF6.out.cell 1 0 (Nat.le_of_ble_eq_true rfl) (Nat.le_of_ble_eq_true rfl), HF6.out.cell 1 1 (Nat.le_of_ble_eq_true rfl) (Nat.le_of_ble_eq_true rfl), HF6.out.cell 1 2 (Nat.le_of_ble_eq_true rfl) (Nat.le_of_ble_eq_true rfl), HF6.out.cell 2 0 (Nat.le_of_ble_eq_true rfl) (Nat.le_of_ble_eq_true rfl), HF6.out.cell 2 1 (Nat.le_of_ble_eq_true rfl) (Nat.le_of_ble_eq_true rfl), HF6.out.cell 2 2 (Nat.le_of_ble_eq_true rfl) (Nat.le_of_ble_eq_true rfl), HF6.out.cell 0 0 (Nat.le_of_ble_eq_true rfl) (Nat.le_of_ble_eq_true rfl), HF6.out.cell 0 1 (Nat.le_of_ble_eq_true rfl) (Nat.le_of_ble_eq_true rfl)⟩
      have hHeld : ((fun (w' : World) => w'.cell? ⟨w3.heap.size, 0, none⟩ = some (.slice none 0 0) ∧ w'.cell? ⟨w3.heap.size, 1, none⟩ = some (.slice i0 i1 i2) ∧ w'.cell? ⟨w3.heap.size, 2, none⟩ = some (.slice none 0 0) ∧ w'.cell? ⟨w.heap.size + 1, 0, none⟩ = some (.slice x0 x1 x2) ∧ w'.cell? ⟨w.heap.size + 1, 1, none⟩ = some (.slice y0 y1 y2) ∧ w'.cell? ⟨w.heap.size + 1, 2, none⟩ = some (.slice z0 z1 z2) ∧ w'.cell? ⟨w.heap.size + 2, 0, none⟩ = some (.slice u0 u1 u2) ∧ w'.cell? ⟨w.heap.size + 2, 1, none⟩ = some (.slice v0 v1 v2) ∧ w'.cell? ⟨w.heap.size + 2, 2, none⟩ = some (.slice t0 t1 t2) ∧ w'.cell? ⟨w.heap.size, 0, none⟩ = some (.slice p0 p1 p2) ∧ w'.cell? ⟨w.heap.size, 1, none⟩ = some (.slice b0 b1 b2))) _ := ⟨HS6.out.cell 0 0 (Nat.le_of_ble_eq_true rfl) (Nat.le_of_ble_eq_true rfl), HS6.out.cell 0 1 (Nat.le_of_ble_eq_true rfl) (Nat.le_of_ble_eq_true rfl), HS6.out.cell 0 2 (Nat.le_of_ble_eq_true rfl) (Nat.le_of_ble_eq_true rfl), HF6.out.cell 1 0 (Nat.le_of_ble_eq_true rfl) (Nat.le_of_ble_eq_true rfl), HF6.out.cell 1 1 (Nat.le_of_ble_eq_true rfl) (Nat.le_of_ble_eq_true rfl), HF6.out.cell 1 2 (Nat.le_of_ble_eq_true rfl) (Nat.le_of_ble_eq_true rfl), HF6.out.cell 2 0 (Nat.le_of_ble_eq_true rfl) (Nat.le_of_ble_eq_true rfl), HF6.out.cell 2 1 (Nat.le_of_ble_eq_true rfl) (Nat.le_of_ble_eq_true rfl), HF6.out.cell 2 2 (Nat.le_of_ble_eq_true rfl) (Nat.le_of_ble_eq_true rfl), HF6.out.cell 0 0 (Nat.le_of_ble_eq_true rfl) (Nat.le_of_ble_eq_true rfl), HF6.out.cell 0 1 (Nat.le_of_ble_eq_true rfl) (Nat.le_of_ble_eq_true rfl)⟩
      clear hK K
      try simp only [Act.put, List.setIfInBounds_toArray, List.set_cons_zero, List.set_cons_succ]
      refine wpAnyK_step 10 rfl (by kernel_rfl) (fun K hK => ?_)
      rw [if_pos (by kernel_rfl)]
      refine wp_store_row 120 _ _ rfl w5.heap.size #[.slice none 0 0, .slice i0 i1 i2, .slice none 0 0, .slice x0 x1 x2, .slice y0 y1 y2, .slice z0 z1 z2, .slice u0 u1 u2, .slice v0 v1 v2, .slice t0 t1 t2, .slice f0 f1 f2, .slice g0 g1 g2, .slice h0 h1 h2] rfl rfl 120 #[.slice none 0 0, .slice none 0 0, .slice none 0 0, .slice none 0 0, .slice none 0 0, .slice none 0 0, .slice none 0 0, .slice none 0 0, .slice none 0 0, .slice none 0 0, .slice none 0 0, .slice none 0 0] (alloc_bl w5 [.slice none 0 0, .slice none 0 0, .slice none 0 0, .slice none 0 0, .slice none 0 0, .slice none 0 0, .slice none 0 0, .slice none 0 0, .slice none 0 0, .slice none 0 0, .slice none 0 0, .slice none 0 0] 120) (by kernel_rfl) rfl (by simp [Value.oneCell']) ?_
      refine hK.out _ _ ?hk11 ?_
      case hk11 => exact (fun h => nomatch (h.symm.trans (show _ = true by kernel_rfl)))
      clear hK K
      try simp only [Act.put]
      refine wpAnyK_done (by kernel_rfl) ?_ _
      have HA7 := Fm.row w5 120 [.slice none 0 0, .slice none 0 0, .slice none 0 0, .slice none 0 0, .slice none 0 0, .slice none 0 0, .slice none 0 0, .slice none 0 0, .slice none 0 0, .slice none 0 0, .slice none 0 0, .slice none 0 0] [.slice none 0 0, .slice i0 i1 i2, .slice none 0 0, .slice x0 x1 x2, .slice y0 y1 y2, .slice z0 z1 z2, .slice u0 u1 u2, .slice v0 v1 v2, .slice t0 t1 t2, .slice f0 f1 f2, .slice g0 g1 g2, .slice h0 h1 h2] rfl
      go_wp2_with fail
      go_meet
      have e4 : w4.heap.size ≤ w5.heap.size := hB5.size
      exact ⟨_, w5.heap.size, f0, g0, h0, f1, f2, g1, g2, h1, h2, rfl, rfl, by omega, HS5.out.below HA7.bel, HA7.bx 0 (by simp), ⟨(m1.1.below HA7.bel (Nat.le_refl _)).base (show w.heap.size + 4 ≤ w4.heap.size by omega), m1.2.1, m1.2.2, fun e => by have hh := (m1.1.block e).1; have : w4.heap.size ≤ w3.heap.size := hh; omega⟩, ⟨(m2.1.below HA7.bel (Nat.le_refl _)).base (show w.heap.size + 4 ≤ w4.heap.size by omega), m2.2.1, m2.2.2, fun e => by have hh := (m2.1.block e).1; have : w4.heap.size ≤ w3.heap.size := hh; omega⟩, ⟨(m3.1.below HA7.bel (Nat.le_refl _)).base (show w.heap.size + 4 ≤ w4.heap.size by omega), m3.2.1, m3.2.2, fun e => by have hh := (m3.1.block e).1; have : w4.heap.size ≤ w3.heap.size := hh; omega⟩⟩
    · go_simp
      have HA4 : Hid (Bl 120 ((w4.alloc (.cells #[.slice none 0 0, .slice none 0 0, .slice none 0 0, .slice none 0 0, .slice none 0 0, .slice none 0 0, .slice none 0 0, .slice none 0 0, .slice none 0 0, .slice none 0 0, .slice none 0 0, .slice none 0 0] 120)).drew) w4.heap.size [.slice none 0 0, .slice none 0 0, .slice none 0 0, .slice none 0 0, .slice none 0 0, .slice none 0 0, .slice none 0 0, .slice none 0 0, .slice none 0 0, .slice none 0 0, .slice none 0 0, .slice none 0 0]) := alloc_bl w4 [.slice none 0 0, .slice none 0 0, .slice none 0 0, .slice none 0 0, .slice none 0 0, .slice none 0 0, .slice none 0 0, .slice none 0 0, .slice none 0 0, .slice none 0 0, .slice none 0 0, .slice none 0 0] 120
      have HF4e : Hid (Fm w ((w4.alloc (.cells #[.slice none 0 0, .slice none 0 0, .slice none 0 0, .slice none 0 0, .slice none 0 0, .slice none 0 0, .slice none 0 0, .slice none 0 0, .slice none 0 0, .slice none 0 0, .slice none 0 0, .slice none 0 0] 120)).drew) [(68, [.slice p0 p1 p2, .slice b0 b1 b2, .int .i64 s, .slice n0 n1 n2, .slice gx0 gx1 gx2, .slice gy0 gy1 gy2, .bool false, .func (.func 93) #[.agg #[.slice p0 p1 p2, .slice b0 b1 b2]] #[]]), (97, [.slice x0 x1 x2, .slice y0 y1 y2, .slice z0 z1 z2]), (97, [.slice u0 u1 u2, .slice v0 v1 v2, .slice t0 t1 t2]), (97, [.slice none 0 0, .slice none 0 0, .slice none 0 0])] [(.slice p0 p1 p2, p, 384), (.slice b0 b1 b2, b, 384), (.slice n0 n1 n2, n, 384), (.slice a0 a1 a2, A, 1024), (.slice c0 c1 c2, B, 1024)] [(.slice e0 e1 e2, B % n, 384), (.slice d0 d1 d2, A % n, 384)]) := (HF4.out.below (alloc_below _ _)).drew
      have HS4e : Hid (Fm w3 ((w4.alloc (.cells #[.slice none 0 0, .slice none 0 0, .slice none 0 0, .slice none 0 0, .slice none 0 0, .slice none 0 0, .slice none 0 0, .slice none 0 0, .slice none 0 0, .slice none 0 0, .slice none 0 0, .slice none 0 0] 120)).drew) [(97, [.slice none 0 0, .slice i0 i1 i2, .slice none 0 0])] [] []) := (HS4.out.below (alloc_below _ _)).drew
      have hsA : ((w4.alloc (.cells #[.slice none 0 0, .slice none 0 0, .slice none 0 0, .slice none 0 0, .slice none 0 0, .slice none 0 0, .slice none 0 0, .slice none 0 0, .slice none 0 0, .slice none 0 0, .slice none 0 0, .slice none 0 0] 120)).drew).heap.size = w4.heap.size + 1 := World.size_alloc _ _
      have HbA : Hid (Below w4.heap.size w4 ((w4.alloc (.cells #[.slice none 0 0, .slice none 0 0, .slice none 0 0, .slice none 0 0, .slice none 0 0, .slice none 0 0, .slice none 0 0, .slice none 0 0, .slice none 0 0, .slice none 0 0, .slice none 0 0, .slice none 0 0] 120)).drew)) := below_drewN (alloc_below _ _) 1
      generalize ((w4.alloc (.cells #[.slice none 0 0, .slice none 0 0, .slice none 0 0, .slice none 0 0, .slice none 0 0, .slice none 0 0, .slice none 0 0, .slice none 0 0, .slice none 0 0, .slice none 0 0, .slice none 0 0, .slice none 0 0] 120)).drew) = w4e at *
      try dsimp only
      refine hK.out _ _ ?hk12 ?_
      case hk12 => exact fun _ => ⟨HS4e.out.cell 0 0 (Nat.le_of_ble_eq_true rfl) (Nat.le_of_ble_eq_true rfl), HS4e.out.cell 0 1 (Nat.le_of_ble_eq_true rfl) (Nat.le_of_ble_eq_true rfl), HS4e.out.cell 0 2 (Nat.le_of_ble_eq_true rfl) (Nat.le_of_ble_eq_true rfl), HF4e.out.cell 1 0 (Nat.le_of_ble_eq_true rfl) (Nat.le_of_ble_eq_true rfl), HF4e.out.cell 1 1 (Nat.le_of_ble_eq_true rfl) (Nat.le_of_ble_eq_true rfl), HF4e.out.cell 1 2 (Nat.le_of_ble_eq_true rfl) (Nat.le_of_ble_eq_true rfl), HF4e.out.cell 2 0 (Nat.le_of_ble_eq_true rfl) (Nat.le_of_ble_eq_true rfl), HF4e.out.cell 2 1 (Nat.le_of_ble_eq_true rfl) (Nat.le_of_ble_eq_true rfl), HF4e.out.cell 2 2 (Nat.le_of_ble_eq_true rfl) (Nat.le_of_ble_eq_true rfl), HF4e.out.cell 0 0 (Nat.le_of_ble_eq_true rfl) (Nat.le_of_ble_eq_true rfl), HF4e.out.cell 0 1 (Nat.le_of_ble_eq_true rfl) (Nat.le_of_ble_eq_true rfl)⟩
      have hHeld : ((fun (w' : World) => w'.cell? ⟨w3.heap.size, 0, none⟩ = some (.slice none 0 0) ∧ w'.cell? ⟨w3.heap.size, 1, none⟩ = some (.slice i0 i1 i2) ∧ w'.cell? ⟨w3.heap.size, 2, none⟩ = some (.slice none 0 0) ∧ w'.cell? ⟨w.heap.size + 1, 0, none⟩ = some (.slice x0 x1 x2) ∧ w'.cell? ⟨w.heap.size + 1, 1, none⟩ = some (.slice y0 y1 y2) ∧ w'.cell? ⟨w.heap.size + 1, 2, none⟩ = some (.slice z0 z1 z2) ∧ w'.cell? ⟨w.heap.size + 2, 0, none⟩ = some (.slice u0 u1 u2) ∧ w'.cell? ⟨w.heap.size + 2, 1, none⟩ = some (.slice v0 v1 v2) ∧ w'.cell? ⟨w.heap.size + 2, 2, none⟩ = some (.slice t0 t1 t2) ∧ w'.cell? ⟨w.heap.size, 0, none⟩ = some (.slice p0 p1 p2) ∧ w'.cell? ⟨w.heap.size, 1, none⟩ = some (.slice b0 b1 b2))) _ := ⟨HS4e.out.cell 0 0 (Nat.le_of_ble_eq_true rfl) (Nat.le_of_ble_eq_true rfl), HS4e.out.cell 0 1 (Nat.le_of_ble_eq_true rfl) (Nat.le_of_ble_eq_true rfl), HS4e.out.cell 0 2 (Nat.le_of_ble_eq_true rfl) (Nat.le_of_ble_eq_true rfl), HF4e.out.cell 1 0 (Nat.le_of_ble_eq_true rfl) (Nat.le_of_ble_eq_true rfl), HF4e.out.cell 1 1 (Nat.le_of_ble_eq_true rfl) (Nat.le_of_ble_eq_true rfl), HF4e.out.cell 1 2 (Nat.le_of_ble_eq_true rfl) (Nat.le_of_ble_eq_true rfl), HF4e.out.cell 2 0 (Nat.le_of_ble_eq_true rfl) (Nat.le_of_ble_eq_true rfl), HF4e.out.cell 2 1 (Nat.le_of_ble_eq_true rfl) (Nat.le_of_ble_eq_true rfl), HF4e.out.cell 2 2 (Nat.le_of_ble_eq_true rfl) (Nat.le_of_ble_eq_true rfl), HF4e.out.cell 0 0 (Nat.le_of_ble_eq_true rfl) (Nat.le_of_ble_eq_true rfl), HF4e.out.cell 0 1 (Nat.le_of_ble_eq_true rfl) (Nat.le_of_ble_eq_true rfl)⟩
      clear hK K
      try simp only [Act.put, List.setIfInBounds_toArray, List.set_cons_zero, List.set_cons_succ]
      refine wpAnyK_step 7 rfl (by kernel_rfl) (fun K hK => ?_)
      go_simp
      refine (plus_v (.slice p0 p1 p2) (.slice b0 b1 b2) _ _ p b X1 Y1 Z1 X2 Y2 Z2 _ Hp (HF4e.out.arg 0 (Nat.le_of_ble_eq_true rfl)) (HF4e.out.arg 1 (Nat.le_of_ble_eq_true rfl)) (HR.out.1.below HF4e.out.bel (Nat.le_refl _)) (HR.out.2.below HF4e.out.bel (Nat.le_refl _))).mono ?_
      rintro e w5 ⟨q3, rfl, hm3, hB⟩
      have HF5 : Hid (Fm w w5 [(68, [.slice p0 p1 p2, .slice b0 b1 b2, .int .i64 s, .slice n0 n1 n2, .slice gx0 gx1 gx2, .slice gy0 gy1 gy2, .bool false, .func (.func 93) #[.agg #[.slice p0 p1 p2, .slice b0 b1 b2]] #[]]), (97, [.slice x0 x1 x2, .slice y0 y1 y2, .slice z0 z1 z2]), (97, [.slice u0 u1 u2, .slice v0 v1 v2, .slice t0 t1 t2]), (97, [.slice none 0 0, .slice none 0 0, .slice none 0 0])] [(.slice p0 p1 p2, p, 384), (.slice b0 b1 b2, b, 384), (.slice n0 n1 n2, n, 384), (.slice a0 a1 a2, A, 1024), (.slice c0 c1 c2, B, 1024)] [(.slice e0 e1 e2, B % n, 384), (.slice d0 d1 d2, A % n, 384)]) := HF4e.out.below hB
      have HS5 : Hid (Fm w3 w5 [(97, [.slice none 0 0, .slice i0 i1 i2, .slice none 0 0])] [] []) := HS4e.out.below hB
      have hB5 := hB
      obtain ⟨fx, gx', hx', rfl, m1, m2, m3⟩ := hm3
      obtain ⟨f0, f1, f2, rfl⟩ := m1.nk.sl
      obtain ⟨g0, g1, g2, rfl⟩ := m2.nk.sl
      obtain ⟨h0, h1, h2, rfl⟩ := m3.nk.sl
      clear hB
      have HA5 : Hid (Bl 120 w5 w4.heap.size [.slice none 0 0, .slice none 0 0, .slice none 0 0, .slice none 0 0, .slice none 0 0, .slice none 0 0, .slice none 0 0, .slice none 0 0, .slice none 0 0, .slice none 0 0, .slice none 0 0, .slice none 0 0]) := HA4.out.below hB5 (by omega)
      try dsimp only
      refine hK.out _ _ ?hk13 ?_
      case hk13 => exact fun _ => ⟨HS5.out.cell 0 0 (Nat.le_of_ble_eq_true rfl) (Nat.le_of_ble_eq_true rfl), HS5.out.cell 0 1 (Nat.le_of_ble_eq_true rfl) (Nat.le_of_ble_eq_true rfl), HS5.out.cell 0 2 (Nat.le_of_ble_eq_true rfl) (Nat.le_of_ble_eq_true rfl), HF5.out.cell 1 0 (Nat.le_of_ble_eq_true rfl) (Nat.le_of_ble_eq_true rfl), HF5.out.cell 1 1 (Nat.le_of_ble_eq_true rfl) (Nat.le_of_ble_eq_true rfl), HF5.out.cell 1 2 (Nat.le_of_ble_eq_true rfl) (Nat.le_of_ble_eq_true rfl), HF5.out.cell 2 0 (Nat.le_of_ble_eq_true rfl) (Nat.le_of_ble_eq_true rfl), HF5.out.cell 2 1 (Nat.le_of_ble_eq_true rfl) (Nat.le_of_ble_eq_true rfl), HF5.out.cell 2 2 (Nat.le_of_ble_eq_true rfl) (Nat.le_of_ble_eq_true rfl), HF5.out.cell 0 0 (Nat.le_of_ble_eq_true rfl) (Nat.le_of_ble_eq_true rfl), HF5.out.cell 0 1 (Nat.le_of_ble_eq_true rfl) (Nat.le_of_ble_eq_true rfl)⟩
      have hHeld : ((fun (w' : World) => w'.cell? ⟨w3.heap.size, 0, none⟩ = some (.slice none 0 0) ∧ w'.cell? ⟨w3.heap.size, 1, none⟩ = some (.slice i0 i1 i2) ∧ w'.cell? ⟨w3.heap.size, 2, none⟩ = some (.slice none 0 0) ∧ w'.cell? ⟨w.heap.size + 1, 0, none⟩ = some (.slice x0 x1 x2) ∧ w'.cell? ⟨w.heap.size + 1, 1, none⟩ = some (.slice y0 y1 y2) ∧ w'.cell? ⟨w.heap.size + 1, 2, none⟩ = some (.slice z0 z1 z2) ∧ w'.cell? ⟨w.heap.size + 2, 0, none⟩ = some (.slice u0 u1 u2) ∧ w'.cell? ⟨w.heap.size + 2, 1, none⟩ = some (.slice v0 v1 v2) ∧ w'.cell? ⟨w.heap.size + 2, 2, none⟩ = some (.slice t0 t1 t2) ∧ w'.cell? ⟨w.heap.size, 0, none⟩ = some (.slice p0 p1 p2) ∧ w'.cell? ⟨w.heap.size, 1, none⟩ = some (.slice b0 b1 b2))) _ := ⟨HS5.out.cell 0 0 (Nat.le_of_ble_eq_true rfl) (Nat.le_of_ble_eq_true rfl), HS5.out.cell 0 1 (Nat.le_of_ble_eq_true rfl) (Nat.le_of_ble_eq_true rfl), HS5.out.cell 0 2 (Nat.le_of_ble_eq_true rfl) (Nat.le_of_ble_eq_true rfl), HF5.out.cell 1 0 (Nat.le_of_ble_eq_true rfl) (Nat.le_of_ble_eq_true rfl), HF5.out.cell 1 1 (Nat.le_of_ble_eq_true rfl) (Nat.le_of_ble_eq_true rfl), HF5.out.cell 1 2 (Nat.le_of_ble_eq_true rfl) (Nat.le_of_ble_eq_true rfl), HF5.out.cell 2 0 (Nat.le_of_ble_eq_true rfl) (Nat.le_of_ble_eq_true rfl), HF5.out.cell 2 1 (Nat.le_of_ble_eq_true rfl) (Nat.le_of_ble_eq_true rfl), HF5.out.cell 2 2 (Nat.le_of_ble_eq_true rfl) (Nat.le_of_ble_eq_true rfl), HF5.out.cell 0 0 (Nat.le_of_ble_eq_true rfl) (Nat.le_of_ble_eq_true rfl), HF5.out.cell 0 1 (Nat.le_of_ble_eq_true rfl) (Nat.le_of_ble_eq_true rfl)⟩
      clear hK K
      try simp only [Act.put, List.setIfInBounds_toArray, List.set_cons_zero, List.set_cons_succ]
      refine wpAnyK_take0 8 (v := ?v14) rfl (by kernel_rfl) (fun _ _ _ h => h) (Or.inl ⟨by rfl, ?hy14⟩) (fun _ => hHeld) ?_
      case hy14 => (intro w hSw; go_simp; try with_reducible rfl)
      try simp only [Act.put, List.setIfInBounds_toArray, List.set_cons_zero, List.set_cons_succ]
      refine wpAnyK_step 10 rfl (by kernel_rfl) (fun K hK => ?_)
      rw [if_pos (by kernel_rfl)]
      refine wp_store_row 120 _ _ rfl w4.heap.size #[.slice none 0 0, .slice i0 i1 i2, .slice none 0 0, .slice x0 x1 x2, .slice y0 y1 y2, .slice z0 z1 z2, .slice u0 u1 u2, .slice v0 v1 v2, .slice t0 t1 t2, .slice f0 f1 f2, .slice g0 g1 g2, .slice h0 h1 h2] rfl rfl 120 #[.slice none 0 0, .slice none 0 0, .slice none 0 0, .slice none 0 0, .slice none 0 0, .slice none 0 0, .slice none 0 0, .slice none 0 0, .slice none 0 0, .slice none 0 0, .slice none 0 0, .slice none 0 0] (HA5.out) (by kernel_rfl) rfl (by simp [Value.oneCell']) ?_
      refine hK.out _ _ ?hk15 ?_
      case hk15 => exact (fun h => nomatch (h.symm.trans (show _ = true by kernel_rfl)))
      clear hK K
      try simp only [Act.put]
      refine wpAnyK_done (by kernel_rfl) ?_ _
      have hbt := But.setRow w5 w4.heap.size #[.slice none 0 0, .slice i0 i1 i2, .slice none 0 0, .slice x0 x1 x2, .slice y0 y1 y2, .slice z0 z1 z2, .slice u0 u1 u2, .slice v0 v1 v2, .slice t0 t1 t2, .slice f0 f1 f2, .slice g0 g1 g2, .slice h0 h1 h2]
      have hbw : Below w4.heap.size w4 (w5.setRow w4.heap.size #[.slice none 0 0, .slice i0 i1 i2, .slice none 0 0, .slice x0 x1 x2, .slice y0 y1 y2, .slice z0 z1 z2, .slice u0 u1 u2, .slice v0 v1 v2, .slice t0 t1 t2, .slice f0 f1 f2, .slice g0 g1 g2, .slice h0 h1 h2]) := (HbA.out.trans (hB5.mono (by show w4.heap.size ≤ _; omega))).trans (hbt.below (by show w4.heap.size ≤ _; have := hB5.size; omega) (Nat.le_refl _))
      go_wp2_with fail
      go_meet
      exact ⟨_, w4.heap.size, f0, g0, h0, f1, f2, g1, g2, h1, h2, rfl, rfl, by omega, HS4.out.below hbw, setRow_heap _ _ _ _ _ _ HA5.out, ⟨((m1.but hbt (by omega)).1).base (by omega), m1.2.1, m1.2.2, fun e => by have hh := (m1.1.block e).1; omega⟩, ⟨((m2.but hbt (by omega)).1).base (by omega), m2.2.1, m2.2.2, fun e => by have hh := (m2.1.block e).1; omega⟩, ⟨((m3.but hbt (by omega)).1).base (by omega), m3.2.1, m3.2.2, fun e => by have hh := (m3.1.block e).1; omega⟩⟩
  case rest =>
    obtain ⟨w', g, f0, g0, h0, f1, f2, g1, g2, h1, h2, rfl, rfl, hg, HX⟩ := hcut
    have HF7 : Hid (Fm w w' [(68, [.slice p0 p1 p2, .slice b0 b1 b2, .int .i64 s, .slice n0 n1 n2, .slice gx0 gx1 gx2, .slice gy0 gy1 gy2, .bool false, .func (.func 93) #[.agg #[.slice p0 p1 p2, .slice b0 b1 b2]] #[]]), (97, [.slice x0 x1 x2, .slice y0 y1 y2, .slice z0 z1 z2]), (97, [.slice u0 u1 u2, .slice v0 v1 v2, .slice t0 t1 t2]), (97, [.slice none 0 0, .slice none 0 0, .slice none 0 0])] [(.slice p0 p1 p2, p, 384), (.slice b0 b1 b2, b, 384), (.slice n0 n1 n2, n, 384), (.slice a0 a1 a2, A, 1024), (.slice c0 c1 c2, B, 1024)] [(.slice e0 e1 e2, B % n, 384), (.slice d0 d1 d2, A % n, 384)]) := HF3.out.below HX.out.1.bel
    have C1 := vbits _ (A % n) _ _ (HF7.out.got 1 (Nat.le_of_ble_eq_true rfl)).1 (by decide)
    have C2 := vbits _ (B % n) _ _ (HF7.out.got 0 (Nat.le_of_ble_eq_true rfl)).1 (by decide)
    obtain ⟨D, HD⟩ : ∃ D, Hid (D = max (bl (A % n)) (bl (B % n))) := ⟨_, rfl⟩
    obtain ⟨ba, Hba⟩ : ∃ z, Hid (z = ((bl (A % n) : Nat) : Int)) := ⟨_, rfl⟩
    obtain ⟨bb, Hbb⟩ : ∃ z, Hid (z = ((bl (B % n) : Nat) : Int)) := ⟨_, rfl⟩
    rw [← Hba.out] at C1
    rw [← Hbb.out] at C2
    go_upto_region 5 with fail
    go_cut [13] from 42 to 46 (fun sl wx => sl = .int .i64 (D : Int) ∧ wx = w')
    case first =>
      go_wp2_with fail
      refine C1.mono ?_
      rintro e w8 ⟨rfl, rfl⟩
      go_wp2_with fail
      refine C2.mono ?_
      rintro e w8 ⟨rfl, rfl⟩
      clear C1 C2
      go_wp2_with fail
      all_goals (go_meet; refine ⟨?_, rfl⟩; congr 1; have q1 := Hba.out; have q2 := Hbb.out; have q3 := HD.out; omega)
    case rest =>
      obtain ⟨rfl, rfl⟩ := hcut
      clear C1 C2
      have hDb : D ≤ 400 := by
        have e1 := bl_pw (Nat.lt_trans (Nat.mod_lt A (Nat.pos_of_ne_zero Hn0.out)) Hnl.out)
        have e2 := bl_pw (Nat.lt_trans (Nat.mod_lt B (Nat.pos_of_ne_zero Hn0.out)) Hnl.out)
        rw [HD.out]; omega
      have HZA : Hid (A % n / 2 ^ D = 0 ∧ B % n / 2 ^ D = 0) := ⟨bl_div (by rw [HD.out]; omega), bl_div (by rw [HD.out]; omega)⟩
      go_wp2
      go_loopw [48] (fun sl wr => ∃ (w' : World) (i X Y Z : Nat) (sx0 sy0 sz0 : Option Addr) (sx1 sx2 sy1 sy2 sz1 sz2 : Nat), w' = wr ∧ sl = .int .i64 (i : Int) ∧ i ≤ D ∧ Hid ((Fm w3 w' [(97, [.slice sx0 sx1 sx2, .slice sy0 sy1 sy2, .slice sz0 sz1 sz2])] [] []) ∧ Bl 120 w' g [.slice none 0 0, .slice i0 i1 i2, .slice none 0 0, .slice x0 x1 x2, .slice y0 y1 y2, .slice z0 z1 z2, .slice u0 u1 u2, .slice v0 v1 v2, .slice t0 t1 t2, .slice f0 f1 f2, .slice g0 g1 g2, .slice h0 h1 h2] ∧ (Mq w' (w.heap.size + 4) w3.heap.size (.slice f0 f1 f2) (plusX p b X1 Y1 Z1 X2 Y2 Z2) ∧ Mq w' (w.heap.size + 4) w3.heap.size (.slice g0 g1 g2) (plusY p b X1 Y1 Z1 X2 Y2 Z2) ∧ Mq w' (w.heap.size + 4) w3.heap.size (.slice h0 h1 h2) (plusZ p b X1 Y1 Z1 X2 Y2 Z2)) ∧ (Mq w' (w.heap.size + 4) w3.heap.size (.slice sx0 sx1 sx2) X ∧ Mq w' (w.heap.size + 4) w3.heap.size (.slice sy0 sy1 sy2) Y ∧ Mq w' (w.heap.size + 4) w3.heap.size (.slice sz0 sz1 sz2) Z) ∧ Rp p X Y Z (sm p (ml p (A % n / 2 ^ (D - i)) P) (ml p (B % n / 2 ^ (D - i)) Q)))) (fun sl _ => D - (intOf sl).toNat)
      case atStart =>
        refine ⟨_, 0, 0, 1, 0, none, i0, none, 0, 0, i1, i2, 0, 0, rfl, rfl, Nat.zero_le _, HX.out.1, HX.out.2.1, HX.out.2.2, ⟨Mq.none _ _ _, HMi.out.below HX.out.1.bel, Mq.none _ _ _⟩, ?_⟩
        rw [Nat.sub_zero, HZA.out.1, HZA.out.2]
        show Rp p 0 1 0 (sm p .O .O)
        rw [hk.cv.zl (on_O (b := b))]
        exact ⟨rfl, rfl, by omega, by have := Hp.out.1; omega⟩
      case round =>
        clear HX
        obtain ⟨w', i, X, Y, Z, sx0, sy0, sz0, sx1, sx2, sy1, sy2, sz1, sz2, rfl, rfl, hi, HI⟩ := hrel
        by_cases hlt : i < D
        · obtain ⟨j, Hj⟩ : ∃ j, Hid (D = i + j + 1) := ⟨D - i - 1, (by omega : D = i + (D - i - 1) + 1)⟩
          have hat : (D : Int) - 1 - (i : Int) = (j : Int) := by have := Hj.out; omega
          have hHF : Hid (Fm w w' [(68, [.slice p0 p1 p2, .slice b0 b1 b2, .int .i64 s, .slice n0 n1 n2, .slice gx0 gx1 gx2, .slice gy0 gy1 gy2, .bool false, .func (.func 93) #[.agg #[.slice p0 p1 p2, .slice b0 b1 b2]] #[]]), (97, [.slice x0 x1 x2, .slice y0 y1 y2, .slice z0 z1 z2]), (97, [.slice u0 u1 u2, .slice v0 v1 v2, .slice t0 t1 t2]), (97, [.slice none 0 0, .slice none 0 0, .slice none 0 0])] [(.slice p0 p1 p2, p, 384), (.slice b0 b1 b2, b, 384), (.slice n0 n1 n2, n, 384), (.slice a0 a1 a2, A, 1024), (.slice c0 c1 c2, B, 1024)] [(.slice e0 e1 e2, B % n, 384), (.slice d0 d1 d2, A % n, 384)]) := HF3.out.below HI.out.1.bel
          have hsx := HI.out.1.sz
          rw [List.length_singleton] at hsx
          have HN : Hid (Rp p X Y Z (sm p (ml p (A % n / 2 ^ (j + 1)) P) (ml p (B % n / 2 ^ (j + 1)) Q))) := (by have h := HI.out.2.2.2.2; rwa [show D - i = j + 1 by have := Hj.out; omega] at h)
          go_wp2_with fail
          have hw0 : IntKind.i64.wrap 0 = 0 := by first | rfl | decide | (rw [IntKind.wrap_i64]; decide)
          have hw1 : IntKind.i64.wrap 1 = 1 := by first | rfl | decide | (rw [IntKind.wrap_i64]; decide)
          have hw2 : IntKind.i64.wrap 2 = 2 := by first | rfl | decide | (rw [IntKind.wrap_i64]; decide)
          have hw3 : IntKind.i64.wrap 3 = 3 := by first | rfl | decide | (rw [IntKind.wrap_i64]; decide)
          by_cases hda : A % n / 2 ^ j % 2 = 1
          · by_cases hdb : B % n / 2 ^ j % 2 = 1
            · refine wp_region_K 14 (fun (w9 : World) => w9.cell? ⟨w.heap.size, 7, none⟩ = some (.func (.func 93) #[.agg #[.slice p0 p1 p2, .slice b0 b1 b2]] #[]) ∧ w9.cell? ⟨w3.heap.size, 0, none⟩ = some (.slice sx0 sx1 sx2) ∧ w9.cell? ⟨w3.heap.size, 1, none⟩ = some (.slice sy0 sy1 sy2) ∧ w9.cell? ⟨w3.heap.size, 2, none⟩ = some (.slice sz0 sz1 sz2) ∧ w9.cell? ⟨g, 9, none⟩ = some (.slice f0 f1 f2) ∧ w9.cell? ⟨g, 10, none⟩ = some (.slice g0 g1 g2) ∧ w9.cell? ⟨g, 11, none⟩ = some (.slice h0 h1 h2)) (by kernel_rfl) ?_
              have hHeld : ((fun (w9 : World) => w9.cell? ⟨w.heap.size, 7, none⟩ = some (.func (.func 93) #[.agg #[.slice p0 p1 p2, .slice b0 b1 b2]] #[]) ∧ w9.cell? ⟨w3.heap.size, 0, none⟩ = some (.slice sx0 sx1 sx2) ∧ w9.cell? ⟨w3.heap.size, 1, none⟩ = some (.slice sy0 sy1 sy2) ∧ w9.cell? ⟨w3.heap.size, 2, none⟩ = some (.slice sz0 sz1 sz2) ∧ w9.cell? ⟨g, 9, none⟩ = some (.slice f0 f1 f2) ∧ w9.cell? ⟨g, 10, none⟩ = some (.slice g0 g1 g2) ∧ w9.cell? ⟨g, 11, none⟩ = some (.slice h0 h1 h2))) (World.drew _) := ⟨hHF.out.cell 0 7 (Nat.le_of_ble_eq_true rfl) (Nat.le_of_ble_eq_true rfl), HI.out.1.cell 0 0 (Nat.le_of_ble_eq_true rfl) (Nat.le_of_ble_eq_true rfl), HI.out.1.cell 0 1 (Nat.le_of_ble_eq_true rfl) (Nat.le_of_ble_eq_true rfl), HI.out.1.cell 0 2 (Nat.le_of_ble_eq_true rfl) (Nat.le_of_ble_eq_true rfl), HI.out.2.1.cell 9 (by simp), HI.out.2.1.cell 10 (by simp), HI.out.2.1.cell 11 (by simp)⟩
              refine wpAnyK_take0 0 (v := ?v16) rfl (by kernel_rfl) (fun _ _ _ h => h) (Or.inl ⟨by rfl, ?hy16⟩) (fun _ => hHeld) ?_
              case hy16 => (intro w hSw; go_simp; try with_reducible rfl)
              try simp only [Act.put, List.setIfInBounds_toArray, List.set_cons_zero, List.set_cons_succ]
              refine wpAnyK_take 1 [13, 14] (v := ?v17) rfl (by kernel_rfl) (fun _ _ _ h => h) (Or.inl ⟨by rfl, ?hy17⟩) hHeld ?_
              case hy17 => (intro w hSw; (try dsimp only at hSw); go_simp; try with_reducible rfl)
              try simp only [Act.put, List.setIfInBounds_toArray, List.set_cons_zero, List.set_cons_succ]
              refine wpAnyK_take 2 [13, 14] (v := ?v18) rfl (by kernel_rfl) (fun _ _ _ h => h) (Or.inl ⟨by rfl, ?hy18⟩) hHeld ?_
              case hy18 => (intro w hSw; (try dsimp only at hSw); go_simp; try with_reducible rfl)
              try simp only [Act.put, List.setIfInBounds_toArray, List.set_cons_zero, List.set_cons_succ]
              refine wpAnyK_take0 3 (v := ?v19) rfl (by kernel_rfl) (fun _ _ _ h => h) (Or.inl ⟨by rfl, ?hy19⟩) (fun _ => hHeld) ?_
              case hy19 => (intro w hSw; go_simp; try with_reducible rfl)
              try simp only [Act.put, List.setIfInBounds_toArray, List.set_cons_zero, List.set_cons_succ]
              refine wpAnyK_take0 4 (v := ?v20) rfl (by kernel_rfl) (fun _ _ _ h => h) (Or.inl ⟨by rfl, ?hy20⟩) (fun _ => hHeld) ?_
              case hy20 => (intro w hSw; go_simp; try with_reducible rfl)
              try simp only [Act.put, List.setIfInBounds_toArray, List.set_cons_zero, List.set_cons_succ]
              refine wpAnyK_take0 6 (v := ?v21) rfl (by kernel_rfl) (fun _ _ _ h => h) (Or.inl ⟨by rfl, ?hy21⟩) (fun _ => hHeld) ?_
              case hy21 => (intro w hSw; go_simp; try with_reducible rfl)
              try simp only [Act.put, List.setIfInBounds_toArray, List.set_cons_zero, List.set_cons_succ]
              refine wpAnyK_take0 7 (v := ?v22) rfl (by kernel_rfl) (fun _ _ _ h => h) (Or.inl ⟨by rfl, ?hy22⟩) (fun _ => hHeld) ?_
              case hy22 => (intro w hSw; go_simp; try with_reducible rfl)
              try simp only [Act.put, List.setIfInBounds_toArray, List.set_cons_zero, List.set_cons_succ]
              refine wpAnyK_step 5 rfl (by kernel_rfl) (fun K hK => ?_)
              go_simp
              refine (digit_1 _ (A % n) j _ ((hHF.out.drew.got 1 (Nat.le_of_ble_eq_true rfl)).1) hda (by have := Hj.out; omega)).mono ?_
              rintro e w9 ⟨rfl, rfl⟩
              try dsimp only
              refine hK.out _ _ ?hk23 ?_
              case hk23 => exact fun _ => ⟨hHF.out.cell 0 7 (Nat.le_of_ble_eq_true rfl) (Nat.le_of_ble_eq_true rfl), HI.out.1.cell 0 0 (Nat.le_of_ble_eq_true rfl) (Nat.le_of_ble_eq_true rfl), HI.out.1.cell 0 1 (Nat.le_of_ble_eq_true rfl) (Nat.le_of_ble_eq_true rfl), HI.out.1.cell 0 2 (Nat.le_of_ble_eq_true rfl) (Nat.le_of_ble_eq_true rfl), HI.out.2.1.cell 9 (by simp), HI.out.2.1.cell 10 (by simp), HI.out.2.1.cell 11 (by simp)⟩
              have hHeld : ((fun (w9 : World) => w9.cell? ⟨w.heap.size, 7, none⟩ = some (.func (.func 93) #[.agg #[.slice p0 p1 p2, .slice b0 b1 b2]] #[]) ∧ w9.cell? ⟨w3.heap.size, 0, none⟩ = some (.slice sx0 sx1 sx2) ∧ w9.cell? ⟨w3.heap.size, 1, none⟩ = some (.slice sy0 sy1 sy2) ∧ w9.cell? ⟨w3.heap.size, 2, none⟩ = some (.slice sz0 sz1 sz2) ∧ w9.cell? ⟨g, 9, none⟩ = some (.slice f0 f1 f2) ∧ w9.cell? ⟨g, 10, none⟩ = some (.slice g0 g1 g2) ∧ w9.cell? ⟨g, 11, none⟩ = some (.slice h0 h1 h2))) _ := ⟨hHF.out.cell 0 7 (Nat.le_of_ble_eq_true rfl) (Nat.le_of_ble_eq_true rfl), HI.out.1.cell 0 0 (Nat.le_of_ble_eq_true rfl) (Nat.le_of_ble_eq_true rfl), HI.out.1.cell 0 1 (Nat.le_of_ble_eq_true rfl) (Nat.le_of_ble_eq_true rfl), HI.out.1.cell 0 2 (Nat.le_of_ble_eq_true rfl) (Nat.le_of_ble_eq_true rfl), HI.out.2.1.cell 9 (by simp), HI.out.2.1.cell 10 (by simp), HI.out.2.1.cell 11 (by simp)⟩
              clear hK K
              try simp only [Act.put, List.setIfInBounds_toArray, List.set_cons_zero, List.set_cons_succ]
              refine wpAnyK_step 8 rfl (by kernel_rfl) (fun K hK => ?_)
              go_simp
              refine (digit_1 _ (B % n) j _ ((hHF.out.drew.got 0 (Nat.le_of_ble_eq_true rfl)).1) hdb (by have := Hj.out; omega)).mono ?_
              rintro e w9 ⟨rfl, rfl⟩
              try dsimp only
              refine hK.out _ _ ?hk24 ?_
              case hk24 => exact fun _ => ⟨hHF.out.cell 0 7 (Nat.le_of_ble_eq_true rfl) (Nat.le_of_ble_eq_true rfl), HI.out.1.cell 0 0 (Nat.le_of_ble_eq_true rfl) (Nat.le_of_ble_eq_true rfl), HI.out.1.cell 0 1 (Nat.le_of_ble_eq_true rfl) (Nat.le_of_ble_eq_true rfl), HI.out.1.cell 0 2 (Nat.le_of_ble_eq_true rfl) (Nat.le_of_ble_eq_true rfl), HI.out.2.1.cell 9 (by simp), HI.out.2.1.cell 10 (by simp), HI.out.2.1.cell 11 (by simp)⟩
              have hHeld : ((fun (w9 : World) => w9.cell? ⟨w.heap.size, 7, none⟩ = some (.func (.func 93) #[.agg #[.slice p0 p1 p2, .slice b0 b1 b2]] #[]) ∧ w9.cell? ⟨w3.heap.size, 0, none⟩ = some (.slice sx0 sx1 sx2) ∧ w9.cell? ⟨w3.heap.size, 1, none⟩ = some (.slice sy0 sy1 sy2) ∧ w9.cell? ⟨w3.heap.size, 2, none⟩ = some (.slice sz0 sz1 sz2) ∧ w9.cell? ⟨g, 9, none⟩ = some (.slice f0 f1 f2) ∧ w9.cell? ⟨g, 10, none⟩ = some (.slice g0 g1 g2) ∧ w9.cell? ⟨g, 11, none⟩ = some (.slice h0 h1 h2))) _ := ⟨hHF.out.cell 0 7 (Nat.le_of_ble_eq_true rfl) (Nat.le_of_ble_eq_true rfl), HI.out.1.cell 0 0 (Nat.le_of_ble_eq_true rfl) (Nat.le_of_ble_eq_true rfl), HI.out.1.cell 0 1 (Nat.le_of_ble_eq_true rfl) (Nat.le_of_ble_eq_true rfl), HI.out.1.cell 0 2 (Nat.le_of_ble_eq_true rfl) (Nat.le_of_ble_eq_true rfl), HI.out.2.1.cell 9 (by simp), HI.out.2.1.cell 10 (by simp), HI.out.2.1.cell 11 (by simp)⟩
              clear hK K
              try simp only [Act.put, List.setIfInBounds_toArray, List.set_cons_zero, List.set_cons_succ]
              refine wpAnyK_take0 9 (v := ?v25) rfl (by kernel_rfl) (fun _ _ _ h => h) (Or.inl ⟨by rfl, ?hy25⟩) (fun _ => hHeld) ?_
              case hy25 => (intro w hSw; go_simp; try with_reducible rfl)
              try simp only [Act.put, List.setIfInBounds_toArray, List.set_cons_zero, List.set_cons_succ]
              refine wpAnyK_take0 10 (v := ?v26) rfl (by kernel_rfl) (fun _ _ _ h => h) (Or.inl ⟨by rfl, ?hy26⟩) (fun _ => hHeld) ?_
              case hy26 => (intro w hSw; go_simp; try with_reducible rfl)
              try simp only [Act.put, List.setIfInBounds_toArray, List.set_cons_zero, List.set_cons_succ]
              refine wpAnyK_take0 11 (v := ?v27) rfl (by kernel_rfl) (fun _ _ _ h => h) (Or.inl ⟨by rfl, ?hy27⟩) (fun _ => hHeld) ?_
              case hy27 => (intro w hSw; go_simp; try with_reducible rfl)
              try simp only [Act.put, List.setIfInBounds_toArray, List.set_cons_zero, List.set_cons_succ]
              refine wpAnyK_take 12 [13, 14] (v := ?v28) rfl (by kernel_rfl) (fun _ _ _ h => h) (Or.inl ⟨by rfl, ?hy28⟩) hHeld ?_
              case hy28 => (intro w hSw; (try dsimp only at hSw); go_simp; try with_reducible rfl)
              try simp only [Act.put, List.setIfInBounds_toArray, List.set_cons_zero, List.set_cons_succ]
              refine wpAnyK_step 13 rfl (by kernel_rfl) (fun K hK => ?_)
              go_simp
              have hF := hHF.out.drew
              have hS := HI.out.1.drew
              refine (step_v (.slice p0 p1 p2) (.slice b0 b1 b2) _ _ p b X Y Z (plusX p b X1 Y1 Z1 X2 Y2 Z2) (plusY p b X1 Y1 Z1 X2 Y2 Z2) (plusZ p b X1 Y1 Z1 X2 Y2 Z2) _ Hp (hF.arg 0 (Nat.le_of_ble_eq_true rfl)) (hF.arg 1 (Nat.le_of_ble_eq_true rfl)) (show Rt _ _ X Y Z from ⟨_, _, _, rfl, HI.out.2.2.2.1.1.nk, HI.out.2.2.2.1.2.1.nk, HI.out.2.2.2.1.2.2.nk⟩) (show Rt _ _ (plusX p b X1 Y1 Z1 X2 Y2 Z2) (plusY p b X1 Y1 Z1 X2 Y2 Z2) (plusZ p b X1 Y1 Z1 X2 Y2 Z2) from ⟨_, _, _, rfl, HI.out.2.2.1.1.nk, HI.out.2.2.1.2.1.nk, HI.out.2.2.1.2.2.nk⟩)).mono ?_
              rintro e w9 ⟨q9, rfl, hm9, hB⟩
              have HF9 : Hid (Fm w w9 [(68, [.slice p0 p1 p2, .slice b0 b1 b2, .int .i64 s, .slice n0 n1 n2, .slice gx0 gx1 gx2, .slice gy0 gy1 gy2, .bool false, .func (.func 93) #[.agg #[.slice p0 p1 p2, .slice b0 b1 b2]] #[]]), (97, [.slice x0 x1 x2, .slice y0 y1 y2, .slice z0 z1 z2]), (97, [.slice u0 u1 u2, .slice v0 v1 v2, .slice t0 t1 t2]), (97, [.slice none 0 0, .slice none 0 0, .slice none 0 0])] [(.slice p0 p1 p2, p, 384), (.slice b0 b1 b2, b, 384), (.slice n0 n1 n2, n, 384), (.slice a0 a1 a2, A, 1024), (.slice c0 c1 c2, B, 1024)] [(.slice e0 e1 e2, B % n, 384), (.slice d0 d1 d2, A % n, 384)]) := hF.below hB
              have HS9 : Hid (Fm w3 w9 [(97, [.slice sx0 sx1 sx2, .slice sy0 sy1 sy2, .slice sz0 sz1 sz2])] [] []) := hS.below hB
              have HA9 : Hid (Bl 120 w9 g [.slice none 0 0, .slice i0 i1 i2, .slice none 0 0, .slice x0 x1 x2, .slice y0 y1 y2, .slice z0 z1 z2, .slice u0 u1 u2, .slice v0 v1 v2, .slice t0 t1 t2, .slice f0 f1 f2, .slice g0 g1 g2, .slice h0 h1 h2]) := (HI.out.2.1.drewN 1).below hB HI.out.2.1.lt
              have HQ9 : Hid (Mq w9 (w.heap.size + 4) w3.heap.size (.slice f0 f1 f2) (plusX p b X1 Y1 Z1 X2 Y2 Z2) ∧ Mq w9 (w.heap.size + 4) w3.heap.size (.slice g0 g1 g2) (plusY p b X1 Y1 Z1 X2 Y2 Z2) ∧ Mq w9 (w.heap.size + 4) w3.heap.size (.slice h0 h1 h2) (plusZ p b X1 Y1 Z1 X2 Y2 Z2)) := ⟨(show Mq (World.drew _) _ _ _ _ from HI.out.2.2.1.1).below hB, (show Mq (World.drew _) _ _ _ _ from HI.out.2.2.1.2.1).below hB, (show Mq (World.drew _) _ _ _ _ from HI.out.2.2.1.2.2).below hB⟩
              have HT9 : Hid (Rm _ w9 q9 _ _ _) := hm9
              clear hB hm9 hF hS
              try dsimp only
              refine hK.out _ _ ?hk29 ?_
              case hk29 => exact fun _ => ⟨HF9.out.cell 0 7 (Nat.le_of_ble_eq_true rfl) (Nat.le_of_ble_eq_true rfl), HS9.out.cell 0 0 (Nat.le_of_ble_eq_true rfl) (Nat.le_of_ble_eq_true rfl), HS9.out.cell 0 1 (Nat.le_of_ble_eq_true rfl) (Nat.le_of_ble_eq_true rfl), HS9.out.cell 0 2 (Nat.le_of_ble_eq_true rfl) (Nat.le_of_ble_eq_true rfl), HA9.out.cell 9 (by simp), HA9.out.cell 10 (by simp), HA9.out.cell 11 (by simp)⟩
              have hHeld : ((fun (w9 : World) => w9.cell? ⟨w.heap.size, 7, none⟩ = some (.func (.func 93) #[.agg #[.slice p0 p1 p2, .slice b0 b1 b2]] #[]) ∧ w9.cell? ⟨w3.heap.size, 0, none⟩ = some (.slice sx0 sx1 sx2) ∧ w9.cell? ⟨w3.heap.size, 1, none⟩ = some (.slice sy0 sy1 sy2) ∧ w9.cell? ⟨w3.heap.size, 2, none⟩ = some (.slice sz0 sz1 sz2) ∧ w9.cell? ⟨g, 9, none⟩ = some (.slice f0 f1 f2) ∧ w9.cell? ⟨g, 10, none⟩ = some (.slice g0 g1 g2) ∧ w9.cell? ⟨g, 11, none⟩ = some (.slice h0 h1 h2))) _ := ⟨HF9.out.cell 0 7 (Nat.le_of_ble_eq_true rfl) (Nat.le_of_ble_eq_true rfl), HS9.out.cell 0 0 (Nat.le_of_ble_eq_true rfl) (Nat.le_of_ble_eq_true rfl), HS9.out.cell 0 1 (Nat.le_of_ble_eq_true rfl) (Nat.le_of_ble_eq_true rfl), HS9.out.cell 0 2 (Nat.le_of_ble_eq_true rfl) (Nat.le_of_ble_eq_true rfl), HA9.out.cell 9 (by simp), HA9.out.cell 10 (by simp), HA9.out.cell 11 (by simp)⟩
              clear hK K
              try simp only [Act.put, List.setIfInBounds_toArray, List.set_cons_zero, List.set_cons_succ]
              obtain ⟨y1, y2, y3, rfl, m1, m2, m3⟩ := HT9.out
              obtain ⟨r10, r11, r12, rfl⟩ := m1.nk.sl
              obtain ⟨r20, r21, r22, rfl⟩ := m2.nk.sl
              obtain ⟨r30, r31, r32, rfl⟩ := m3.nk.sl
              have k0 : w9.cell? ⟨w3.heap.size, 0, none⟩ = some (.slice sx0 sx1 sx2) := HS9.out.cell 0 0 (Nat.le_of_ble_eq_true rfl) (Nat.le_of_ble_eq_true rfl)
              have k1 : w9.cell? ⟨w3.heap.size, 1, none⟩ = some (.slice sy0 sy1 sy2) := HS9.out.cell 0 1 (Nat.le_of_ble_eq_true rfl) (Nat.le_of_ble_eq_true rfl)
              have k2 : w9.cell? ⟨w3.heap.size, 2, none⟩ = some (.slice sz0 sz1 sz2) := HS9.out.cell 0 2 (Nat.le_of_ble_eq_true rfl) (Nat.le_of_ble_eq_true rfl)
              have l0 : w9.frozen? ⟨w3.heap.size, 0, none⟩ = false := HS9.out.frozen 0 0 (Nat.le_of_ble_eq_true rfl)
              have l1 : w9.frozen? ⟨w3.heap.size, 1, none⟩ = false := HS9.out.frozen 0 1 (Nat.le_of_ble_eq_true rfl)
              have l2 : w9.frozen? ⟨w3.heap.size, 2, none⟩ = false := HS9.out.frozen 0 2 (Nat.le_of_ble_eq_true rfl)
              refine wpAnyK_step 14 rfl (by kernel_rfl) (fun K hK => ?_)
              go_simp
              refine hK.out _ _ ?hk31 ?_
              case hk31 => exact (fun h => nomatch (h.symm.trans (show _ = true by kernel_rfl)))
              clear hK K
              try simp only [Act.put, List.setIfInBounds_toArray, List.set_cons_zero, List.set_cons_succ]
              refine wpAnyK_done (by kernel_rfl) ?_ _
              have hb := (((But.refl w9 w3.heap.size).set 0 (.slice r10 r11 r12)).set 1 (.slice r20 r21 r22)).set 2 (.slice r30 r31 r32)
              have hst := HS9.out.put3 (.slice r10 r11 r12) (.slice r20 r21 r22) (.slice r30 r31 r32) rfl
              go_wp2
              refine ⟨⟨_, i + 1, _, _, _, r10, r20, r30, r11, r12, r21, r22, r31, r32, rfl, by go_num, by omega, hst, HA9.out.but hb (by omega), ⟨HQ9.out.1.but hb, HQ9.out.2.1.but hb, HQ9.out.2.2.but hb⟩, ⟨⟨(m1.1.but' hb (fun e => by have hh := (m1.1.block e).1; have : _ ≤ w3.heap.size := hh; change w'.heap.size ≤ _ at this; omega)).base (by change w.heap.size + 4 ≤ w'.heap.size; omega), m1.2.1, m1.2.2, fun e => by have hh := (m1.1.block e).1; have : _ ≤ w3.heap.size := hh; change w'.heap.size ≤ _ at this; omega⟩, ⟨(m2.1.but' hb (fun e => by have hh := (m2.1.block e).1; have : _ ≤ w3.heap.size := hh; change w'.heap.size ≤ _ at this; omega)).base (by change w.heap.size + 4 ≤ w'.heap.size; omega), m2.2.1, m2.2.2, fun e => by have hh := (m2.1.block e).1; have : _ ≤ w3.heap.size := hh; change w'.heap.size ≤ _ at this; omega⟩, ⟨(m3.1.but' hb (fun e => by have hh := (m3.1.block e).1; have : _ ≤ w3.heap.size := hh; change w'.heap.size ≤ _ at this; omega)).base (by change w.heap.size + 4 ≤ w'.heap.size; omega), m3.2.1, m3.2.2, fun e => by have hh := (m3.1.block e).1; have : _ ≤ w3.heap.size := hh; change w'.heap.size ≤ _ at this; omega⟩⟩, ?_⟩, by simp [intOf]; omega⟩
              rw [show D - (i + 1) = j by have := Hj.out; omega]
              have hst2 := hk.cv.stepR Hp.out HN.out (hk.cv.plusR Hp.out HM.out.1 HM.out.2.1 HM.out.2.2.1 HM.out.2.2.2) (hk.cv.son (hk.cv.mon HM.out.2.2.1 _) (hk.cv.mon HM.out.2.2.2 _)) (hk.cv.son HM.out.2.2.1 HM.out.2.2.2)
              rw [hk.cv.lad11 HM.out.2.2.1 HM.out.2.2.2 hda hdb] at hst2
              exact hst2
            · refine wp_region_K 14 (fun (w9 : World) => w9.cell? ⟨w.heap.size, 7, none⟩ = some (.func (.func 93) #[.agg #[.slice p0 p1 p2, .slice b0 b1 b2]] #[]) ∧ w9.cell? ⟨w3.heap.size, 0, none⟩ = some (.slice sx0 sx1 sx2) ∧ w9.cell? ⟨w3.heap.size, 1, none⟩ = some (.slice sy0 sy1 sy2) ∧ w9.cell? ⟨w3.heap.size, 2, none⟩ = some (.slice sz0 sz1 sz2) ∧ w9.cell? ⟨g, 3, none⟩ = some (.slice x0 x1 x2) ∧ w9.cell? ⟨g, 4, none⟩ = some (.slice y0 y1 y2) ∧ w9.cell? ⟨g, 5, none⟩ = some (.slice z0 z1 z2)) (by kernel_rfl) ?_
              have hHeld : ((fun (w9 : World) => w9.cell? ⟨w.heap.size, 7, none⟩ = some (.func (.func 93) #[.agg #[.slice p0 p1 p2, .slice b0 b1 b2]] #[]) ∧ w9.cell? ⟨w3.heap.size, 0, none⟩ = some (.slice sx0 sx1 sx2) ∧ w9.cell? ⟨w3.heap.size, 1, none⟩ = some (.slice sy0 sy1 sy2) ∧ w9.cell? ⟨w3.heap.size, 2, none⟩ = some (.slice sz0 sz1 sz2) ∧ w9.cell? ⟨g, 3, none⟩ = some (.slice x0 x1 x2) ∧ w9.cell? ⟨g, 4, none⟩ = some (.slice y0 y1 y2) ∧ w9.cell? ⟨g, 5, none⟩ = some (.slice z0 z1 z2))) (World.drew _) := ⟨hHF.out.cell 0 7 (Nat.le_of_ble_eq_true rfl) (Nat.le_of_ble_eq_true rfl), HI.out.1.cell 0 0 (Nat.le_of_ble_eq_true rfl) (Nat.le_of_ble_eq_true rfl), HI.out.1.cell 0 1 (Nat.le_of_ble_eq_true rfl) (Nat.le_of_ble_eq_true rfl), HI.out.1.cell 0 2 (Nat.le_of_ble_eq_true rfl) (Nat.le_of_ble_eq_true rfl), HI.out.2.1.cell 3 (by simp), HI.out.2.1.cell 4 (by simp), HI.out.2.1.cell 5 (by simp)⟩
              refine wpAnyK_take0 0 (v := ?v32) rfl (by kernel_rfl) (fun _ _ _ h => h) (Or.inl ⟨by rfl, ?hy32⟩) (fun _ => hHeld) ?_
              case hy32 => (intro w hSw; go_simp; try with_reducible rfl)
              try simp only [Act.put, List.setIfInBounds_toArray, List.set_cons_zero, List.set_cons_succ]
              refine wpAnyK_take 1 [13, 14] (v := ?v33) rfl (by kernel_rfl) (fun _ _ _ h => h) (Or.inl ⟨by rfl, ?hy33⟩) hHeld ?_
              case hy33 => (intro w hSw; (try dsimp only at hSw); go_simp; try with_reducible rfl)
              try simp only [Act.put, List.setIfInBounds_toArray, List.set_cons_zero, List.set_cons_succ]
              refine wpAnyK_take 2 [13, 14] (v := ?v34) rfl (by kernel_rfl) (fun _ _ _ h => h) (Or.inl ⟨by rfl, ?hy34⟩) hHeld ?_
              case hy34 => (intro w hSw; (try dsimp only at hSw); go_simp; try with_reducible rfl)
              try simp only [Act.put, List.setIfInBounds_toArray, List.set_cons_zero, List.set_cons_succ]
              refine wpAnyK_take0 3 (v := ?v35) rfl (by kernel_rfl) (fun _ _ _ h => h) (Or.inl ⟨by rfl, ?hy35⟩) (fun _ => hHeld) ?_
              case hy35 => (intro w hSw; go_simp; try with_reducible rfl)
              try simp only [Act.put, List.setIfInBounds_toArray, List.set_cons_zero, List.set_cons_succ]
              refine wpAnyK_take0 4 (v := ?v36) rfl (by kernel_rfl) (fun _ _ _ h => h) (Or.inl ⟨by rfl, ?hy36⟩) (fun _ => hHeld) ?_
              case hy36 => (intro w hSw; go_simp; try with_reducible rfl)
              try simp only [Act.put, List.setIfInBounds_toArray, List.set_cons_zero, List.set_cons_succ]
              refine wpAnyK_take0 6 (v := ?v37) rfl (by kernel_rfl) (fun _ _ _ h => h) (Or.inl ⟨by rfl, ?hy37⟩) (fun _ => hHeld) ?_
              case hy37 => (intro w hSw; go_simp; try with_reducible rfl)
              try simp only [Act.put, List.setIfInBounds_toArray, List.set_cons_zero, List.set_cons_succ]
              refine wpAnyK_take0 7 (v := ?v38) rfl (by kernel_rfl) (fun _ _ _ h => h) (Or.inl ⟨by rfl, ?hy38⟩) (fun _ => hHeld) ?_
              case hy38 => (intro w hSw; go_simp; try with_reducible rfl)
              try simp only [Act.put, List.setIfInBounds_toArray, List.set_cons_zero, List.set_cons_succ]
              refine wpAnyK_step 5 rfl (by kernel_rfl) (fun K hK => ?_)
              go_simp
              refine (digit_1 _ (A % n) j _ ((hHF.out.drew.got 1 (Nat.le_of_ble_eq_true rfl)).1) hda (by have := Hj.out; omega)).mono ?_
              rintro e w9 ⟨rfl, rfl⟩
              try dsimp only
              refine hK.out _ _ ?hk39 ?_
              case hk39 => exact fun _ => ⟨hHF.out.cell 0 7 (Nat.le_of_ble_eq_true rfl) (Nat.le_of_ble_eq_true rfl), HI.out.1.cell 0 0 (Nat.le_of_ble_eq_true rfl) (Nat.le_of_ble_eq_true rfl), HI.out.1.cell 0 1 (Nat.le_of_ble_eq_true rfl) (Nat.le_of_ble_eq_true rfl), HI.out.1.cell 0 2 (Nat.le_of_ble_eq_true rfl) (Nat.le_of_ble_eq_true rfl), HI.out.2.1.cell 3 (by simp), HI.out.2.1.cell 4 (by simp), HI.out.2.1.cell 5 (by simp)⟩
              have hHeld : ((fun (w9 : World) => w9.cell? ⟨w.heap.size, 7, none⟩ = some (.func (.func 93) #[.agg #[.slice p0 p1 p2, .slice b0 b1 b2]] #[]) ∧ w9.cell? ⟨w3.heap.size, 0, none⟩ = some (.slice sx0 sx1 sx2) ∧ w9.cell? ⟨w3.heap.size, 1, none⟩ = some (.slice sy0 sy1 sy2) ∧ w9.cell? ⟨w3.heap.size, 2, none⟩ = some (.slice sz0 sz1 sz2) ∧ w9.cell? ⟨g, 3, none⟩ = some (.slice x0 x1 x2) ∧ w9.cell? ⟨g, 4, none⟩ = some (.slice y0 y1 y2) ∧ w9.cell? ⟨g, 5, none⟩ = some (.slice z0 z1 z2))) _ := ⟨hHF.out.cell 0 7 (Nat.le_of_ble_eq_true rfl) (Nat.le_of_ble_eq_true rfl), HI.out.1.cell 0 0 (Nat.le_of_ble_eq_true rfl) (Nat.le_of_ble_eq_true rfl), HI.out.1.cell 0 1 (Nat.le_of_ble_eq_true rfl) (Nat.le_of_ble_eq_true rfl), HI.out.1.cell 0 2 (Nat.le_of_ble_eq_true rfl) (Nat.le_of_ble_eq_true rfl), HI.out.2.1.cell 3 (by simp), HI.out.2.1.cell 4 (by simp), HI.out.2.1.cell 5 (by simp)⟩
              clear hK K
              try simp only [Act.put, List.setIfInBounds_toArray, List.set_cons_zero, List.set_cons_succ]
              refine wpAnyK_step 8 rfl (by kernel_rfl) (fun K hK => ?_)
              go_simp
              refine (digit_0 _ (B % n) j _ ((hHF.out.drew.got 0 (Nat.le_of_ble_eq_true rfl)).1) hdb (by have := Hj.out; omega)).mono ?_
              rintro e w9 ⟨rfl, rfl⟩
              try dsimp only
              refine hK.out _ _ ?hk40 ?_
              case hk40 => exact fun _ => ⟨hHF.out.cell 0 7 (Nat.le_of_ble_eq_true rfl) (Nat.le_of_ble_eq_true rfl), HI.out.1.cell 0 0 (Nat.le_of_ble_eq_true rfl) (Nat.le_of_ble_eq_true rfl), HI.out.1.cell 0 1 (Nat.le_of_ble_eq_true rfl) (Nat.le_of_ble_eq_true rfl), HI.out.1.cell 0 2 (Nat.le_of_ble_eq_true rfl) (Nat.le_of_ble_eq_true rfl), HI.out.2.1.cell 3 (by simp), HI.out.2.1.cell 4 (by simp), HI.out.2.1.cell 5 (by simp)⟩
              have hHeld : ((fun (w9 : World) => w9.cell? ⟨w.heap.size, 7, none⟩ = some (.func (.func 93) #[.agg #[.slice p0 p1 p2, .slice b0 b1 b2]] #[]) ∧ w9.cell? ⟨w3.heap.size, 0, none⟩ = some (.slice sx0 sx1 sx2) ∧ w9.cell? ⟨w3.heap.size, 1, none⟩ = some (.slice sy0 sy1 sy2) ∧ w9.cell? ⟨w3.heap.size, 2, none⟩ = some (.slice sz0 sz1 sz2) ∧ w9.cell? ⟨g, 3, none⟩ = some (.slice x0 x1 x2) ∧ w9.cell? ⟨g, 4, none⟩ = some (.slice y0 y1 y2) ∧ w9.cell? ⟨g, 5, none⟩ = some (.slice z0 z1 z2))) _ := ⟨hHF.out.cell 0 7 (Nat.le_of_ble_eq_true rfl) (Nat.le_of_ble_eq_true rfl), HI.out.1.cell 0 0 (Nat.le_of_ble_eq_true rfl) (Nat.le_of_ble_eq_true rfl), HI.out.1.cell 0 1 (Nat.le_of_ble_eq_true rfl) (Nat.le_of_ble_eq_true rfl), HI.out.1.cell 0 2 (Nat.le_of_ble_eq_true rfl) (Nat.le_of_ble_eq_true rfl), HI.out.2.1.cell 3 (by simp), HI.out.2.1.cell 4 (by simp), HI.out.2.1.cell 5 (by simp)⟩
              clear hK K
              try simp only [Act.put, List.setIfInBounds_toArray, List.set_cons_zero, List.set_cons_succ]
              refine wpAnyK_take0 9 (v := ?v41) rfl (by kernel_rfl) (fun _ _ _ h => h) (Or.inl ⟨by rfl, ?hy41⟩) (fun _ => hHeld) ?_
              case hy41 => (intro w hSw; go_simp; try with_reducible rfl)
              try simp only [Act.put, List.setIfInBounds_toArray, List.set_cons_zero, List.set_cons_succ]
              refine wpAnyK_take0 10 (v := ?v42) rfl (by kernel_rfl) (fun _ _ _ h => h) (Or.inl ⟨by rfl, ?hy42⟩) (fun _ => hHeld) ?_
              case hy42 => (intro w hSw; go_simp; try with_reducible rfl)
              try simp only [Act.put, List.setIfInBounds_toArray, List.set_cons_zero, List.set_cons_succ]
              refine wpAnyK_take0 11 (v := ?v43) rfl (by kernel_rfl) (fun _ _ _ h => h) (Or.inl ⟨by rfl, ?hy43⟩) (fun _ => hHeld) ?_
              case hy43 => (intro w hSw; go_simp; try with_reducible rfl)
              try simp only [Act.put, List.setIfInBounds_toArray, List.set_cons_zero, List.set_cons_succ]
              refine wpAnyK_take 12 [13, 14] (v := ?v44) rfl (by kernel_rfl) (fun _ _ _ h => h) (Or.inl ⟨by rfl, ?hy44⟩) hHeld ?_
              case hy44 => (intro w hSw; (try dsimp only at hSw); go_simp; try with_reducible rfl)
              try simp only [Act.put, List.setIfInBounds_toArray, List.set_cons_zero, List.set_cons_succ]
              refine wpAnyK_step 13 rfl (by kernel_rfl) (fun K hK => ?_)
              go_simp
              have hF := hHF.out.drew
              have hS := HI.out.1.drew
              refine (step_v (.slice p0 p1 p2) (.slice b0 b1 b2) _ _ p b X Y Z X1 Y1 Z1 _ Hp (hF.arg 0 (Nat.le_of_ble_eq_true rfl)) (hF.arg 1 (Nat.le_of_ble_eq_true rfl)) (show Rt _ _ X Y Z from ⟨_, _, _, rfl, HI.out.2.2.2.1.1.nk, HI.out.2.2.2.1.2.1.nk, HI.out.2.2.2.1.2.2.nk⟩) (HR.out.1.below hF.bel (Nat.le_refl _))).mono ?_
              rintro e w9 ⟨q9, rfl, hm9, hB⟩
              have HF9 : Hid (Fm w w9 [(68, [.slice p0 p1 p2, .slice b0 b1 b2, .int .i64 s, .slice n0 n1 n2, .slice gx0 gx1 gx2, .slice gy0 gy1 gy2, .bool false, .func (.func 93) #[.agg #[.slice p0 p1 p2, .slice b0 b1 b2]] #[]]), (97, [.slice x0 x1 x2, .slice y0 y1 y2, .slice z0 z1 z2]), (97, [.slice u0 u1 u2, .slice v0 v1 v2, .slice t0 t1 t2]), (97, [.slice none 0 0, .slice none 0 0, .slice none 0 0])] [(.slice p0 p1 p2, p, 384), (.slice b0 b1 b2, b, 384), (.slice n0 n1 n2, n, 384), (.slice a0 a1 a2, A, 1024), (.slice c0 c1 c2, B, 1024)] [(.slice e0 e1 e2, B % n, 384), (.slice d0 d1 d2, A % n, 384)]) := hF.below hB
              have HS9 : Hid (Fm w3 w9 [(97, [.slice sx0 sx1 sx2, .slice sy0 sy1 sy2, .slice sz0 sz1 sz2])] [] []) := hS.below hB
              have HA9 : Hid (Bl 120 w9 g [.slice none 0 0, .slice i0 i1 i2, .slice none 0 0, .slice x0 x1 x2, .slice y0 y1 y2, .slice z0 z1 z2, .slice u0 u1 u2, .slice v0 v1 v2, .slice t0 t1 t2, .slice f0 f1 f2, .slice g0 g1 g2, .slice h0 h1 h2]) := (HI.out.2.1.drewN 1).below hB HI.out.2.1.lt
              have HQ9 : Hid (Mq w9 (w.heap.size + 4) w3.heap.size (.slice f0 f1 f2) (plusX p b X1 Y1 Z1 X2 Y2 Z2) ∧ Mq w9 (w.heap.size + 4) w3.heap.size (.slice g0 g1 g2) (plusY p b X1 Y1 Z1 X2 Y2 Z2) ∧ Mq w9 (w.heap.size + 4) w3.heap.size (.slice h0 h1 h2) (plusZ p b X1 Y1 Z1 X2 Y2 Z2)) := ⟨(show Mq (World.drew _) _ _ _ _ from HI.out.2.2.1.1).below hB, (show Mq (World.drew _) _ _ _ _ from HI.out.2.2.1.2.1).below hB, (show Mq (World.drew _) _ _ _ _ from HI.out.2.2.1.2.2).below hB⟩
              have HT9 : Hid (Rm _ w9 q9 _ _ _) := hm9
              clear hB hm9 hF hS
              try dsimp only
              refine hK.out _ _ ?hk45 ?_
              case hk45 => exact fun _ => ⟨HF9.out.cell 0 7 (Nat.le_of_ble_eq_true rfl) (Nat.le_of_ble_eq_true rfl), HS9.out.cell 0 0 (Nat.le_of_ble_eq_true rfl) (Nat.le_of_ble_eq_true rfl), HS9.out.cell 0 1 (Nat.le_of_ble_eq_true rfl) (Nat.le_of_ble_eq_true rfl), HS9.out.cell 0 2 (Nat.le_of_ble_eq_true rfl) (Nat.le_of_ble_eq_true rfl), HA9.out.cell 3 (by simp), HA9.out.cell 4 (by simp), HA9.out.cell 5 (by simp)⟩
              have hHeld : ((fun (w9 : World) => w9.cell? ⟨w.heap.size, 7, none⟩ = some (.func (.func 93) #[.agg #[.slice p0 p1 p2, .slice b0 b1 b2]] #[]) ∧ w9.cell? ⟨w3.heap.size, 0, none⟩ = some (.slice sx0 sx1 sx2) ∧ w9.cell? ⟨w3.heap.size, 1, none⟩ = some (.slice sy0 sy1 sy2) ∧ w9.cell? ⟨w3.heap.size, 2, none⟩ = some (.slice sz0 sz1 sz2) ∧ w9.cell? ⟨g, 3, none⟩ = some (.slice x0 x1 x2) ∧ w9.cell? ⟨g, 4, none⟩ = some (.slice y0 y1 y2) ∧ w9.cell? ⟨g, 5, none⟩ = some (.slice z0 z1 z2))) _ := ⟨HF9.out.cell 0 7 (Nat.le_of_ble_eq_true rfl) (Nat.le_of_ble_eq_true rfl), HS9.out.cell 0 0 (Nat.le_of_ble_eq_true rfl) (Nat.le_of_ble_eq_true rfl), HS9.out.cell 0 1 (Nat.le_of_ble_eq_true rfl) (Nat.le_of_ble_eq_true rfl), HS9.out.cell 0 2 (Nat.le_of_ble_eq_true rfl) (Nat.le_of_ble_eq_true rfl), HA9.out.cell 3 (by simp), HA9.out.cell 4 (by simp), HA9.out.cell 5 (by simp)⟩
              clear hK K
              try simp only [Act.put, List.setIfInBounds_toArray, List.set_cons_zero, List.set_cons_succ]
              obtain ⟨y1, y2, y3, rfl, m1, m2, m3⟩ := HT9.out
              obtain ⟨r10, r11, r12, rfl⟩ := m1.nk.sl
              obtain ⟨r20, r21, r22, rfl⟩ := m2.nk.sl
              obtain ⟨r30, r31, r32, rfl⟩ := m3.nk.sl
              have k0 : w9.cell? ⟨w3.heap.size, 0, none⟩ = some (.slice sx0 sx1 sx2) := HS9.out.cell 0 0 (Nat.le_of_ble_eq_true rfl) (Nat.le_of_ble_eq_true rfl)
              have k1 : w9.cell? ⟨w3.heap.size, 1, none⟩ = some (.slice sy0 sy1 sy2) := HS9.out.cell 0 1 (Nat.le_of_ble_eq_true rfl) (Nat.le_of_ble_eq_true rfl)
              have k2 : w9.cell? ⟨w3.heap.size, 2, none⟩ = some (.slice sz0 sz1 sz2) := HS9.out.cell 0 2 (Nat.le_of_ble_eq_true rfl) (Nat.le_of_ble_eq_true rfl)
              have l0 : w9.frozen? ⟨w3.heap.size, 0, none⟩ = false := HS9.out.frozen 0 0 (Nat.le_of_ble_eq_true rfl)
              have l1 : w9.frozen? ⟨w3.heap.size, 1, none⟩ = false := HS9.out.frozen 0 1 (Nat.le_of_ble_eq_true rfl)
              have l2 : w9.frozen? ⟨w3.heap.size, 2, none⟩ = false := HS9.out.frozen 0 2 (Nat.le_of_ble_eq_true rfl)
              refine wpAnyK_step 14 rfl (by kernel_rfl) (fun K hK => ?_)
              go_simp
              refine hK.out _ _ ?hk47 ?_
              case hk47 => exact (fun h => nomatch (h.symm.trans (show _ = true by kernel_rfl)))
              clear hK K
              try simp only [Act.put, List.setIfInBounds_toArray, List.set_cons_zero, List.set_cons_succ]
              refine wpAnyK_done (by kernel_rfl) ?_ _
              have hb := (((But.refl w9 w3.heap.size).set 0 (.slice r10 r11 r12)).set 1 (.slice r20 r21 r22)).set 2 (.slice r30 r31 r32)
              have hst := HS9.out.put3 (.slice r10 r11 r12) (.slice r20 r21 r22) (.slice r30 r31 r32) rfl
              go_wp2
              refine ⟨⟨_, i + 1, _, _, _, r10, r20, r30, r11, r12, r21, r22, r31, r32, rfl, by go_num, by omega, hst, HA9.out.but hb (by omega), ⟨HQ9.out.1.but hb, HQ9.out.2.1.but hb, HQ9.out.2.2.but hb⟩, ⟨⟨(m1.1.but' hb (fun e => by have hh := (m1.1.block e).1; have : _ ≤ w3.heap.size := hh; change w'.heap.size ≤ _ at this; omega)).base (by change w.heap.size + 4 ≤ w'.heap.size; omega), m1.2.1, m1.2.2, fun e => by have hh := (m1.1.block e).1; have : _ ≤ w3.heap.size := hh; change w'.heap.size ≤ _ at this; omega⟩, ⟨(m2.1.but' hb (fun e => by have hh := (m2.1.block e).1; have : _ ≤ w3.heap.size := hh; change w'.heap.size ≤ _ at this; omega)).base (by change w.heap.size + 4 ≤ w'.heap.size; omega), m2.2.1, m2.2.2, fun e => by have hh := (m2.1.block e).1; have : _ ≤ w3.heap.size := hh; change w'.heap.size ≤ _ at this; omega⟩, ⟨(m3.1.but' hb (fun e => by have hh := (m3.1.block e).1; have : _ ≤ w3.heap.size := hh; change w'.heap.size ≤ _ at this; omega)).base (by change w.heap.size + 4 ≤ w'.heap.size; omega), m3.2.1, m3.2.2, fun e => by have hh := (m3.1.block e).1; have : _ ≤ w3.heap.size := hh; change w'.heap.size ≤ _ at this; omega⟩⟩, ?_⟩, by simp [intOf]; omega⟩
              rw [show D - (i + 1) = j by have := Hj.out; omega]
              have hst2 := hk.cv.stepR Hp.out HN.out (HM.out.1) (hk.cv.son (hk.cv.mon HM.out.2.2.1 _) (hk.cv.mon HM.out.2.2.2 _)) (HM.out.2.2.1)
              rw [hk.cv.lad10 HM.out.2.2.1 HM.out.2.2.2 hda hdb] at hst2
              exact hst2
          · by_cases hdb : B % n / 2 ^ j % 2 = 1
            · refine wp_region_K 14 (fun (w9 : World) => w9.cell? ⟨w.heap.size, 7, none⟩ = some (.func (.func 93) #[.agg #[.slice p0 p1 p2, .slice b0 b1 b2]] #[]) ∧ w9.cell? ⟨w3.heap.size, 0, none⟩ = some (.slice sx0 sx1 sx2) ∧ w9.cell? ⟨w3.heap.size, 1, none⟩ = some (.slice sy0 sy1 sy2) ∧ w9.cell? ⟨w3.heap.size, 2, none⟩ = some (.slice sz0 sz1 sz2) ∧ w9.cell? ⟨g, 6, none⟩ = some (.slice u0 u1 u2) ∧ w9.cell? ⟨g, 7, none⟩ = some (.slice v0 v1 v2) ∧ w9.cell? ⟨g, 8, none⟩ = some (.slice t0 t1 t2)) (by kernel_rfl) ?_
              have hHeld : ((fun (w9 : World) => w9.cell? ⟨w.heap.size, 7, none⟩ = some (.func (.func 93) #[.agg #[.slice p0 p1 p2, .slice b0 b1 b2]] #[]) ∧ w9.cell? ⟨w3.heap.size, 0, none⟩ = some (.slice sx0 sx1 sx2) ∧ w9.cell? ⟨w3.heap.size, 1, none⟩ = some (.slice sy0 sy1 sy2) ∧ w9.cell? ⟨w3.heap.size, 2, none⟩ = some (.slice sz0 sz1 sz2) ∧ w9.cell? ⟨g, 6, none⟩ = some (.slice u0 u1 u2) ∧ w9.cell? ⟨g, 7, none⟩ = some (.slice v0 v1 v2) ∧ w9.cell? ⟨g, 8, none⟩ = some (.slice t0 t1 t2))) (World.drew _) := ⟨hHF.out.cell 0 7 (Nat.le_of_ble_eq_true rfl) (Nat.le_of_ble_eq_true rfl), HI.out.1.cell 0 0 (Nat.le_of_ble_eq_true rfl) (Nat.le_of_ble_eq_true rfl), HI.out.1.cell 0 1 (Nat.le_of_ble_eq_true rfl) (Nat.le_of_ble_eq_true rfl), HI.out.1.cell 0 2 (Nat.le_of_ble_eq_true rfl) (Nat.le_of_ble_eq_true rfl), HI.out.2.1.cell 6 (by simp), HI.out.2.1.cell 7 (by simp), HI.out.2.1.cell 8 (by simp)⟩
              refine wpAnyK_take0 0 (v := ?v48) rfl (by kernel_rfl) (fun _ _ _ h => h) (Or.inl ⟨by rfl, ?hy48⟩) (fun _ => hHeld) ?_
              case hy48 => (intro w hSw; go_simp; try with_reducible rfl)
              try simp only [Act.put, List.setIfInBounds_toArray, List.set_cons_zero, List.set_cons_succ]
              refine wpAnyK_take 1 [13, 14] (v := ?v49) rfl (by kernel_rfl) (fun _ _ _ h => h) (Or.inl ⟨by rfl, ?hy49⟩) hHeld ?_
              case hy49 => (intro w hSw; (try dsimp only at hSw); go_simp; try with_reducible rfl)
              try simp only [Act.put, List.setIfInBounds_toArray, List.set_cons_zero, List.set_cons_succ]
              refine wpAnyK_take 2 [13, 14] (v := ?v50) rfl (by kernel_rfl) (fun _ _ _ h => h) (Or.inl ⟨by rfl, ?hy50⟩) hHeld ?_
              case hy50 => (intro w hSw; (try dsimp only at hSw); go_simp; try with_reducible rfl)
              try simp only [Act.put, List.setIfInBounds_toArray, List.set_cons_zero, List.set_cons_succ]
              refine wpAnyK_take0 3 (v := ?v51) rfl (by kernel_rfl) (fun _ _ _ h => h) (Or.inl ⟨by rfl, ?hy51⟩) (fun _ => hHeld) ?_
              case hy51 => (intro w hSw; go_simp; try with_reducible rfl)
              try simp only [Act.put, List.setIfInBounds_toArray, List.set_cons_zero, List.set_cons_succ]
              refine wpAnyK_take0 4 (v := ?v52) rfl (by kernel_rfl) (fun _ _ _ h => h) (Or.inl ⟨by rfl, ?hy52⟩) (fun _ => hHeld) ?_
              case hy52 => (intro w hSw; go_simp; try with_reducible rfl)
              try simp only [Act.put, List.setIfInBounds_toArray, List.set_cons_zero, List.set_cons_succ]
              refine wpAnyK_take0 6 (v := ?v53) rfl (by kernel_rfl) (fun _ _ _ h => h) (Or.inl ⟨by rfl, ?hy53⟩) (fun _ => hHeld) ?_
              case hy53 => (intro w hSw; go_simp; try with_reducible rfl)
              try simp only [Act.put, List.setIfInBounds_toArray, List.set_cons_zero, List.set_cons_succ]
              refine wpAnyK_take0 7 (v := ?v54) rfl (by kernel_rfl) (fun _ _ _ h => h) (Or.inl ⟨by rfl, ?hy54⟩) (fun _ => hHeld) ?_
              case hy54 => (intro w hSw; go_simp; try with_reducible rfl)
              try simp only [Act.put, List.setIfInBounds_toArray, List.set_cons_zero, List.set_cons_succ]
              refine wpAnyK_step 5 rfl (by kernel_rfl) (fun K hK => ?_)
              go_simp
              refine (digit_0 _ (A % n) j _ ((hHF.out.drew.got 1 (Nat.le_of_ble_eq_true rfl)).1) hda (by have := Hj.out; omega)).mono ?_
              rintro e w9 ⟨rfl, rfl⟩
              try dsimp only
              refine hK.out _ _ ?hk55 ?_
              case hk55 => exact fun _ => ⟨hHF.out.cell 0 7 (Nat.le_of_ble_eq_true rfl) (Nat.le_of_ble_eq_true rfl), HI.out.1.cell 0 0 (Nat.le_of_ble_eq_true rfl) (Nat.le_of_ble_eq_true rfl), HI.out.1.cell 0 1 (Nat.le_of_ble_eq_true rfl) (Nat.le_of_ble_eq_true rfl), HI.out.1.cell 0 2 (Nat.le_of_ble_eq_true rfl) (Nat.le_of_ble_eq_true rfl), HI.out.2.1.cell 6 (by simp), HI.out.2.1.cell 7 (by simp), HI.out.2.1.cell 8 (by simp)⟩
              have hHeld : ((fun (w9 : World) => w9.cell? ⟨w.heap.size, 7, none⟩ = some (.func (.func 93) #[.agg #[.slice p0 p1 p2, .slice b0 b1 b2]] #[]) ∧ w9.cell? ⟨w3.heap.size, 0, none⟩ = some (.slice sx0 sx1 sx2) ∧ w9.cell? ⟨w3.heap.size, 1, none⟩ = some (.slice sy0 sy1 sy2) ∧ w9.cell? ⟨w3.heap.size, 2, none⟩ = some (.slice sz0 sz1 sz2) ∧ w9.cell? ⟨g, 6, none⟩ = some (.slice u0 u1 u2) ∧ w9.cell? ⟨g, 7, none⟩ = some (.slice v0 v1 v2) ∧ w9.cell? ⟨g, 8, none⟩ = some (.slice t0 t1 t2))) _ := ⟨hHF.out.cell 0 7 (Nat.le_of_ble_eq_true rfl) (Nat.le_of_ble_eq_true rfl), HI.out.1.cell 0 0 (Nat.le_of_ble_eq_true rfl) (Nat.le_of_ble_eq_true rfl), HI.out.1.cell 0 1 (Nat.le_of_ble_eq_true rfl) (Nat.le_of_ble_eq_true rfl), HI.out.1.cell 0 2 (Nat.le_of_ble_eq_true rfl) (Nat.le_of_ble_eq_true rfl), HI.out.2.1.cell 6 (by simp), HI.out.2.1.cell 7 (by simp), HI.out.2.1.cell 8 (by simp)⟩
              clear hK K
              try simp only [Act.put, List.setIfInBounds_toArray, List.set_cons_zero, List.set_cons_succ]
              refine wpAnyK_step 8 rfl (by kernel_rfl) (fun K hK => ?_)
              go_simp
              refine (digit_1 _ (B % n) j _ ((hHF.out.drew.got 0 (Nat.le_of_ble_eq_true rfl)).1) hdb (by have := Hj.out; omega)).mono ?_
              rintro e w9 ⟨rfl, rfl⟩
              try dsimp only
              refine hK.out _ _ ?hk56 ?_
              case hk56 => exact fun _ => ⟨hHF.out.cell 0 7 (Nat.le_of_ble_eq_true rfl) (Nat.le_of_ble_eq_true rfl), HI.out.1.cell 0 0 (Nat.le_of_ble_eq_true rfl) (Nat.le_of_ble_eq_true rfl), HI.out.1.cell 0 1 (Nat.le_of_ble_eq_true rfl) (Nat.le_of_ble_eq_true rfl), HI.out.1.cell 0 2 (Nat.le_of_ble_eq_true rfl) (Nat.le_of_ble_eq_true rfl), HI.out.2.1.cell 6 (by simp), HI.out.2.1.cell 7 (by simp), HI.out.2.1.cell 8 (by simp)⟩
              have hHeld : ((fun (w9 : World) => w9.cell? ⟨w.heap.size, 7, none⟩ = some (.func (.func 93) #[.agg #[.slice p0 p1 p2, .slice b0 b1 b2]] #[]) ∧ w9.cell? ⟨w3.heap.size, 0, none⟩ = some (.slice sx0 sx1 sx2) ∧ w9.cell? ⟨w3.heap.size, 1, none⟩ = some (.slice sy0 sy1 sy2) ∧ w9.cell? ⟨w3.heap.size, 2, none⟩ = some (.slice sz0 sz1 sz2) ∧ w9.cell? ⟨g, 6, none⟩ = some (.slice u0 u1 u2) ∧ w9.cell? ⟨g, 7, none⟩ = some (.slice v0 v1 v2) ∧ w9.cell? ⟨g, 8, none⟩ = some (.slice t0 t1 t2))) _ := ⟨hHF.out.cell 0 7 (Nat.le_of_ble_eq_true rfl) (Nat.le_of_ble_eq_true rfl), HI.out.1.cell 0 0 (Nat.le_of_ble_eq_true rfl) (Nat.le_of_ble_eq_true rfl), HI.out.1.cell 0 1 (Nat.le_of_ble_eq_true rfl) (Nat.le_of_ble_eq_true rfl), HI.out.1.cell 0 2 (Nat.le_of_ble_eq_true rfl) (Nat.le_of_ble_eq_true rfl), HI.out.2.1.cell 6 (by simp), HI.out.2.1.cell 7 (by simp), HI.out.2.1.cell 8 (by simp)⟩
              clear hK K
              try simp only [Act.put, List.setIfInBounds_toArray, List.set_cons_zero, List.set_cons_succ]
              refine wpAnyK_take0 9 (v := ?v57) rfl (by kernel_rfl) (fun _ _ _ h => h) (Or.inl ⟨by rfl, ?hy57⟩) (fun _ => hHeld) ?_
              case hy57 => (intro w hSw; go_simp; try with_reducible rfl)
              try simp only [Act.put, List.setIfInBounds_toArray, List.set_cons_zero, List.set_cons_succ]
              refine wpAnyK_take0 10 (v := ?v58) rfl (by kernel_rfl) (fun _ _ _ h => h) (Or.inl ⟨by rfl, ?hy58⟩) (fun _ => hHeld) ?_
              case hy58 => (intro w hSw; go_simp; try with_reducible rfl)
              try simp only [Act.put, List.setIfInBounds_toArray, List.set_cons_zero, List.set_cons_succ]
              refine wpAnyK_take0 11 (v := ?v59) rfl (by kernel_rfl) (fun _ _ _ h => h) (Or.inl ⟨by rfl, ?hy59⟩) (fun _ => hHeld) ?_
              case hy59 => (intro w hSw; go_simp; try with_reducible rfl)
              try simp only [Act.put, List.setIfInBounds_toArray, List.set_cons_zero, List.set_cons_succ]
              refine wpAnyK_take 12 [13, 14] (v := ?v60) rfl (by kernel_rfl) (fun _ _ _ h => h) (Or.inl ⟨by rfl, ?hy60⟩) hHeld ?_
              case hy60 => (intro w hSw; (try dsimp only at hSw); go_simp; try with_reducible rfl)
              try simp only [Act.put, List.setIfInBounds_toArray, List.set_cons_zero, List.set_cons_succ]
              refine wpAnyK_step 13 rfl (by kernel_rfl) (fun K hK => ?_)
              go_simp
              have hF := hHF.out.drew
              have hS := HI.out.1.drew
              refine (step_v (.slice p0 p1 p2) (.slice b0 b1 b2) _ _ p b X Y Z X2 Y2 Z2 _ Hp (hF.arg 0 (Nat.le_of_ble_eq_true rfl)) (hF.arg 1 (Nat.le_of_ble_eq_true rfl)) (show Rt _ _ X Y Z from ⟨_, _, _, rfl, HI.out.2.2.2.1.1.nk, HI.out.2.2.2.1.2.1.nk, HI.out.2.2.2.1.2.2.nk⟩) (HR.out.2.below hF.bel (Nat.le_refl _))).mono ?_
              rintro e w9 ⟨q9, rfl, hm9, hB⟩
              have HF9 : Hid (Fm w w9 [(68, [.slice p0 p1 p2, .slice b0 b1 b2, .int .i64 s, .slice n0 n1 n2, .slice gx0 gx1 gx2, .slice gy0 gy1 gy2, .bool false, .func (.func 93) #[.agg #[.slice p0 p1 p2, .slice b0 b1 b2]] #[]]), (97, [.slice x0 x1 x2, .slice y0 y1 y2, .slice z0 z1 z2]), (97, [.slice u0 u1 u2, .slice v0 v1 v2, .slice t0 t1 t2]), (97, [.slice none 0 0, .slice none 0 0, .slice none 0 0])] [(.slice p0 p1 p2, p, 384), (.slice b0 b1 b2, b, 384), (.slice n0 n1 n2, n, 384), (.slice a0 a1 a2, A, 1024), (.slice c0 c1 c2, B, 1024)] [(.slice e0 e1 e2, B % n, 384), (.slice d0 d1 d2, A % n, 384)]) := hF.below hB
              have HS9 : Hid (Fm w3 w9 [(97, [.slice sx0 sx1 sx2, .slice sy0 sy1 sy2, .slice sz0 sz1 sz2])] [] []) := hS.below hB
              have HA9 : Hid (Bl 120 w9 g [.slice none 0 0, .slice i0 i1 i2, .slice none 0 0, .slice x0 x1 x2, .slice y0 y1 y2, .slice z0 z1 z2, .slice u0 u1 u2, .slice v0 v1 v2, .slice t0 t1 t2, .slice f0 f1 f2, .slice g0 g1 g2, .slice h0 h1 h2]) := (HI.out.2.1.drewN 1).below hB HI.out.2.1.lt
              have HQ9 : Hid (Mq w9 (w.heap.size + 4) w3.heap.size (.slice f0 f1 f2) (plusX p b X1 Y1 Z1 X2 Y2 Z2) ∧ Mq w9 (w.heap.size + 4) w3.heap.size (.slice g0 g1 g2) (plusY p b X1 Y1 Z1 X2 Y2 Z2) ∧ Mq w9 (w.heap.size + 4) w3.heap.size (.slice h0 h1 h2) (plusZ p b X1 Y1 Z1 X2 Y2 Z2)) := ⟨(show Mq (World.drew _) _ _ _ _ from HI.out.2.2.1.1).below hB, (show Mq (World.drew _) _ _ _ _ from HI.out.2.2.1.2.1).below hB, (show Mq (World.drew _) _ _ _ _ from HI.out.2.2.1.2.2).below hB⟩
              have HT9 : Hid (Rm _ w9 q9 _ _ _) := hm9
              clear hB hm9 hF hS
              try dsimp only
              refine hK.out _ _ ?hk61 ?_
              case hk61 => exact fun _ => ⟨HF9.out.cell 0 7 (Nat.le_of_ble_eq_true rfl) (Nat.le_of_ble_eq_true rfl), HS9.out.cell 0 0 (Nat.le_of_ble_eq_true rfl) (Nat.le_of_ble_eq_true rfl), HS9.out.cell 0 1 (Nat.le_of_ble_eq_true rfl) (Nat.le_of_ble_eq_true rfl), HS9.out.cell 0 2 (Nat.le_of_ble_eq_true rfl) (Nat.le_of_ble_eq_true rfl), HA9.out.cell 6 (by simp), HA9.out.cell 7 (by simp), HA9.out.cell 8 (by simp)⟩
              have hHeld : ((fun (w9 : World) => w9.cell? ⟨w.heap.size, 7, none⟩ = some (.func (.func 93) #[.agg #[.slice p0 p1 p2, .slice b0 b1 b2]] #[]) ∧ w9.cell? ⟨w3.heap.size, 0, none⟩ = some (.slice sx0 sx1 sx2) ∧ w9.cell? ⟨w3.heap.size, 1, none⟩ = some (.slice sy0 sy1 sy2) ∧ w9.cell? ⟨w3.heap.size, 2, none⟩ = some (.slice sz0 sz1 sz2) ∧ w9.cell? ⟨g, 6, none⟩ = some (.slice u0 u1 u2) ∧ w9.cell? ⟨g, 7, none⟩ = some (.slice v0 v1 v2) ∧ w9.cell? ⟨g, 8, none⟩ = some (.slice t0 t1 t2))) _ := ⟨HF9.out.cell 0 7 (Nat.le_of_ble_eq_true rfl) (Nat.le_of_ble_eq_true rfl), HS9.out.cell 0 0 (Nat.le_of_ble_eq_true rfl) (Nat.le_of_ble_eq_true rfl), HS9.out.cell 0 1 (Nat.le_of_ble_eq_true rfl) (Nat.le_of_ble_eq_true rfl), HS9.out.cell 0 2 (Nat.le_of_ble_eq_true rfl) (Nat.le_of_ble_eq_true rfl), HA9.out.cell 6 (by simp), HA9.out.cell 7 (by simp), HA9.out.cell 8 (by simp)⟩
              clear hK K
              try simp only [Act.put, List.setIfInBounds_toArray, List.set_cons_zero, List.set_cons_succ]
              obtain ⟨y1, y2, y3, rfl, m1, m2, m3⟩ := HT9.out
              obtain ⟨r10, r11, r12, rfl⟩ := m1.nk.sl
              obtain ⟨r20, r21, r22, rfl⟩ := m2.nk.sl
              obtain ⟨r30, r31, r32, rfl⟩ := m3.nk.sl
              have k0 : w9.cell? ⟨w3.heap.size, 0, none⟩ = some (.slice sx0 sx1 sx2) := HS9.out.cell 0 0 (Nat.le_of_ble_eq_true rfl) (Nat.le_of_ble_eq_true rfl)
              have k1 : w9.cell? ⟨w3.heap.size, 1, none⟩ = some (.slice sy0 sy1 sy2) := HS9.out.cell 0 1 (Nat.le_of_ble_eq_true rfl) (Nat.le_of_ble_eq_true rfl)
              have k2 : w9.cell? ⟨w3.heap.size, 2, none⟩ = some (.slice sz0 sz1 sz2) := HS9.out.cell 0 2 (Nat.le_of_ble_eq_true rfl) (Nat.le_of_ble_eq_true rfl)
              have l0 : w9.frozen? ⟨w3.heap.size, 0, none⟩ = false := HS9.out.frozen 0 0 (Nat.le_of_ble_eq_true rfl)
              have l1 : w9.frozen? ⟨w3.heap.size, 1, none⟩ = false := HS9.out.frozen 0 1 (Nat.le_of_ble_eq_true rfl)
              have l2 : w9.frozen? ⟨w3.heap.size, 2, none⟩ = false := HS9.out.frozen 0 2 (Nat.le_of_ble_eq_true rfl)
              refine wpAnyK_step 14 rfl (by kernel_rfl) (fun K hK => ?_)
              go_simp
              refine hK.out _ _ ?hk63 ?_
              case hk63 => exact (fun h => nomatch (h.symm.trans (show _ = true by kernel_rfl)))
              clear hK K
              try simp only [Act.put, List.setIfInBounds_toArray, List.set_cons_zero, List.set_cons_succ]
              refine wpAnyK_done (by kernel_rfl) ?_ _
              have hb := (((But.refl w9 w3.heap.size).set 0 (.slice r10 r11 r12)).set 1 (.slice r20 r21 r22)).set 2 (.slice r30 r31 r32)
              have hst := HS9.out.put3 (.slice r10 r11 r12) (.slice r20 r21 r22) (.slice r30 r31 r32) rfl
              go_wp2
              refine ⟨⟨_, i + 1, _, _, _, r10, r20, r30, r11, r12, r21, r22, r31, r32, rfl, by go_num, by omega, hst, HA9.out.but hb (by omega), ⟨HQ9.out.1.but hb, HQ9.out.2.1.but hb, HQ9.out.2.2.but hb⟩, ⟨⟨(m1.1.but' hb (fun e => by have hh := (m1.1.block e).1; have : _ ≤ w3.heap.size := hh; change w'.heap.size ≤ _ at this; omega)).base (by change w.heap.size + 4 ≤ w'.heap.size; omega), m1.2.1, m1.2.2, fun e => by have hh := (m1.1.block e).1; have : _ ≤ w3.heap.size := hh; change w'.heap.size ≤ _ at this; omega⟩, ⟨(m2.1.but' hb (fun e => by have hh := (m2.1.block e).1; have : _ ≤ w3.heap.size := hh; change w'.heap.size ≤ _ at this; omega)).base (by change w.heap.size + 4 ≤ w'.heap.size; omega), m2.2.1, m2.2.2, fun e => by have hh := (m2.1.block e).1; have : _ ≤ w3.heap.size := hh; change w'.heap.size ≤ _ at this; omega⟩, ⟨(m3.1.but' hb (fun e => by have hh := (m3.1.block e).1; have : _ ≤ w3.heap.size := hh; change w'.heap.size ≤ _ at this; omega)).base (by change w.heap.size + 4 ≤ w'.heap.size; omega), m3.2.1, m3.2.2, fun e => by have hh := (m3.1.block e).1; have : _ ≤ w3.heap.size := hh; change w'.heap.size ≤ _ at this; omega⟩⟩, ?_⟩, by simp [intOf]; omega⟩
              rw [show D - (i + 1) = j by have := Hj.out; omega]
              have hst2 := hk.cv.stepR Hp.out HN.out (HM.out.2.1) (hk.cv.son (hk.cv.mon HM.out.2.2.1 _) (hk.cv.mon HM.out.2.2.2 _)) (HM.out.2.2.2)
              rw [hk.cv.lad01 HM.out.2.2.1 HM.out.2.2.2 hda hdb] at hst2
              exact hst2
            · refine wp_region_K 14 (fun (w9 : World) => w9.cell? ⟨w.heap.size, 7, none⟩ = some (.func (.func 93) #[.agg #[.slice p0 p1 p2, .slice b0 b1 b2]] #[]) ∧ w9.cell? ⟨w3.heap.size, 0, none⟩ = some (.slice sx0 sx1 sx2) ∧ w9.cell? ⟨w3.heap.size, 1, none⟩ = some (.slice sy0 sy1 sy2) ∧ w9.cell? ⟨w3.heap.size, 2, none⟩ = some (.slice sz0 sz1 sz2) ∧ w9.cell? ⟨g, 0, none⟩ = some (.slice none 0 0) ∧ w9.cell? ⟨g, 1, none⟩ = some (.slice i0 i1 i2) ∧ w9.cell? ⟨g, 2, none⟩ = some (.slice none 0 0)) (by kernel_rfl) ?_
              have hHeld : ((fun (w9 : World) => w9.cell? ⟨w.heap.size, 7, none⟩ = some (.func (.func 93) #[.agg #[.slice p0 p1 p2, .slice b0 b1 b2]] #[]) ∧ w9.cell? ⟨w3.heap.size, 0, none⟩ = some (.slice sx0 sx1 sx2) ∧ w9.cell? ⟨w3.heap.size, 1, none⟩ = some (.slice sy0 sy1 sy2) ∧ w9.cell? ⟨w3.heap.size, 2, none⟩ = some (.slice sz0 sz1 sz2) ∧ w9.cell? ⟨g, 0, none⟩ = some (.slice none 0 0) ∧ w9.cell? ⟨g, 1, none⟩ = some (.slice i0 i1 i2) ∧ w9.cell? ⟨g, 2, none⟩ = some (.slice none 0 0))) (World.drew _) := ⟨hHF.out.cell 0 7 (Nat.le_of_ble_eq_true rfl) (Nat.le_of_ble_eq_true rfl), HI.out.1.cell 0 0 (Nat.le_of_ble_eq_true rfl) (Nat.le_of_ble_eq_true rfl), HI.out.1.cell 0 1 (Nat.le_of_ble_eq_true rfl) (Nat.le_of_ble_eq_true rfl), HI.out.1.cell 0 2 (Nat.le_of_ble_eq_true rfl) (Nat.le_of_ble_eq_true rfl), HI.out.2.1.cell 0 (by simp), HI.out.2.1.cell 1 (by simp), HI.out.2.1.cell 2 (by simp)⟩
              refine wpAnyK_take0 0 (v := ?v64) rfl (by kernel_rfl) (fun _ _ _ h => h) (Or.inl ⟨by rfl, ?hy64⟩) (fun _ => hHeld) ?_
              case hy64 => (intro w hSw; go_simp; try with_reducible rfl)
              try simp only [Act.put, List.setIfInBounds_toArray, List.set_cons_zero, List.set_cons_succ]
              refine wpAnyK_take 1 [13, 14] (v := ?v65) rfl (by kernel_rfl) (fun _ _ _ h => h) (Or.inl ⟨by rfl, ?hy65⟩) hHeld ?_
              case hy65 => (intro w hSw; (try dsimp only at hSw); go_simp; try with_reducible rfl)
              try simp only [Act.put, List.setIfInBounds_toArray, List.set_cons_zero, List.set_cons_succ]
              refine wpAnyK_take 2 [13, 14] (v := ?v66) rfl (by kernel_rfl) (fun _ _ _ h => h) (Or.inl ⟨by rfl, ?hy66⟩) hHeld ?_
              case hy66 => (intro w hSw; (try dsimp only at hSw); go_simp; try with_reducible rfl)
              try simp only [Act.put, List.setIfInBounds_toArray, List.set_cons_zero, List.set_cons_succ]
              refine wpAnyK_take0 3 (v := ?v67) rfl (by kernel_rfl) (fun _ _ _ h => h) (Or.inl ⟨by rfl, ?hy67⟩) (fun _ => hHeld) ?_
              case hy67 => (intro w hSw; go_simp; try with_reducible rfl)
              try simp only [Act.put, List.setIfInBounds_toArray, List.set_cons_zero, List.set_cons_succ]
              refine wpAnyK_take0 4 (v := ?v68) rfl (by kernel_rfl) (fun _ _ _ h => h) (Or.inl ⟨by rfl, ?hy68⟩) (fun _ => hHeld) ?_
              case hy68 => (intro w hSw; go_simp; try with_reducible rfl)
              try simp only [Act.put, List.setIfInBounds_toArray, List.set_cons_zero, List.set_cons_succ]
              refine wpAnyK_take0 6 (v := ?v69) rfl (by kernel_rfl) (fun _ _ _ h => h) (Or.inl ⟨by rfl, ?hy69⟩) (fun _ => hHeld) ?_
              case hy69 => (intro w hSw; go_simp; try with_reducible rfl)
              try simp only [Act.put, List.setIfInBounds_toArray, List.set_cons_zero, List.set_cons_succ]
              refine wpAnyK_take0 7 (v := ?v70) rfl (by kernel_rfl) (fun _ _ _ h => h) (Or.inl ⟨by rfl, ?hy70⟩) (fun _ => hHeld) ?_
              case hy70 => (intro w hSw; go_simp; try with_reducible rfl)
              try simp only [Act.put, List.setIfInBounds_toArray, List.set_cons_zero, List.set_cons_succ]
              refine wpAnyK_step 5 rfl (by kernel_rfl) (fun K hK => ?_)
              go_simp
              refine (digit_0 _ (A % n) j _ ((hHF.out.drew.got 1 (Nat.le_of_ble_eq_true rfl)).1) hda (by have := Hj.out; omega)).mono ?_
              rintro e w9 ⟨rfl, rfl⟩
              try dsimp only
              refine hK.out _ _ ?hk71 ?_
              case hk71 => exact fun _ => ⟨hHF.out.cell 0 7 (Nat.le_of_ble_eq_true rfl) (Nat.le_of_ble_eq_true rfl), HI.out.1.cell 0 0 (Nat.le_of_ble_eq_true rfl) (Nat.le_of_ble_eq_true rfl), HI.out.1.cell 0 1 (Nat.le_of_ble_eq_true rfl) (Nat.le_of_ble_eq_true rfl), HI.out.1.cell 0 2 (Nat.le_of_ble_eq_true rfl) (Nat.le_of_ble_eq_true rfl), HI.out.2.1.cell 0 (by simp), HI.out.2.1.cell 1 (by simp), HI.out.2.1.cell 2 (by simp)⟩
              have hHeld : ((fun (w9 : World) => w9.cell? ⟨w.heap.size, 7, none⟩ = some (.func (.func 93) #[.agg #[.slice p0 p1 p2, .slice b0 b1 b2]] #[]) ∧ w9.cell? ⟨w3.heap.size, 0, none⟩ = some (.slice sx0 sx1 sx2) ∧ w9.cell? ⟨w3.heap.size, 1, none⟩ = some (.slice sy0 sy1 sy2) ∧ w9.cell? ⟨w3.heap.size, 2, none⟩ = some (.slice sz0 sz1 sz2) ∧ w9.cell? ⟨g, 0, none⟩ = some (.slice none 0 0) ∧ w9.cell? ⟨g, 1, none⟩ = some (.slice i0 i1 i2) ∧ w9.cell? ⟨g, 2, none⟩ = some (.slice none 0 0))) _ := ⟨hHF.out.cell 0 7 (Nat.le_of_ble_eq_true rfl) (Nat.le_of_ble_eq_true rfl), HI.out.1.cell 0 0 (Nat.le_of_ble_eq_true rfl) (Nat.le_of_ble_eq_true rfl), HI.out.1.cell 0 1 (Nat.le_of_ble_eq_true rfl) (Nat.le_of_ble_eq_true rfl), HI.out.1.cell 0 2 (Nat.le_of_ble_eq_true rfl) (Nat.le_of_ble_eq_true rfl), HI.out.2.1.cell 0 (by simp), HI.out.2.1.cell 1 (by simp), HI.out.2.1.cell 2 (by simp)⟩
              clear hK K
              try simp only [Act.put, List.setIfInBounds_toArray, List.set_cons_zero, List.set_cons_succ]
              refine wpAnyK_step 8 rfl (by kernel_rfl) (fun K hK => ?_)
              go_simp
              refine (digit_0 _ (B % n) j _ ((hHF.out.drew.got 0 (Nat.le_of_ble_eq_true rfl)).1) hdb (by have := Hj.out; omega)).mono ?_
              rintro e w9 ⟨rfl, rfl⟩
              try dsimp only
              refine hK.out _ _ ?hk72 ?_
              case hk72 => exact fun _ => ⟨hHF.out.cell 0 7 (Nat.le_of_ble_eq_true rfl) (Nat.le_of_ble_eq_true rfl), HI.out.1.cell 0 0 (Nat.le_of_ble_eq_true rfl) (Nat.le_of_ble_eq_true rfl), HI.out.1.cell 0 1 (Nat.le_of_ble_eq_true rfl) (Nat.le_of_ble_eq_true rfl), HI.out.1.cell 0 2 (Nat.le_of_ble_eq_true rfl) (Nat.le_of_ble_eq_true rfl), HI.out.2.1.cell 0 (by simp), HI.out.2.1.cell 1 (by simp), HI.out.2.1.cell 2 (by simp)⟩
              have hHeld : ((fun (w9 : World) => w9.cell? ⟨w.heap.size, 7, none⟩ = some (.func (.func 93) #[.agg #[.slice p0 p1 p2, .slice b0 b1 b2]] #[]) ∧ w9.cell? ⟨w3.heap.size, 0, none⟩ = some (.slice sx0 sx1 sx2) ∧ w9.cell? ⟨w3.heap.size, 1, none⟩ = some (.slice sy0 sy1 sy2) ∧ w9.cell? ⟨w3.heap.size, 2, none⟩ = some (.slice sz0 sz1 sz2) ∧ w9.cell? ⟨g, 0, none⟩ = some (.slice none 0 0) ∧ w9.cell? ⟨g, 1, none⟩ = some (.slice i0 i1 i2) ∧ w9.cell? ⟨g, 2, none⟩ = some (.slice none 0 0))) _ := ⟨hHF.out.cell 0 7 (Nat.le_of_ble_eq_true rfl) (Nat.le_of_ble_eq_true rfl), HI.out.1.cell 0 0 (Nat.le_of_ble_eq_true rfl) (Nat.le_of_ble_eq_true rfl), HI.out.1.cell 0 1 (Nat.le_of_ble_eq_true rfl) (Nat.le_of_ble_eq_true rfl), HI.out.1.cell 0 2 (Nat.le_of_ble_eq_true rfl) (Nat.le_of_ble_eq_true rfl), HI.out.2.1.cell 0 (by simp), HI.out.2.1.cell 1 (by simp), HI.out.2.1.cell 2 (by simp)⟩
              clear hK K
              try simp only [Act.put, List.setIfInBounds_toArray, List.set_cons_zero, List.set_cons_succ]
              refine wpAnyK_take0 9 (v := ?v73) rfl (by kernel_rfl) (fun _ _ _ h => h) (Or.inl ⟨by rfl, ?hy73⟩) (fun _ => hHeld) ?_
              case hy73 => (intro w hSw; go_simp; try with_reducible rfl)
              try simp only [Act.put, List.setIfInBounds_toArray, List.set_cons_zero, List.set_cons_succ]
              refine wpAnyK_take0 10 (v := ?v74) rfl (by kernel_rfl) (fun _ _ _ h => h) (Or.inl ⟨by rfl, ?hy74⟩) (fun _ => hHeld) ?_
              case hy74 => (intro w hSw; go_simp; try with_reducible rfl)
              try simp only [Act.put, List.setIfInBounds_toArray, List.set_cons_zero, List.set_cons_succ]
              refine wpAnyK_take0 11 (v := ?v75) rfl (by kernel_rfl) (fun _ _ _ h => h) (Or.inl ⟨by rfl, ?hy75⟩) (fun _ => hHeld) ?_
              case hy75 => (intro w hSw; go_simp; try with_reducible rfl)
              try simp only [Act.put, List.setIfInBounds_toArray, List.set_cons_zero, List.set_cons_succ]
              refine wpAnyK_take 12 [13, 14] (v := ?v76) rfl (by kernel_rfl) (fun _ _ _ h => h) (Or.inl ⟨by rfl, ?hy76⟩) hHeld ?_
              case hy76 => (intro w hSw; (try dsimp only at hSw); go_simp; try with_reducible rfl)
              try simp only [Act.put, List.setIfInBounds_toArray, List.set_cons_zero, List.set_cons_succ]
              refine wpAnyK_step 13 rfl (by kernel_rfl) (fun K hK => ?_)
              go_simp
              have hF := hHF.out.drew
              have hS := HI.out.1.drew
              refine (step_v (.slice p0 p1 p2) (.slice b0 b1 b2) _ _ p b X Y Z 0 1 0 _ Hp (hF.arg 0 (Nat.le_of_ble_eq_true rfl)) (hF.arg 1 (Nat.le_of_ble_eq_true rfl)) (show Rt _ _ X Y Z from ⟨_, _, _, rfl, HI.out.2.2.2.1.1.nk, HI.out.2.2.2.1.2.1.nk, HI.out.2.2.2.1.2.2.nk⟩) (show Rt _ _ 0 1 0 from ⟨_, _, _, rfl, Nk.none _ _, (HM1.out.below hS.bel (Nat.le_refl _)), Nk.none _ _⟩)).mono ?_
              rintro e w9 ⟨q9, rfl, hm9, hB⟩
              have HF9 : Hid (Fm w w9 [(68, [.slice p0 p1 p2, .slice b0 b1 b2, .int .i64 s, .slice n0 n1 n2, .slice gx0 gx1 gx2, .slice gy0 gy1 gy2, .bool false, .func (.func 93) #[.agg #[.slice p0 p1 p2, .slice b0 b1 b2]] #[]]), (97, [.slice x0 x1 x2, .slice y0 y1 y2, .slice z0 z1 z2]), (97, [.slice u0 u1 u2, .slice v0 v1 v2, .slice t0 t1 t2]), (97, [.slice none 0 0, .slice none 0 0, .slice none 0 0])] [(.slice p0 p1 p2, p, 384), (.slice b0 b1 b2, b, 384), (.slice n0 n1 n2, n, 384), (.slice a0 a1 a2, A, 1024), (.slice c0 c1 c2, B, 1024)] [(.slice e0 e1 e2, B % n, 384), (.slice d0 d1 d2, A % n, 384)]) := hF.below hB
              have HS9 : Hid (Fm w3 w9 [(97, [.slice sx0 sx1 sx2, .slice sy0 sy1 sy2, .slice sz0 sz1 sz2])] [] []) := hS.below hB
              have HA9 : Hid (Bl 120 w9 g [.slice none 0 0, .slice i0 i1 i2, .slice none 0 0, .slice x0 x1 x2, .slice y0 y1 y2, .slice z0 z1 z2, .slice u0 u1 u2, .slice v0 v1 v2, .slice t0 t1 t2, .slice f0 f1 f2, .slice g0 g1 g2, .slice h0 h1 h2]) := (HI.out.2.1.drewN 1).below hB HI.out.2.1.lt
              have HQ9 : Hid (Mq w9 (w.heap.size + 4) w3.heap.size (.slice f0 f1 f2) (plusX p b X1 Y1 Z1 X2 Y2 Z2) ∧ Mq w9 (w.heap.size + 4) w3.heap.size (.slice g0 g1 g2) (plusY p b X1 Y1 Z1 X2 Y2 Z2) ∧ Mq w9 (w.heap.size + 4) w3.heap.size (.slice h0 h1 h2) (plusZ p b X1 Y1 Z1 X2 Y2 Z2)) := ⟨(show Mq (World.drew _) _ _ _ _ from HI.out.2.2.1.1).below hB, (show Mq (World.drew _) _ _ _ _ from HI.out.2.2.1.2.1).below hB, (show Mq (World.drew _) _ _ _ _ from HI.out.2.2.1.2.2).below hB⟩
              have HT9 : Hid (Rm _ w9 q9 _ _ _) := hm9
              clear hB hm9 hF hS
              try dsimp only
              refine hK.out _ _ ?hk77 ?_
              case hk77 => exact fun _ => ⟨HF9.out.cell 0 7 (Nat.le_of_ble_eq_true rfl) (Nat.le_of_ble_eq_true rfl), HS9.out.cell 0 0 (Nat.le_of_ble_eq_true rfl) (Nat.le_of_ble_eq_true rfl), HS9.out.cell 0 1 (Nat.le_of_ble_eq_true rfl) (Nat.le_of_ble_eq_true rfl), HS9.out.cell 0 2 (Nat.le_of_ble_eq_true rfl) (Nat.le_of_ble_eq_true rfl), HA9.out.cell 0 (by simp), HA9.out.cell 1 (by simp), HA9.out.cell 2 (by simp)⟩
              have hHeld : ((fun (w9 : World) => w9.cell? ⟨w.heap.size, 7, none⟩ = some (.func (.func 93) #[.agg #[.slice p0 p1 p2, .slice b0 b1 b2]] #[]) ∧ w9.cell? ⟨w3.heap.size, 0, none⟩ = some (.slice sx0 sx1 sx2) ∧ w9.cell? ⟨w3.heap.size, 1, none⟩ = some (.slice sy0 sy1 sy2) ∧ w9.cell? ⟨w3.heap.size, 2, none⟩ = some (.slice sz0 sz1 sz2) ∧ w9.cell? ⟨g, 0, none⟩ = some (.slice none 0 0) ∧ w9.cell? ⟨g, 1, none⟩ = some (.slice i0 i1 i2) ∧ w9.cell? ⟨g, 2, none⟩ = some (.slice none 0 0))) _ := ⟨HF9.out.cell 0 7 (Nat.le_of_ble_eq_true rfl) (Nat.le_of_ble_eq_true rfl), HS9.out.cell 0 0 (Nat.le_of_ble_eq_true rfl) (Nat.le_of_ble_eq_true rfl), HS9.out.cell 0 1 (Nat.le_of_ble_eq_true rfl) (Nat.le_of_ble_eq_true rfl), HS9.out.cell 0 2 (Nat.le_of_ble_eq_true rfl) (Nat.le_of_ble_eq_true rfl), HA9.out.cell 0 (by simp), HA9.out.cell 1 (by simp), HA9.out.cell 2 (by simp)⟩
              clear hK K
              try simp only [Act.put, List.setIfInBounds_toArray, List.set_cons_zero, List.set_cons_succ]
              obtain ⟨y1, y2, y3, rfl, m1, m2, m3⟩ := HT9.out
              obtain ⟨r10, r11, r12, rfl⟩ := m1.nk.sl
              obtain ⟨r20, r21, r22, rfl⟩ := m2.nk.sl
              obtain ⟨r30, r31, r32, rfl⟩ := m3.nk.sl
              have k0 : w9.cell? ⟨w3.heap.size, 0, none⟩ = some (.slice sx0 sx1 sx2) := HS9.out.cell 0 0 (Nat.le_of_ble_eq_true rfl) (Nat.le_of_ble_eq_true rfl)
              have k1 : w9.cell? ⟨w3.heap.size, 1, none⟩ = some (.slice sy0 sy1 sy2) := HS9.out.cell 0 1 (Nat.le_of_ble_eq_true rfl) (Nat.le_of_ble_eq_true rfl)
              have k2 : w9.cell? ⟨w3.heap.size, 2, none⟩ = some (.slice sz0 sz1 sz2) := HS9.out.cell 0 2 (Nat.le_of_ble_eq_true rfl) (Nat.le_of_ble_eq_true rfl)
              have l0 : w9.frozen? ⟨w3.heap.size, 0, none⟩ = false := HS9.out.frozen 0 0 (Nat.le_of_ble_eq_true rfl)
              have l1 : w9.frozen? ⟨w3.heap.size, 1, none⟩ = false := HS9.out.frozen 0 1 (Nat.le_of_ble_eq_true rfl)
              have l2 : w9.frozen? ⟨w3.heap.size, 2, none⟩ = false := HS9.out.frozen 0 2 (Nat.le_of_ble_eq_true rfl)
              refine wpAnyK_step 14 rfl (by kernel_rfl) (fun K hK => ?_)
              go_simp
              refine hK.out _ _ ?hk79 ?_
              case hk79 => exact (fun h => nomatch (h.symm.trans (show _ = true by kernel_rfl)))
              clear hK K
              try simp only [Act.put, List.setIfInBounds_toArray, List.set_cons_zero, List.set_cons_succ]
              refine wpAnyK_done (by kernel_rfl) ?_ _
              have hb := (((But.refl w9 w3.heap.size).set 0 (.slice r10 r11 r12)).set 1 (.slice r20 r21 r22)).set 2 (.slice r30 r31 r32)
              have hst := HS9.out.put3 (.slice r10 r11 r12) (.slice r20 r21 r22) (.slice r30 r31 r32) rfl
              go_wp2
              refine ⟨⟨_, i + 1, _, _, _, r10, r20, r30, r11, r12, r21, r22, r31, r32, rfl, by go_num, by omega, hst, HA9.out.but hb (by omega), ⟨HQ9.out.1.but hb, HQ9.out.2.1.but hb, HQ9.out.2.2.but hb⟩, ⟨⟨(m1.1.but' hb (fun e => by have hh := (m1.1.block e).1; have : _ ≤ w3.heap.size := hh; change w'.heap.size ≤ _ at this; omega)).base (by change w.heap.size + 4 ≤ w'.heap.size; omega), m1.2.1, m1.2.2, fun e => by have hh := (m1.1.block e).1; have : _ ≤ w3.heap.size := hh; change w'.heap.size ≤ _ at this; omega⟩, ⟨(m2.1.but' hb (fun e => by have hh := (m2.1.block e).1; have : _ ≤ w3.heap.size := hh; change w'.heap.size ≤ _ at this; omega)).base (by change w.heap.size + 4 ≤ w'.heap.size; omega), m2.2.1, m2.2.2, fun e => by have hh := (m2.1.block e).1; have : _ ≤ w3.heap.size := hh; change w'.heap.size ≤ _ at this; omega⟩, ⟨(m3.1.but' hb (fun e => by have hh := (m3.1.block e).1; have : _ ≤ w3.heap.size := hh; change w'.heap.size ≤ _ at this; omega)).base (by change w.heap.size + 4 ≤ w'.heap.size; omega), m3.2.1, m3.2.2, fun e => by have hh := (m3.1.block e).1; have : _ ≤ w3.heap.size := hh; change w'.heap.size ≤ _ at this; omega⟩⟩, ?_⟩, by simp [intOf]; omega⟩
              rw [show D - (i + 1) = j by have := Hj.out; omega]
              have hst2 := hk.cv.stepR Hp.out HN.out ((show Rp p 0 1 0 .O from ⟨rfl, rfl, by omega, by have := Hp.out.1; omega⟩)) (hk.cv.son (hk.cv.mon HM.out.2.2.1 _) (hk.cv.mon HM.out.2.2.2 _)) (on_O (b := b))
              rw [hk.cv.lad00 HM.out.2.2.1 HM.out.2.2.2 hda hdb] at hst2
              exact hst2
        · obtain rfl : i = D := by omega
          have HFE : Hid (Fm w w' [(68, [.slice p0 p1 p2, .slice b0 b1 b2, .int .i64 s, .slice n0 n1 n2, .slice gx0 gx1 gx2, .slice gy0 gy1 gy2, .bool false, .func (.func 93) #[.agg #[.slice p0 p1 p2, .slice b0 b1 b2]] #[]]), (97, [.slice x0 x1 x2, .slice y0 y1 y2, .slice z0 z1 z2]), (97, [.slice u0 u1 u2, .slice v0 v1 v2, .slice t0 t1 t2]), (97, [.slice none 0 0, .slice none 0 0, .slice none 0 0])] [(.slice p0 p1 p2, p, 384), (.slice b0 b1 b2, b, 384), (.slice n0 n1 n2, n, 384), (.slice a0 a1 a2, A, 1024), (.slice c0 c1 c2, B, 1024)] [(.slice e0 e1 e2, B % n, 384), (.slice d0 d1 d2, A % n, 384)]) := HF3.out.below HI.out.1.bel
          have k0 : w'.cell? ⟨w3.heap.size, 0, none⟩ = some (.slice sx0 sx1 sx2) := HI.out.1.cell 0 0 (Nat.le_of_ble_eq_true rfl) (Nat.le_of_ble_eq_true rfl)
          have k1 : w'.cell? ⟨w3.heap.size, 1, none⟩ = some (.slice sy0 sy1 sy2) := HI.out.1.cell 0 1 (Nat.le_of_ble_eq_true rfl) (Nat.le_of_ble_eq_true rfl)
          have k2 : w'.cell? ⟨w3.heap.size, 2, none⟩ = some (.slice sz0 sz1 sz2) := HI.out.1.cell 0 2 (Nat.le_of_ble_eq_true rfl) (Nat.le_of_ble_eq_true rfl)
          have m0 : w'.cell? ⟨w.heap.size + 3, 0, none⟩ = some (.slice none 0 0) := HFE.out.cell 3 0 (Nat.le_of_ble_eq_true rfl) (Nat.le_of_ble_eq_true rfl)
          have m1 : w'.cell? ⟨w.heap.size + 3, 1, none⟩ = some (.slice none 0 0) := HFE.out.cell 3 1 (Nat.le_of_ble_eq_true rfl) (Nat.le_of_ble_eq_true rfl)
          have m2 : w'.cell? ⟨w.heap.size + 3, 2, none⟩ = some (.slice none 0 0) := HFE.out.cell 3 2 (Nat.le_of_ble_eq_true rfl) (Nat.le_of_ble_eq_true rfl)
          have l0 : w'.frozen? ⟨w.heap.size + 3, 0, none⟩ = false := HFE.out.frozen 3 0 (Nat.le_of_ble_eq_true rfl)
          have l1 : w'.frozen? ⟨w.heap.size + 3, 1, none⟩ = false := HFE.out.frozen 3 1 (Nat.le_of_ble_eq_true rfl)
          have l2 : w'.frozen? ⟨w.heap.size + 3, 2, none⟩ = false := HFE.out.frozen 3 2 (Nat.le_of_ble_eq_true rfl)
          go_wp2
          (try simp only [Exit.inBlock, Exit.then])
          have hb := (((But.refl w' (w.heap.size + 3)).set 0 (.slice sx0 sx1 sx2)).set 1 (.slice sy0 sy1 sy2)).set 2 (.slice sz0 sz1 sz2)
          have hfin := HI.out.2.2.2.2
          rw [Nat.sub_self, Nat.pow_zero, Nat.div_one, Nat.div_one] at hfin
          refine bodyPost_ret (v := .agg #[.slice sx0 sx1 sx2, .slice sy0 sy1 sy2, .slice sz0 sz1 sz2]) ?_ rfl ⟨_, X, Y, Z, rfl, ⟨_, _, _, rfl, (HI.out.2.2.2.1.1.mk.but hb (by omega)).base (by omega), (HI.out.2.2.2.1.2.1.mk.but hb (by omega)).base (by omega), (HI.out.2.2.2.1.2.2.mk.but hb (by omega)).base (by omega)⟩, hfin, HFE.out.outB 3 (by simp) hb⟩
          rw [results_cell rfl]; go_simp
end Go.Proofs.YtghfoppojdkhkaaGreatDoor
