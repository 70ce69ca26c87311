import Derived.Test.YtmngdaolgdhgmaaGreatDoorCS
namespace Go.Proofs.YtmngdaolgdhgmaaGreatDoor
/-- The sum of two ratios: its three parts. -/
def pX (b x1 y1 z1 x2 y2 z2 : Int) : Int := (x1 * y2 + y1 * x2) * (y1 * y2 - 3 * (b * (z1 * z2) - (x1 * z2 + z1 * x2))) - (y1 * z2 + z1 * y2) * (3 * (b * (x1 * z2 + z1 * x2) - (x1 * x2 + 3 * (z1 * z2))))
def pY (b x1 y1 z1 x2 y2 z2 : Int) : Int := (y1 * y2 + 3 * (b * (z1 * z2) - (x1 * z2 + z1 * x2))) * (y1 * y2 - 3 * (b * (z1 * z2) - (x1 * z2 + z1 * x2))) + 3 * (x1 * x2 - z1 * z2) * (3 * (b * (x1 * z2 + z1 * x2) - (x1 * x2 + 3 * (z1 * z2))))
def pZ (b x1 y1 z1 x2 y2 z2 : Int) : Int := (y1 * z2 + z1 * y2) * (y1 * y2 + 3 * (b * (z1 * z2) - (x1 * z2 + z1 * x2))) + (x1 * y2 + y1 * x2) * (3 * (x1 * x2 - z1 * z2))
theorem pX_scale (b x1 y1 z1 x2 y2 z2 : Int) : pX b (z1 * x1) (z1 * y1) z1 (z2 * x2) (z2 * y2) z2 = (z1 * z2) ^ 2 * pX b x1 y1 1 x2 y2 1 := by unfold pX; grind
theorem pY_scale (b x1 y1 z1 x2 y2 z2 : Int) : pY b (z1 * x1) (z1 * y1) z1 (z2 * x2) (z2 * y2) z2 = (z1 * z2) ^ 2 * pY b x1 y1 1 x2 y2 1 := by unfold pY; grind
theorem pZ_scale (b x1 y1 z1 x2 y2 z2 : Int) : pZ b (z1 * x1) (z1 * y1) z1 (z2 * x2) (z2 * y2) z2 = (z1 * z2) ^ 2 * pZ b x1 y1 1 x2 y2 1 := by unfold pZ; grind
section
variable {p b : Nat}
theorem pX_line {x1 y1 x2 y2 l : Int} (h1 : (p : Int) ∣ y2 ^ 2 - (x2 ^ 3 - 3 * x2 + b)) (hs : SlP p x1 y1 x2 y2 l) : (p : Int) ∣ pX b x1 y1 1 x2 y2 1 - pZ b x1 y1 1 x2 y2 1 * (l ^ 2 - x1 - x2) := by
  have hg : (p : Int) ∣ l * (2 * y2 + l * (x1 - x2)) - (x1 ^ 2 + x1 * x2 + x2 ^ 2 - 3) := lc2 1 (-l) hs.2 hs.1 (by grind)
  generalize (b : Int) = c at *
  exact lc3 (-3*c*l^2 - 3*c*x2 - l^3*x1*y2 + l^3*x2*y2 - 3*l^2*x1*x2^2 + 3*l^2*x1 + 6*l^2*x2 - l^2*y1*y2 - 2*l^2*y2^2 + l*x1^2*y2 + l*x1*x2*y2 - 2*l*x2^2*y2 + 3*x1^2*x2^2 - 3*x1^2 + 3*x1*x2^3 - 3*x1*x2 + x1*y1*y2 + 3*x1*y2^2 - 3*x2^2 + 2*x2*y1*y2 + 3*x2*y2^2 + 9) (3*(l^3*x1 - l^3*x2 + 2*l^2*y2 + l*x1*x2 - l*x2^2 + x1*y2 + x2*y2)) (-l^2*x1*y2 + l^2*x2*y2 - 3*l*x1*x2^2 + 3*l*x1 + 3*l*x2^3 - 3*l*x2 - 4*l*y2^2 - 3*x1*x2*y2 - 3*x2^2*y2 + 6*y2) hs.1 h1 hg (by unfold pX pZ; grind)
theorem pY_line {x1 y1 x2 y2 l : Int} (h1 : (p : Int) ∣ y2 ^ 2 - (x2 ^ 3 - 3 * x2 + b)) (hs : SlP p x1 y1 x2 y2 l) : (p : Int) ∣ pY b x1 y1 1 x2 y2 1 - pZ b x1 y1 1 x2 y2 1 * (l * (x1 - (l ^ 2 - x1 - x2)) - y1) := by
  have hg : (p : Int) ∣ l * (2 * y2 + l * (x1 - x2)) - (x1 ^ 2 + x1 * x2 + x2 ^ 2 - 3) := lc2 1 (-l) hs.2 hs.1 (by grind)
  generalize (b : Int) = c at *
  exact lc3 (3*c*l^3 - 3*c*l*x1 - 6*c*l*x2 + 3*c*y1 + 6*c*y2 + l^4*x1*y2 - l^4*x2*y2 + 3*l^3*x1*x2^2 - 3*l^3*x1 - 6*l^3*x2 + l^3*y1*y2 + 2*l^3*y2^2 - l^2*x1^2*y2 - l^2*x1*x2*y2 + 2*l^2*x2^2*y2 - 3*l*x1^2*x2^2 + 3*l*x1^2 - 6*l*x1*x2^3 + 12*l*x1*x2 - l*x1*y1*y2 + 12*l*x2^2 - 2*l*x2*y1*y2 - 6*l*x2*y2^2 + 3*x1^2*x2*y2 + 3*x1*x2^2*y1 + 3*x1*x2^2*y2 - 3*x1*y1 - 9*x1*y2 - 6*x2*y1 - 9*x2*y2 + y1^2*y2 + 3*y1*y2^2 + 3*y2^3) (-3*(-3*c + l^4*x1 - l^4*x2 + 2*l^3*y2 - l^2*x1^2 - l^2*x1*x2 + 2*l^2*x2^2 - l*x1*y2 - 5*l*x2*y2 + 3*x1^2*x2 + 3*x1*x2^2 + 3*x1 + 3*x2^3 - 6*x2 - y2^2)) (l^3*x1*y2 - l^3*x2*y2 + 3*l^2*x1*x2^2 - 3*l^2*x1 - 3*l^2*x2^3 + 3*l^2*x2 + 4*l^2*y2^2 + 3*l*x1*x2*y2 + 3*l*x2^2*y2 - 6*l*y2 + 9*x2^4 - 18*x2^2 - 12*x2*y2^2 + 9) hs.1 h1 hg (by unfold pY pZ; grind)
end
section
variable {p b : Nat} (C : Cv p b)
include C
theorem Cv.mulnz {a c : Int} (h1 : ¬ (p : Int) ∣ a) (h2 : ¬ (p : Int) ∣ c) : ¬ (p : Int) ∣ a * c := fun h => (C.pr.mulI h).elim h1 h2
theorem Cv.nz2 : ¬ (p : Int) ∣ 2 := fun h => by
  have := Int.le_of_dvd (by omega) h
  have := C.big
  omega
theorem Cv.pZ_nz {x1 y1 x2 y2 : Int} (h1 : (p : Int) ∣ y1 ^ 2 - (x1 ^ 3 - 3 * x1 + b)) (h2 : (p : Int) ∣ y2 ^ 2 - (x2 ^ 3 - 3 * x2 + b)) (hn : ¬ ((p : Int) ∣ x1 - x2 ∧ (p : Int) ∣ y1 + y2)) : ¬ (p : Int) ∣ pZ b x1 y1 1 x2 y2 1 := by
  by_cases hx : (p : Int) ∣ x1 - x2
  · have hy : ¬ (p : Int) ∣ y1 + y2 := fun h => hn ⟨hx, h⟩
    have hd : (p : Int) ∣ y1 - y2 := C.pr.can hy (lc3 1 (-1) (x1 ^ 2 + x1 * x2 + x2 ^ 2 - 3) h1 h2 hx (by grind))
    have hz := C.ynz h1
    intro h
    have h8 : (p : Int) ∣ 2 * (2 * (2 * (y1 * (y1 * y1)))) := by
      obtain ⟨i, hi⟩ := hx
      obtain ⟨j, hj⟩ := hd
      have e1 : x2 = x1 - p * i := by omega
      have e2 : y2 = y1 - p * j := by omega
      subst e1 e2
      obtain ⟨k, hk⟩ := h
      obtain ⟨n, hn⟩ := h1
      unfold pZ at hk
      generalize (b : Int) = c at *
      generalize (p : Int) = q at *
      refine ⟨k + 6 * y1 * n - ((-j) * (y1 * (y1 - q * j) + 3 * (c - (x1 + (x1 - q * i)))) + 2 * y1 * (-(y1 * j) + 3 * i) + (-(x1 * j) - y1 * i) * (3 * (x1 * (x1 - q * i) - 1)) + 2 * x1 * y1 * (3 * (-(x1 * i)))), ?_⟩
      grind
    have a1 := C.two h8
    have a2 := C.two a1
    have a3 := C.two a2
    exact C.mulnz hz (C.mulnz hz hz) a3
  · obtain ⟨t, ht⟩ := C.pr.invI hx
    have hs : SlP p x1 y1 x2 (-y2) ((y1 + y2) * t) := by
      refine ⟨lc1 (-(y1 + y2)) ht (by grind), C.pr.can hx ?_⟩
      exact lc3 1 (-1) ((y1 + y2) * (y1 - y2)) h1 h2 ht (by grind)
    generalize (y1 + y2) * t = l at hs
    have ho := on_slope (X := l ^ 2 - x1 - x2) (Y := l * (x1 - (l ^ 2 - x1 - x2)) - y1) h1 hs ⟨0, by grind⟩ ⟨0, by grind⟩
    have hy := C.ynz ho
    have hg : (p : Int) ∣ l * (-(2 * y2) + l * (x1 - x2)) - (x1 ^ 2 + x1 * x2 + x2 ^ 2 - 3) := lc2 1 (-l) hs.2 hs.1 (by grind)
    have hx' : ¬ (p : Int) ∣ x2 - x1 := fun h => hx (lc1 (-1) h (by grind))
    intro h
    refine C.mulnz hx' (C.mulnz hx' (C.mulnz hx' hy)) ?_
    have h3 := hs.1
    generalize (b : Int) = c at *
    have a := lc3 (-(3*c + l*x1*y2 - l*x2*y2 - x1^3 + 3*x1^2*x2 - 3*x1 + x2^3 - 6*x2 + y1*y2)) (3*l*(x1 - x2)) ((x1 - x2)*(l*x1 - l*x2 + y2)) h3 h2 hg rfl
    exact lc2 1 1 a h (by unfold pZ; grind)
theorem Cv.pY_nz {x1 y1 : Int} (h1 : (p : Int) ∣ y1 ^ 2 - (x1 ^ 3 - 3 * x1 + b)) : ¬ (p : Int) ∣ pY b x1 y1 1 x1 (-y1) 1 := by
  have hz := C.ynz h1
  have h2z := C.mulnz C.nz2 hz
  obtain ⟨t, ht⟩ := C.pr.invI h2z
  have hs : SlP p x1 y1 x1 y1 ((3 * x1 ^ 2 - 3) * t) := ⟨⟨0, by grind⟩, lc1 (3 * x1 ^ 2 - 3) ht (by grind)⟩
  generalize (3 * x1 ^ 2 - 3) * t = l at hs
  have ho := on_slope (X := l ^ 2 - x1 - x1) (Y := l * (x1 - (l ^ 2 - x1 - x1)) - y1) h1 hs ⟨0, by grind⟩ ⟨0, by grind⟩
  have hy := C.ynz ho
  have hst : (p : Int) ∣ 2 * y1 * l - (3 * x1 ^ 2 - 3) := lc1 1 hs.2 (by grind)
  intro h
  refine C.mulnz h2z (C.mulnz h2z (C.mulnz h2z hy)) ?_
  generalize (b : Int) = c at *
  exact lc3 (9*(-c + 3*x1^3 - x1 - y1^2)) (-(4*l^2*y1^2 + 6*l*x1^2*y1 - 6*l*y1 + 9*x1^4 - 18*x1^2 - 12*x1*y1^2 + 9)) 1 h1 hst h (by unfold pY; grind)
end
/-- What is the same modulo p stays so in sums and products. -/
theorem cg_add {p a b c d : Int} (h1 : p ∣ a - b) (h2 : p ∣ c - d) : p ∣ a + c - (b + d) := lc2 1 1 h1 h2 (by grind)
theorem cg_sub {p a b c d : Int} (h1 : p ∣ a - b) (h2 : p ∣ c - d) : p ∣ a - c - (b - d) := lc2 1 (-1) h1 h2 (by grind)
theorem cg_mul {p a b c d : Int} (h1 : p ∣ a - b) (h2 : p ∣ c - d) : p ∣ a * c - b * d := lc2 c b h1 h2 (by grind)
theorem cg_rfl {p a : Int} : p ∣ a - a := ⟨0, by grind⟩
theorem cg_tr {p a b c : Int} (h1 : p ∣ a - b) (h2 : p ∣ b - c) : p ∣ a - c := lc2 1 1 h1 h2 (by grind)
theorem cgX {p : Int} {b x1 y1 z1 x2 y2 z2 u1 v1 u2 v2 r : Int} (h : p ∣ r - pX b x1 y1 z1 x2 y2 z2) (h1 : p ∣ x1 - u1) (h2 : p ∣ y1 - v1) (h3 : p ∣ x2 - u2) (h4 : p ∣ y2 - v2) : p ∣ r - pX b u1 v1 z1 u2 v2 z2 := by
  refine cg_tr h ?_
  unfold pX
  repeat' first | exact h1 | exact h2 | exact h3 | exact h4 | exact cg_rfl | with_reducible apply cg_mul | with_reducible apply cg_sub | with_reducible apply cg_add
theorem cgY {p : Int} {b x1 y1 z1 x2 y2 z2 u1 v1 u2 v2 r : Int} (h : p ∣ r - pY b x1 y1 z1 x2 y2 z2) (h1 : p ∣ x1 - u1) (h2 : p ∣ y1 - v1) (h3 : p ∣ x2 - u2) (h4 : p ∣ y2 - v2) : p ∣ r - pY b u1 v1 z1 u2 v2 z2 := by
  refine cg_tr h ?_
  unfold pY
  repeat' first | exact h1 | exact h2 | exact h3 | exact h4 | exact cg_rfl | with_reducible apply cg_mul | with_reducible apply cg_sub | with_reducible apply cg_add
theorem cgZ {p : Int} {b x1 y1 z1 x2 y2 z2 u1 v1 u2 v2 r : Int} (h : p ∣ r - pZ b x1 y1 z1 x2 y2 z2) (h1 : p ∣ x1 - u1) (h2 : p ∣ y1 - v1) (h3 : p ∣ x2 - u2) (h4 : p ∣ y2 - v2) : p ∣ r - pZ b u1 v1 z1 u2 v2 z2 := by
  refine cg_tr h ?_
  unfold pZ
  repeat' first | exact h1 | exact h2 | exact h3 | exact h4 | exact cg_rfl | with_reducible apply cg_mul | with_reducible apply cg_sub | with_reducible apply cg_add
/-- A ratio stands for a point. -/
def Rp (p x y z : Nat) : Pt → Prop
  | .O => x = 0 ∧ z = 0 ∧ 0 < y ∧ y < p
  | .A a c => x < p ∧ y < p ∧ z < p ∧ 0 < z ∧ (p : Int) ∣ (x : Int) - z * a ∧ (p : Int) ∣ (y : Int) - z * c
theorem nz_lt {p z : Nat} (h0 : 0 < z) (h : z < p) : ¬ (p : Int) ∣ (z : Int) := fun h2 => by
  have := Int.le_of_dvd (by omega) h2
  omega
theorem lt_nz {p z : Nat} (h : ¬ (p : Int) ∣ (z : Int)) : 0 < z := by
  apply Nat.pos_of_ne_zero
  rintro rfl
  exact h ⟨0, by simp⟩
theorem zero_of {p z : Nat} (h : z < p) (h2 : (p : Int) ∣ (z : Int)) : z = 0 := by
  apply Nat.eq_zero_of_not_pos
  intro h0
  exact nz_lt h0 h h2
section
variable {p b : Nat} (C : Cv p b)
include C
theorem Cv.plus {x1 y1 z1 x2 y2 z2 x y z : Nat} {P Q : Pt} (hP : Rp p x1 y1 z1 P) (hQ : Rp p x2 y2 z2 Q) (oP : onP p b P) (oQ : onP p b Q) (hx : x < p) (hy : y < p) (hz : z < p)
    (eX : (p : Int) ∣ (x : Int) - pX b x1 y1 z1 x2 y2 z2) (eY : (p : Int) ∣ (y : Int) - pY b x1 y1 z1 x2 y2 z2) (eZ : (p : Int) ∣ (z : Int) - pZ b x1 y1 z1 x2 y2 z2) : Rp p x y z (sm p P Q) := by
  cases P with
  | O =>
    obtain ⟨rfl, rfl, hy1, hy1'⟩ := hP
    have n1 := nz_lt hy1 hy1'
    cases Q with
    | O =>
      obtain ⟨rfl, rfl, hy2, hy2'⟩ := hQ
      have n2 := nz_lt hy2 hy2'
      rw [C.zl (on_O (b := b))]
      refine ⟨zero_of hx (lc1 1 eX (by unfold pX; grind)), zero_of hz (lc1 1 eZ (by unfold pZ; grind)), lt_nz (p := p) fun h => ?_, hy⟩
      exact C.mulnz (C.mulnz n1 n2) (C.mulnz n1 n2) (lc2 1 (-1) h eY (by unfold pY; grind))
    | A a c =>
      obtain ⟨h1, h2, h3, h4, h5, h6⟩ := hQ
      rw [C.zl oQ]
      have n3 := nz_lt h4 h3
      have n2 : ¬ (p : Int) ∣ (y2 : Int) := fun h => C.mulnz n3 (C.ynz oQ.2.2) (lc2 1 (-1) h h6 (by grind))
      refine ⟨hx, hy, hz, lt_nz (p := p) fun h => ?_, ?_, ?_⟩
      · exact C.mulnz (C.mulnz n1 n1) (C.mulnz n2 n3) (lc2 1 (-1) h eZ (by unfold pZ; grind))
      · exact lc3 1 (-a) ((y1 : Int) ^ 2 * y2) eX eZ h5 (by unfold pX pZ; grind)
      · exact lc3 1 (-c) ((y1 : Int) ^ 2 * y2) eY eZ h6 (by unfold pY pZ; grind)
  | A a1 c1 =>
    obtain ⟨g1, g2, g3, g4, g5, g6⟩ := hP
    have n1 := nz_lt g4 g3
    cases Q with
    | O =>
      obtain ⟨rfl, rfl, hy2, hy2'⟩ := hQ
      have m2 := nz_lt hy2 hy2'
      rw [C.zr oP]
      have n2 : ¬ (p : Int) ∣ (y1 : Int) := fun h => C.mulnz n1 (C.ynz oP.2.2) (lc2 1 (-1) h g6 (by grind))
      refine ⟨hx, hy, hz, lt_nz (p := p) fun h => ?_, ?_, ?_⟩
      · exact C.mulnz (C.mulnz m2 m2) (C.mulnz n2 n1) (lc2 1 (-1) h eZ (by unfold pZ; grind))
      · exact lc3 1 (-a1) ((y2 : Int) ^ 2 * y1) eX eZ g5 (by unfold pX pZ; grind)
      · exact lc3 1 (-c1) ((y2 : Int) ^ 2 * y1) eY eZ g6 (by unfold pY pZ; grind)
    | A a2 c2 =>
      obtain ⟨h1, h2, h3, h4, h5, h6⟩ := hQ
      have n2 := nz_lt h4 h3
      have nn := C.mulnz (C.mulnz n1 n2) (C.mulnz n1 n2)
      -- to the affine ones
      obtain ⟨i1, e1⟩ := g5
      obtain ⟨i2, e2⟩ := g6
      obtain ⟨j1, f1⟩ := h5
      obtain ⟨j2, f2⟩ := h6
      have fX : (p : Int) ∣ (x : Int) - (z1 * z2) ^ 2 * pX b a1 c1 1 a2 c2 1 := by
        rw [← pX_scale]
        refine cgX eX ⟨i1, e1⟩ ⟨i2, e2⟩ ⟨j1, f1⟩ ⟨j2, f2⟩
      have fY : (p : Int) ∣ (y : Int) - (z1 * z2) ^ 2 * pY b a1 c1 1 a2 c2 1 := by
        rw [← pY_scale]
        refine cgY eY ⟨i1, e1⟩ ⟨i2, e2⟩ ⟨j1, f1⟩ ⟨j2, f2⟩
      have fZ : (p : Int) ∣ (z : Int) - (z1 * z2) ^ 2 * pZ b a1 c1 1 a2 c2 1 := by
        rw [← pZ_scale]
        refine cgZ eZ ⟨i1, e1⟩ ⟨i2, e2⟩ ⟨j1, f1⟩ ⟨j2, f2⟩
      clear eX eY eZ e1 e2 f1 f2
      have hsm := C.sm_sm oP oQ
      generalize sm p (.A a1 c1) (.A a2 c2) = R at hsm
      rcases hsm with ⟨rfl, hb, rfl⟩ | ⟨hn, l, hl, u, v, rfl, hu, hv, r1, r2⟩
      · have hd : (p : Int) ∣ ((c1 + c2 : Nat) : Int) := Int.natCast_dvd_natCast.2 (Nat.dvd_of_mod_eq_zero hb)
        rw [Int.natCast_add] at hd
        obtain ⟨k, hk⟩ := hd
        have hc2 : (c2 : Int) = -c1 + p * k := by omega
        have hY := C.pY_nz oP.2.2
        refine ⟨zero_of hx ?_, zero_of hz ?_, lt_nz (p := p) fun h => ?_, hy⟩
        · have h7 : (p : Int) ∣ pX b a1 c1 1 a1 c2 1 := by
            rw [hc2]
            unfold pX
            generalize (b : Int) = d at *
            generalize (p : Int) = q at *
            exact ⟨k * a1 * (c1 * (-c1 + q * k) - 3 * (d * (1 * 1) - (a1 * 1 + 1 * a1))) - k * (3 * (d * (a1 * 1 + 1 * a1) - (a1 * a1 + 3 * (1 * 1)))), by grind⟩
          exact lc2 1 (((z1 : Int) * z2) ^ 2) fX h7 (by grind)
        · have h7 : (p : Int) ∣ pZ b a1 c1 1 a1 c2 1 := by
            rw [hc2]
            unfold pZ
            generalize (b : Int) = d at *
            generalize (p : Int) = q at *
            exact ⟨k * (c1 * (-c1 + q * k) + 3 * (d * (1 * 1) - (a1 * 1 + 1 * a1))) + k * a1 * (3 * (a1 * a1 - 1 * 1)), by grind⟩
          exact lc2 1 (((z1 : Int) * z2) ^ 2) fZ h7 (by grind)
        · have h7 : (p : Int) ∣ pY b a1 c1 1 a1 c2 1 := C.pr.can nn (lc2 1 (-1) h fY (by grind))
          refine hY ?_
          rw [hc2] at h7
          unfold pY at h7 ⊢
          obtain ⟨m, hm⟩ := h7
          generalize (b : Int) = d at *
          generalize (p : Int) = q at *
          exact ⟨m - k * c1 * (c1 * (-c1 + q * k) - c1 * c1), by grind⟩
      · have hnz := C.pZ_nz oP.2.2 oQ.2.2 (opp_no oP oQ hn)
        have lX := pX_line oQ.2.2 hl
        have lY := pY_line oQ.2.2 hl
        refine ⟨hx, hy, hz, lt_nz (p := p) fun h => ?_, ?_, ?_⟩
        · exact C.mulnz nn hnz (lc2 1 (-1) h fZ (by grind))
        · have s1 := lc3 1 (-u) (((z1 : Int) * z2) ^ 2) fX fZ lX rfl
          exact lc2 1 (-(((z1 : Int) * z2) ^ 2 * pZ b a1 c1 1 a2 c2 1)) s1 r1 (by grind)
        · have s1 := lc3 1 (-v) (((z1 : Int) * z2) ^ 2) fY fZ lY rfl
          exact lc3 1 (-(((z1 : Int) * z2) ^ 2 * pZ b a1 c1 1 a2 c2 1)) (((z1 : Int) * z2) ^ 2 * pZ b a1 c1 1 a2 c2 1 * l) s1 r2 r1 (by grind)
end
end Go.Proofs.YtmngdaolgdhgmaaGreatDoor
