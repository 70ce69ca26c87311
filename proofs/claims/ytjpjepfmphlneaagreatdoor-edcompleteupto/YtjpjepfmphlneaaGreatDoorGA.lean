import Derived.Test.YtjpjepfmphlneaaGreatDoorCuCM
namespace Go.Proofs.YtjpjepfmphlneaaGreatDoor
theorem lc1 {p e F : Int} (a : Int) (h : p ∣ e) (hF : F = a * e) : p ∣ F := hF ▸ Int.dvd_mul_of_dvd_right h
theorem lc2 {p e1 e2 F : Int} (a1 a2 : Int) (h1 : p ∣ e1) (h2 : p ∣ e2) (hF : F = a1 * e1 + a2 * e2) : p ∣ F := hF ▸ Int.dvd_add (Int.dvd_mul_of_dvd_right h1) (Int.dvd_mul_of_dvd_right h2)
theorem lc3 {p e1 e2 e3 F : Int} (a1 a2 a3 : Int) (h1 : p ∣ e1) (h2 : p ∣ e2) (h3 : p ∣ e3) (hF : F = a1 * e1 + a2 * e2 + a3 * e3) : p ∣ F := hF ▸ Int.dvd_add (Int.dvd_add (Int.dvd_mul_of_dvd_right h1) (Int.dvd_mul_of_dvd_right h2)) (Int.dvd_mul_of_dvd_right h3)
theorem lc4 {p e1 e2 e3 e4 F : Int} (a1 a2 a3 a4 : Int) (h1 : p ∣ e1) (h2 : p ∣ e2) (h3 : p ∣ e3) (h4 : p ∣ e4) (hF : F = a1 * e1 + a2 * e2 + a3 * e3 + a4 * e4) : p ∣ F := hF ▸ Int.dvd_add (Int.dvd_add (Int.dvd_add (Int.dvd_mul_of_dvd_right h1) (Int.dvd_mul_of_dvd_right h2)) (Int.dvd_mul_of_dvd_right h3)) (Int.dvd_mul_of_dvd_right h4)
theorem Prim.mulI {p : Nat} (hp : Prim p) {a c : Int} (h : (p : Int) ∣ a * c) : (p : Int) ∣ a ∨ (p : Int) ∣ c := by
  have h1 : p ∣ a.natAbs * c.natAbs := by rw [← Int.natAbs_mul]; exact Int.ofNat_dvd_left.1 h
  rcases hp.mul h1 with h2 | h2
  · exact Or.inl (Int.ofNat_dvd_left.2 h2)
  · exact Or.inr (Int.ofNat_dvd_left.2 h2)
theorem Prim.can {p : Nat} (hp : Prim p) {a c : Int} (ha : ¬ (p : Int) ∣ a) (h : (p : Int) ∣ a * c) : (p : Int) ∣ c := (hp.mulI h).resolve_left ha
theorem Prim.invI {p : Nat} (hp : Prim p) {a : Int} (ha : ¬ (p : Int) ∣ a) : ∃ t : Int, (p : Int) ∣ a * t - 1 := by
  have h1 : ¬ p ∣ a.natAbs := fun h => ha (Int.ofNat_dvd_left.2 h)
  have h2 := hp.cop h1
  obtain ⟨x, y, h3⟩ := bezI p a.natAbs
  rw [show Nat.gcd p a.natAbs = 1 from h2] at h3
  rcases Int.natAbs_eq a with h4 | h4
  · exact ⟨y, ⟨-x, by rw [h4]; grind⟩⟩
  · exact ⟨-y, ⟨-x, by rw [h4]; grind⟩⟩
theorem eq_of_dvd {p x y : Nat} (hx : x < p) (hy : y < p) (h : (p : Int) ∣ (x : Int) - y) : x = y := by
  obtain ⟨c, hc⟩ := h
  rcases Int.lt_trichotomy c 0 with h1 | h1 | h1
  · have : (p : Int) * c ≤ p * (-1) := Int.mul_le_mul_of_nonneg_left (by omega) (by omega)
    omega
  · subst h1; omega
  · have : (p : Int) * 1 ≤ p * c := Int.mul_le_mul_of_nonneg_left (by omega) (by omega)
    omega
def md (p : Nat) (a : Int) : Nat := (a % p).toNat
theorem md_lt {p : Nat} (hp : 0 < p) (a : Int) : md p a < p := by
  have h1 := Int.emod_nonneg a (b := (p : Int)) (by omega)
  have h2 := Int.emod_lt_of_pos a (b := (p : Int)) (by omega)
  unfold md
  omega
theorem md_dvd {p : Nat} (hp : 0 < p) (a : Int) : (p : Int) ∣ (md p a : Int) - a := by
  have h1 := Int.emod_nonneg a (b := (p : Int)) (by omega)
  have h2 := Int.emod_add_mul_ediv a (p : Int)
  refine ⟨-(a / p), ?_⟩
  unfold md
  rw [Int.toNat_of_nonneg h1]
  grind
theorem cg_add {p a b c d : Int} (h1 : p ∣ a - b) (h2 : p ∣ c - d) : p ∣ a + c - (b + d) := lc2 1 1 h1 h2 (by grind)
theorem cg_sub {p a b c d : Int} (h1 : p ∣ a - b) (h2 : p ∣ c - d) : p ∣ a - c - (b - d) := lc2 1 (-1) h1 h2 (by grind)
theorem cg_mul {p a b c d : Int} (h1 : p ∣ a - b) (h2 : p ∣ c - d) : p ∣ a * c - b * d := lc2 c b h1 h2 (by grind)
theorem cg_tr {p a b c : Int} (h1 : p ∣ a - b) (h2 : p ∣ b - c) : p ∣ a - c := lc2 1 1 h1 h2 (by grind)
theorem nz_lt {p z : Nat} (h0 : 0 < z) (h : z < p) : ¬ (p : Int) ∣ (z : Int) := fun h2 => by
  have := Int.le_of_dvd (by omega) h2
  omega
theorem lt_nz {p z : Nat} (h : ¬ (p : Int) ∣ (z : Int)) : 0 < z := by
  apply Nat.pos_of_ne_zero
  rintro rfl
  exact h ⟨0, by simp⟩
theorem dvd_mod (p n : Nat) : (p : Int) ∣ ((n % p : Nat) : Int) - (n : Int) := by
  refine ⟨-((n / p : Nat) : Int), ?_⟩
  have h : (n : Int) = (p : Int) * ((n / p : Nat) : Int) + ((n % p : Nat) : Int) := by exact_mod_cast (Nat.div_add_mod n p).symm
  grind
end Go.Proofs.YtjpjepfmphlneaaGreatDoor

namespace Go.Proofs.YtjpjepfmphlneaaGreatDoor
/-- What the numbers of a twisted curve are: a prime, a root of - 1, and a number that is no square. -/
structure Ew (p d : Nat) : Prop where
  pr : Prim p
  big : 3 < p
  sq : ∃ i : Int, (p : Int) ∣ i * i + 1
  ns : ∀ s t : Int, (p : Int) ∣ s * s - d * (t * t) → (p : Int) ∣ t
/-- The curve's equation. -/
def eqE (p d : Nat) (x y : Int) : Prop := (p : Int) ∣ y ^ 2 - x ^ 2 - 1 - d * (x ^ 2 * y ^ 2)
def onE (p d : Nat) (P : Nat × Nat) : Prop := P.1 < p ∧ P.2 < p ∧ eqE p d P.1 P.2
/-- The sum of two points. -/
def SmE (p d : Nat) (P Q R : Nat × Nat) : Prop :=
  R.1 < p ∧ R.2 < p ∧ (p : Int) ∣ (1 + d * ((P.1 : Int) * Q.1 * P.2 * Q.2)) * R.1 - ((P.1 : Int) * Q.2 + Q.1 * P.2) ∧ (p : Int) ∣ (1 - d * ((P.1 : Int) * Q.1 * P.2 * Q.2)) * R.2 - ((P.2 : Int) * Q.2 + P.1 * Q.1)
section
variable {p d : Nat} (C : Ew p d)
include C
theorem Ew.pos : 0 < p := by have := C.big; omega
theorem Ew.mulnz {a c : Int} (h1 : ¬ (p : Int) ∣ a) (h2 : ¬ (p : Int) ∣ c) : ¬ (p : Int) ∣ a * c := fun h => (C.pr.mulI h).elim h1 h2
theorem Ew.n1 : ¬ (p : Int) ∣ 1 := fun h => by
  have := Int.le_of_dvd (by omega) h
  have := C.big
  omega
theorem Ew.n2 : ¬ (p : Int) ∣ 2 := fun h => by
  have := Int.le_of_dvd (by omega) h
  have := C.big
  omega
theorem Ew.dnz : ¬ (p : Int) ∣ (d : Int) := fun h => C.n1 (C.ns 0 1 (lc1 (-1) h (by grind)))
theorem Ew.inz {i : Int} (hi : (p : Int) ∣ i * i + 1) : ¬ (p : Int) ∣ i := fun h => C.n1 (lc2 1 (-i) hi h (by grind))
/-- Neither divisor is ever nought. -/
theorem Ew.nz {x1 y1 x2 y2 e : Int} (h1 : eqE p d x1 y1) (h2 : eqE p d x2 y2) (he : e * e = 1) : ¬ (p : Int) ∣ d * (x1 * x2 * y1 * y2) - e := by
  intro ht
  obtain ⟨i, hi⟩ := C.sq
  unfold eqE at h1 h2
  have hne : ¬ (p : Int) ∣ e := fun h => C.n1 (lc1 e h he.symm)
  have hm : ¬ (p : Int) ∣ x1 * x2 * y1 * y2 := fun h => hne (lc2 (d : Int) (-1) h ht (by grind))
  have hxy : ¬ (p : Int) ∣ x1 * y1 := fun h => hm (lc1 (x2 * y2) h (by grind))
  have hx2 : ¬ (p : Int) ∣ x2 := fun h => hm (lc1 (x1 * y1 * y2) h (by grind))
  have a := C.ns (i * x1 + e * y1) (x1 * y1 * (i * x2 + y2)) (lc4 1 (-(d * (x1 ^ 2 * y1 ^ 2))) (-(2 * i * x1 * y1) - (d * (x1 * x2 * y1 * y2) + e)) (x1 ^ 2 - d * (x1 ^ 2 * y1 ^ 2 * x2 ^ 2)) h1 h2 ht hi (by grind))
  have b := C.ns (i * x1 - e * y1) (x1 * y1 * (i * x2 - y2)) (lc4 1 (-(d * (x1 ^ 2 * y1 ^ 2))) (2 * i * x1 * y1 - (d * (x1 * x2 * y1 * y2) + e)) (x1 ^ 2 - d * (x1 ^ 2 * y1 ^ 2 * x2 ^ 2)) h1 h2 ht hi (by grind))
  have a' := C.pr.can hxy a
  have b' := C.pr.can hxy b
  exact C.mulnz C.n2 (C.mulnz (C.inz hi) hx2) (lc2 1 1 a' b' (by grind))
theorem Ew.nzp {x1 y1 x2 y2 : Int} (h1 : eqE p d x1 y1) (h2 : eqE p d x2 y2) : ¬ (p : Int) ∣ 1 + d * (x1 * x2 * y1 * y2) := fun h => C.nz (e := -1) h1 h2 (by decide) (lc1 1 h (by grind))
theorem Ew.nzm {x1 y1 x2 y2 : Int} (h1 : eqE p d x1 y1) (h2 : eqE p d x2 y2) : ¬ (p : Int) ∣ 1 - d * (x1 * x2 * y1 * y2) := fun h => C.nz (e := 1) h1 h2 (by decide) (lc1 (-1) h (by grind))
theorem Ew.ex {P Q : Nat × Nat} (h1 : onE p d P) (h2 : onE p d Q) : ∃ R, SmE p d P Q R := by
  obtain ⟨s, hs⟩ := C.pr.invI (C.nzp h1.2.2 h2.2.2)
  obtain ⟨t, ht⟩ := C.pr.invI (C.nzm h1.2.2 h2.2.2)
  refine ⟨(md p (s * ((P.1 : Int) * Q.2 + Q.1 * P.2)), md p (t * ((P.2 : Int) * Q.2 + P.1 * Q.1))), md_lt C.pos _, md_lt C.pos _, ?_, ?_⟩
  · have := md_dvd C.pos (s * ((P.1 : Int) * Q.2 + Q.1 * P.2))
    generalize ((md p (s * ((P.1 : Int) * Q.2 + Q.1 * P.2)) : Nat) : Int) = r at *
    exact lc2 ((P.1 : Int) * Q.2 + Q.1 * P.2) (1 + d * ((P.1 : Int) * Q.1 * P.2 * Q.2)) hs this (by grind)
  · have := md_dvd C.pos (t * ((P.2 : Int) * Q.2 + P.1 * Q.1))
    generalize ((md p (t * ((P.2 : Int) * Q.2 + P.1 * Q.1)) : Nat) : Int) = r at *
    exact lc2 ((P.2 : Int) * Q.2 + P.1 * Q.1) (1 - d * ((P.1 : Int) * Q.1 * P.2 * Q.2)) ht this (by grind)
theorem Ew.one {P Q R S : Nat × Nat} (h1 : onE p d P) (h2 : onE p d Q) (hR : SmE p d P Q R) (hS : SmE p d P Q S) : R = S := by
  have e1 := C.pr.can (C.nzp h1.2.2 h2.2.2) (c := (R.1 : Int) - S.1) (lc2 1 (-1) hR.2.2.1 hS.2.2.1 (by grind))
  have e2 := C.pr.can (C.nzm h1.2.2 h2.2.2) (c := (R.2 : Int) - S.2) (lc2 1 (-1) hR.2.2.2 hS.2.2.2 (by grind))
  exact Prod.ext (eq_of_dvd hR.1 hS.1 e1) (eq_of_dvd hR.2.1 hS.2.1 e2)
theorem Ew.dinv : ∃ D : Int, (p : Int) ∣ d * D - 1 := C.pr.invI C.dnz
end
/-- The equations, with the inverse D of d. -/
theorem eqD {p d : Nat} {x y D : Int} (hD : (p : Int) ∣ d * D - 1) (h : eqE p d x y) : (p : Int) ∣ x ^ 2 * y ^ 2 - D * (y ^ 2 - x ^ 2 - 1) := lc2 (-D) (-(x ^ 2 * y ^ 2)) h hD (by grind)
theorem eqD' {p d : Nat} {x y D : Int} (hD : (p : Int) ∣ d * D - 1) (h : (p : Int) ∣ x ^ 2 * y ^ 2 - D * (y ^ 2 - x ^ 2 - 1)) : eqE p d x y := by
  unfold eqE
  exact lc2 (-d) (-(y ^ 2 - x ^ 2 - 1)) h hD (by grind)
theorem smD {p d : Nat} {x1 y1 x2 y2 x D : Int} (hD : (p : Int) ∣ d * D - 1) (h : (p : Int) ∣ (1 + d * (x1 * x2 * y1 * y2)) * x - (x1 * y2 + x2 * y1)) : (p : Int) ∣ (D + x1 * x2 * y1 * y2) * x - D * (x1 * y2 + x2 * y1) :=
  lc2 D (-(x1 * x2 * y1 * y2) * x) h hD (by grind)
theorem smD' {p d : Nat} {x1 y1 x2 y2 y D : Int} (hD : (p : Int) ∣ d * D - 1) (h : (p : Int) ∣ (1 - d * (x1 * x2 * y1 * y2)) * y - (y1 * y2 + x1 * x2)) : (p : Int) ∣ (D - x1 * x2 * y1 * y2) * y - D * (y1 * y2 + x1 * x2) :=
  lc2 D (x1 * x2 * y1 * y2 * y) h hD (by grind)
theorem clos {x1 y1 x2 y2 D : Int} : D * ((y1 * y2 + x1 * x2) ^ 2 * (D + x1 * x2 * y1 * y2) ^ 2 * D ^ 2 - (x1 * y2 + x2 * y1) ^ 2 * (D - x1 * x2 * y1 * y2) ^ 2 * D ^ 2 - (D + x1 * x2 * y1 * y2) ^ 2 * (D - x1 * x2 * y1 * y2) ^ 2) - D ^ 4 * (x1 * y2 + x2 * y1) ^ 2 * (y1 * y2 + x1 * x2) ^ 2
    = (2*D^4*x2^4*y2^2 - D^4*x2^4 - 2*D^4*x2^2*y2^4 + 4*D^4*x2^2*y2^2 - D^4*y2^4 + D^3*x1^2*x2^4*y2^2 - D^3*x1^2*x2^2*y2^4 - D^3*x2^4*y1^2*y2^2 + 2*D^3*x2^4*y2^4 + D^3*x2^2*y1^2*y2^4 + 2*D^3*x2^2*y2^2 + D^2*x1^2*x2^4*y2^4 - D^2*x2^4*y1^2*y2^4 + D^2*x2^4*y2^4 - D*x1^2*x2^4*y1^2*y2^4) * (x1 ^ 2 * y1 ^ 2 - D * (y1 ^ 2 - x1 ^ 2 - 1)) + (-2*D^4*x1^2*x2^2*y2^2 + D^4*x1^2*x2^2 - D^4*x1^2*y2^2 + 2*D^4*x2^2*y1^2*y2^2 - D^4*x2^2*y1^2 - 2*D^4*x2^2*y2^2 + D^4*x2^2 + D^4*y1^2*y2^2 - D^4*y2^2 - D^4 - D^3*x1^4*x2^2*y2^2 - 2*D^3*x1^2*x2^2*y2^2 - D^3*x2^2*y1^4*y2^2 + 2*D^3*x2^2*y1^2*y2^2 - D^3*x2^2*y2^2) * (x2 ^ 2 * y2 ^ 2 - D * (y2 ^ 2 - x2 ^ 2 - 1)) := by grind
def qx0_0 (x1 y1 x2 y2 x3 y3 D : Int) : Int := x1*x3*D*D*x2*x2*x2*y2*y2 + x1*y3*D*D*x2*x2*y2*y2*y2 + x1*D*D*x2*x2*x2*x3*x3*x3*y2*y2 + x3*y1*D*D*x2*x2*y2*y2*y2 + y1*y3*D*D*x2*x2*x2*y2*y2 + y1*D*D*x2*x2*x3*x3*x3*y2*y2*y2 - x1*D*D*x2*x2*y2*y2*y2*y3*y3*y3 - y1*D*D*x2*x2*x2*y2*y2*y3*y3*y3 + D*x1*x3*x2*x2*x2*y2*y2*y2*y2*y3*y3 + D*x1*y3*x2*x2*x2*x2*x3*x3*y2*y2*y2 + x1*y2*y3*D*D*x2*x2*x2*x2*x3*x3 + x2*y1*y3*D*D*x3*x3*y2*y2*y2*y2
def qx0_1 (x1 y1 x2 y2 x3 y3 D : Int) : Int := 0 - D*x3*y1*x2*x2*x2*x2*y2*y2*y2*y3*y3 - D*y1*y3*x2*x2*x2*x3*x3*y2*y2*y2*y2 - x1*x2*x3*D*D*y2*y2*y2*y2*y3*y3 - x3*y1*y2*D*D*x2*x2*x2*x2*y3*y3
def qx1_0 (x1 y1 x2 y2 x3 y3 D : Int) : Int := x1*y2*D*D*D*y3*y3*y3 + x2*y1*D*D*D*y3*y3*y3 + x2*y3*D*D*D*y1*y1*y1 + x3*y2*D*D*D*y1*y1*y1 + y2*D*D*D*x1*x1*x1*y3*y3*y3 + y2*D*D*D*x3*x3*x3*y1*y1*y1 - x1*x2*x3*D*D*D - x1*x2*D*D*D*x3*x3*x3 - x1*y2*y3*D*D*D - x2*x3*D*D*D*x1*x1*x1 - x2*y1*y3*D*D*D - x2*D*D*D*x1*x1*x1*x3*x3*x3
def qx1_1 (x1 y1 x2 y2 x3 y3 D : Int) : Int := 0 - x2*D*D*D*y1*y1*y1*y3*y3*y3 - x3*y1*y2*D*D*D - y1*y2*D*D*D*x3*x3*x3 - y2*y3*D*D*D*x1*x1*x1 + x1*x2*x3*D*D*D*y1*y1 + x1*x2*x3*D*D*D*y3*y3 + x1*x2*D*D*D*x3*x3*x3*y1*y1 + x1*y2*y3*D*D*D*y1*y1 + x2*x3*D*D*D*x1*x1*x1*y3*y3 + x2*y1*D*D*D*x1*x1*y3*y3*y3 + x2*y3*D*D*D*x3*x3*y1*y1*y1 + x2*D*D*x3*x3*y1*y1*y1*y3*y3*y3
def qx1_2 (x1 y1 x2 y2 x3 y3 D : Int) : Int := x3*y1*y2*D*D*D*y3*y3 + y2*D*D*x3*x3*x3*y1*y1*y1*y3*y3 - x1*x2*D*D*x3*x3*x3*y3*y3 - x1*y2*y3*D*D*D*x3*x3 - x1*y2*D*D*x3*x3*y3*y3*y3 - x1*y2*D*D*D*y1*y1*y3*y3*y3 - x2*y1*y3*D*D*D*x1*x1 - x2*y1*y3*D*D*D*x3*x3 - x2*y1*D*D*x3*x3*y3*y3*y3 - x2*D*D*x1*x1*x1*x3*x3*x3*y3*y3 - x3*y1*y2*D*D*D*x1*x1 - x3*y2*D*D*D*y1*y1*y1*y3*y3
def qx1_3 (x1 y1 x2 y2 x3 y3 D : Int) : Int := 0 - y1*y2*D*D*x3*x3*x3*y3*y3 - y1*y2*D*D*D*x1*x1*x3*x3*x3 - y2*y3*D*D*D*x1*x1*x1*x3*x3 - y2*D*D*x1*x1*x1*x3*x3*y3*y3*y3 + x1*x2*D*D*x3*x3*x3*y1*y1*y3*y3 + x1*y2*y3*D*D*D*x3*x3*y1*y1 + x1*y2*D*D*x3*x3*y1*y1*y3*y3*y3 + x2*y1*y3*D*D*x3*x3*y2*y2 + x3*y1*y2*D*D*x2*x2*y3*y3 + x3*y1*y2*D*D*D*x1*x1*y3*y3 - x1*x2*x3*D*D*y2*y2*y3*y3 - x1*x2*x3*D*D*D*y1*y1*y3*y3
def qx1_4 (x1 y1 x2 y2 x3 y3 D : Int) : Int := 0 - x1*y2*y3*D*D*x2*x2*x3*x3 - x2*x3*D*D*x1*x1*x1*y2*y2*y3*y3 - x2*y1*y3*D*D*D*x1*x1*x3*x3 - x2*y1*D*D*x1*x1*x3*x3*y3*y3*y3 - x2*y3*D*D*x3*x3*y1*y1*y1*y2*y2 - x3*y2*D*D*x2*x2*y1*y1*y1*y3*y3 - y1*y2*D*D*x1*x1*x3*x3*x3*y3*y3 - y2*y3*D*D*x1*x1*x1*x2*x2*x3*x3 + D*x1*y2*x2*x2*x3*x3*y1*y1*y3*y3*y3 + D*x2*y1*x1*x1*x3*x3*y2*y2*y3*y3*y3 + x1*x2*x3*D*D*y1*y1*y2*y2*y3*y3 + x1*y2*y3*D*D*x2*x2*x3*x3*y1*y1
def qx1_5 (x1 y1 x2 y2 x3 y3 D : Int) : Int := x2*y1*y3*D*D*x1*x1*x3*x3*y2*y2 + x3*y1*y2*D*D*x1*x1*x2*x2*y3*y3 - D*x1*x2*x3*x3*x3*y1*y1*y2*y2*y3*y3 - D*y1*y2*x1*x1*x2*x2*x3*x3*x3*y3*y3
def qx2_0 (x1 y1 x2 y2 x3 y3 D : Int) : Int := x1*x2*x3*D*D*D + x1*x3*D*D*D*x2*x2*x2 + x1*y2*y3*D*D*D + x2*x3*D*D*D*x1*x1*x1 + x2*y1*y3*D*D*D + x3*y1*y2*D*D*D + x3*D*D*D*x1*x1*x1*x2*x2*x2 + x3*D*D*D*y1*y1*y1*y2*y2*y2 + y1*y3*D*D*D*x2*x2*x2 + y2*y3*D*D*D*x1*x1*x1 - x1*y3*D*D*D*y2*y2*y2 - x2*y3*D*D*D*y1*y1*y1
def qx2_1 (x1 y1 x2 y2 x3 y3 D : Int) : Int := 0 - x3*y1*D*D*D*y2*y2*y2 - x3*y2*D*D*D*y1*y1*y1 - y3*D*D*D*x1*x1*x1*y2*y2*y2 - y3*D*D*D*x2*x2*x2*y1*y1*y1 + x1*y2*y3*D*D*D*x2*x2 + x1*y3*D*D*D*y1*y1*y2*y2*y2 + x2*y1*y3*D*D*D*x1*x1 + x2*y3*D*D*D*y1*y1*y1*y2*y2 + x3*y1*y2*D*D*D*x1*x1 + x3*y1*y2*D*D*D*x2*x2 + y1*y3*D*D*D*x1*x1*x2*x2*x2 + y2*y3*D*D*D*x1*x1*x1*x2*x2
def qx2_2 (x1 y1 x2 y2 x3 y3 D : Int) : Int := 0 - x1*x2*x3*D*D*D*y1*y1 - x1*x2*x3*D*D*D*y2*y2 - x1*x3*D*D*D*x2*x2*x2*y1*y1 - x1*y2*y3*D*D*D*y1*y1 - x2*x3*D*D*D*x1*x1*x1*y2*y2 - x2*y1*y3*D*D*D*y2*y2 - x3*y1*D*D*D*x1*x1*y2*y2*y2 - x3*y2*D*D*D*x2*x2*y1*y1*y1 + x1*x2*x3*D*D*y1*y1*y2*y2 + x1*x2*x3*D*D*D*y1*y1*y2*y2 + x3*y1*y2*D*D*x1*x1*x2*x2 + x3*y1*y2*D*D*D*x1*x1*x2*x2
def qx2_3 (x1 y1 x2 y2 _x3 y3 D : Int) : Int := 0 - x1*y2*y3*D*D*x2*x2*y1*y1 - x1*y2*y3*D*D*D*x2*x2*y1*y1 - x2*y1*y3*D*D*x1*x1*y2*y2 - x2*y1*y3*D*D*D*x1*x1*y2*y2
def qy0_0 (x1 y1 x2 y2 x3 y3 D : Int) : Int := x1*x3*D*D*x2*x2*y2*y2*y2 + x1*y3*D*D*x2*x2*x2*y2*y2 + x1*D*D*x2*x2*x3*x3*x3*y2*y2*y2 + x3*y1*D*D*x2*x2*x2*y2*y2 + y1*y3*D*D*x2*x2*y2*y2*y2 + y1*D*D*x2*x2*x2*x3*x3*x3*y2*y2 - x1*D*D*x2*x2*x2*y2*y2*y3*y3*y3 - y1*D*D*x2*x2*y2*y2*y2*y3*y3*y3 + D*x3*y1*x2*x2*x2*y2*y2*y2*y2*y3*y3 + D*y1*y3*x2*x2*x2*x2*x3*x3*y2*y2*y2 + x1*x2*y3*D*D*x3*x3*y2*y2*y2*y2 + y1*y2*y3*D*D*x2*x2*x2*x2*x3*x3
def qy0_1 (x1 y1 x2 y2 x3 y3 D : Int) : Int := 0 - D*x1*x3*x2*x2*x2*x2*y2*y2*y2*y3*y3 - D*x1*y3*x2*x2*x2*x3*x3*y2*y2*y2*y2 - x1*x3*y2*D*D*x2*x2*x2*x2*y3*y3 - x2*x3*y1*D*D*y2*y2*y2*y2*y3*y3
def qy1_0 (x1 y1 x2 y2 x3 y3 D : Int) : Int := x1*x2*D*D*D*y3*y3*y3 + x2*x3*D*D*D*y1*y1*y1 + x2*D*D*D*x1*x1*x1*y3*y3*y3 + x2*D*D*D*x3*x3*x3*y1*y1*y1 + y1*y2*D*D*D*y3*y3*y3 + y2*y3*D*D*D*y1*y1*y1 - x1*x2*y3*D*D*D - x1*x3*y2*D*D*D - x1*y2*D*D*D*x3*x3*x3 - x2*x3*y1*D*D*D - x2*y1*D*D*D*x3*x3*x3 - x2*y3*D*D*D*x1*x1*x1
def qy1_1 (x1 y1 x2 y2 x3 y3 D : Int) : Int := 0 - x3*y2*D*D*D*x1*x1*x1 - y1*y2*y3*D*D*D - y2*D*D*D*x1*x1*x1*x3*x3*x3 - y2*D*D*D*y1*y1*y1*y3*y3*y3 + x1*x2*y3*D*D*D*y1*y1 + x1*x3*y2*D*D*D*y1*y1 + x1*x3*y2*D*D*D*y3*y3 + x1*y2*D*D*D*x3*x3*x3*y1*y1 + x2*x3*y1*D*D*D*y3*y3 + x2*D*D*x3*x3*x3*y1*y1*y1*y3*y3 + x3*y2*D*D*D*x1*x1*x1*y3*y3 + y1*y2*D*D*D*x1*x1*y3*y3*y3
def qy1_2 (x1 y1 x2 y2 x3 y3 D : Int) : Int := y2*y3*D*D*D*x3*x3*y1*y1*y1 + y2*D*D*x3*x3*y1*y1*y1*y3*y3*y3 - x1*x2*y3*D*D*D*x3*x3 - x1*x2*D*D*x3*x3*y3*y3*y3 - x1*x2*D*D*D*y1*y1*y3*y3*y3 - x1*y2*D*D*x3*x3*x3*y3*y3 - x2*x3*y1*D*D*D*x1*x1 - x2*x3*D*D*D*y1*y1*y1*y3*y3 - x2*y1*D*D*x3*x3*x3*y3*y3 - x2*y1*D*D*D*x1*x1*x3*x3*x3 - x2*y3*D*D*D*x1*x1*x1*x3*x3 - x2*D*D*x1*x1*x1*x3*x3*y3*y3*y3
def qy1_3 (x1 y1 x2 y2 x3 y3 D : Int) : Int := 0 - y1*y2*y3*D*D*D*x1*x1 - y1*y2*y3*D*D*D*x3*x3 - y1*y2*D*D*x3*x3*y3*y3*y3 - y2*D*D*x1*x1*x1*x3*x3*x3*y3*y3 + x1*x2*y3*D*D*x3*x3*y2*y2 + x1*x2*y3*D*D*D*x3*x3*y1*y1 + x1*x2*D*D*x3*x3*y1*y1*y3*y3*y3 + x1*x3*y2*D*D*x2*x2*y3*y3 + x1*y2*D*D*x3*x3*x3*y1*y1*y3*y3 + x2*x3*y1*D*D*D*x1*x1*y3*y3 + x2*x3*D*D*y1*y1*y1*y2*y2*y3*y3 + x2*y3*D*D*x1*x1*x1*x3*x3*y2*y2
def qy1_4 (x1 y1 x2 y2 x3 y3 D : Int) : Int := x3*y2*D*D*x1*x1*x1*x2*x2*y3*y3 + y2*y3*D*D*x2*x2*x3*x3*y1*y1*y1 - x1*x3*y2*D*D*D*y1*y1*y3*y3 - x2*x3*y1*D*D*y2*y2*y3*y3 - x2*y1*D*D*x1*x1*x3*x3*x3*y3*y3 - y1*y2*y3*D*D*x2*x2*x3*x3 - y1*y2*y3*D*D*D*x1*x1*x3*x3 - y1*y2*D*D*x1*x1*x3*x3*y3*y3*y3 + D*x1*y2*x2*x2*x3*x3*x3*y1*y1*y3*y3 + D*x2*y1*x1*x1*x3*x3*x3*y2*y2*y3*y3 - D*x1*x2*x3*x3*y1*y1*y2*y2*y3*y3*y3 - D*y1*y2*x1*x1*x2*x2*x3*x3*y3*y3*y3
def qy1_5 (x1 y1 x2 y2 x3 y3 D : Int) : Int := 0 - x1*x2*y3*D*D*x3*x3*y1*y1*y2*y2 - x1*x3*y2*D*D*x2*x2*y1*y1*y3*y3 - x2*x3*y1*D*D*x1*x1*y2*y2*y3*y3 - y1*y2*y3*D*D*x1*x1*x2*x2*x3*x3
def qy2_0 (x1 y1 x2 y2 x3 y3 D : Int) : Int := x1*x2*y3*D*D*D + x1*x3*y2*D*D*D + x1*y3*D*D*D*x2*x2*x2 + x2*x3*y1*D*D*D + x2*y3*D*D*D*x1*x1*x1 + x3*y1*D*D*D*x2*x2*x2 + x3*y2*D*D*D*x1*x1*x1 + y1*y2*y3*D*D*D + y3*D*D*D*x1*x1*x1*x2*x2*x2 + y3*D*D*D*y1*y1*y1*y2*y2*y2 - x1*x3*D*D*D*y2*y2*y2 - x2*x3*D*D*D*y1*y1*y1
def qy2_1 (x1 y1 x2 y2 x3 y3 D : Int) : Int := 0 - x3*D*D*D*x1*x1*x1*y2*y2*y2 - x3*D*D*D*x2*x2*x2*y1*y1*y1 - y1*y3*D*D*D*y2*y2*y2 - y2*y3*D*D*D*y1*y1*y1 + x1*x3*y2*D*D*D*x2*x2 + x1*x3*D*D*D*y1*y1*y2*y2*y2 + x2*x3*y1*D*D*D*x1*x1 + x2*x3*D*D*D*y1*y1*y1*y2*y2 + x3*y1*D*D*D*x1*x1*x2*x2*x2 + x3*y2*D*D*D*x1*x1*x1*x2*x2 + y1*y2*y3*D*D*D*x1*x1 + y1*y2*y3*D*D*D*x2*x2
def qy2_2 (x1 y1 x2 y2 x3 y3 D : Int) : Int := 0 - x1*x2*y3*D*D*D*y1*y1 - x1*x2*y3*D*D*D*y2*y2 - x1*x3*y2*D*D*D*y1*y1 - x1*y3*D*D*D*x2*x2*x2*y1*y1 - x2*x3*y1*D*D*D*y2*y2 - x2*y3*D*D*D*x1*x1*x1*y2*y2 - y1*y3*D*D*D*x1*x1*y2*y2*y2 - y2*y3*D*D*D*x2*x2*y1*y1*y1 + x1*x2*y3*D*D*y1*y1*y2*y2 + x1*x2*y3*D*D*D*y1*y1*y2*y2 + y1*y2*y3*D*D*x1*x1*x2*x2 + y1*y2*y3*D*D*D*x1*x1*x2*x2
def qy2_3 (x1 y1 x2 y2 x3 _y3 D : Int) : Int := 0 - x1*x3*y2*D*D*x2*x2*y1*y1 - x1*x3*y2*D*D*D*x2*x2*y1*y1 - x2*x3*y1*D*D*x1*x1*y2*y2 - x2*x3*y1*D*D*D*x1*x1*y2*y2
set_option maxHeartbeats 4000000 in
theorem assX {x1 y1 x2 y2 x3 y3 D : Int} :
    D * ((D - x1 * x2 * y1 * y2) * (x1 * y2 + x2 * y1) * y3 + (D + x1 * x2 * y1 * y2) * (y1 * y2 + x1 * x2) * x3) * ((D + x2 * x3 * y2 * y3) * (D - x2 * x3 * y2 * y3) + D * (x2 * y3 + x3 * y2) * (y2 * y3 + x2 * x3) * x1 * y1)
    - D * ((D + x2 * x3 * y2 * y3) * (y2 * y3 + x2 * x3) * x1 + (D - x2 * x3 * y2 * y3) * (x2 * y3 + x3 * y2) * y1) * ((D + x1 * x2 * y1 * y2) * (D - x1 * x2 * y1 * y2) + D * (x1 * y2 + x2 * y1) * (y1 * y2 + x1 * x2) * x3 * y3)
    = (qx0_0 x1 y1 x2 y2 x3 y3 D + qx0_1 x1 y1 x2 y2 x3 y3 D) * (x1 ^ 2 * y1 ^ 2 - D * (y1 ^ 2 - x1 ^ 2 - 1)) + (qx1_0 x1 y1 x2 y2 x3 y3 D + qx1_1 x1 y1 x2 y2 x3 y3 D + qx1_2 x1 y1 x2 y2 x3 y3 D + qx1_3 x1 y1 x2 y2 x3 y3 D + qx1_4 x1 y1 x2 y2 x3 y3 D + qx1_5 x1 y1 x2 y2 x3 y3 D) * (x2 ^ 2 * y2 ^ 2 - D * (y2 ^ 2 - x2 ^ 2 - 1)) + (qx2_0 x1 y1 x2 y2 x3 y3 D + qx2_1 x1 y1 x2 y2 x3 y3 D + qx2_2 x1 y1 x2 y2 x3 y3 D + qx2_3 x1 y1 x2 y2 x3 y3 D) * (x3 ^ 2 * y3 ^ 2 - D * (y3 ^ 2 - x3 ^ 2 - 1)) := by unfold qx0_0 qx0_1 qx1_0 qx1_1 qx1_2 qx1_3 qx1_4 qx1_5 qx2_0 qx2_1 qx2_2 qx2_3; grind
set_option maxHeartbeats 4000000 in
theorem assY {x1 y1 x2 y2 x3 y3 D : Int} :
    D * ((D + x1 * x2 * y1 * y2) * (y1 * y2 + x1 * x2) * y3 + (D - x1 * x2 * y1 * y2) * (x1 * y2 + x2 * y1) * x3) * ((D + x2 * x3 * y2 * y3) * (D - x2 * x3 * y2 * y3) - D * (x2 * y3 + x3 * y2) * (y2 * y3 + x2 * x3) * x1 * y1)
    - D * ((D + x2 * x3 * y2 * y3) * (y2 * y3 + x2 * x3) * y1 + (D - x2 * x3 * y2 * y3) * (x2 * y3 + x3 * y2) * x1) * ((D + x1 * x2 * y1 * y2) * (D - x1 * x2 * y1 * y2) - D * (x1 * y2 + x2 * y1) * (y1 * y2 + x1 * x2) * x3 * y3)
    = (qy0_0 x1 y1 x2 y2 x3 y3 D + qy0_1 x1 y1 x2 y2 x3 y3 D) * (x1 ^ 2 * y1 ^ 2 - D * (y1 ^ 2 - x1 ^ 2 - 1)) + (qy1_0 x1 y1 x2 y2 x3 y3 D + qy1_1 x1 y1 x2 y2 x3 y3 D + qy1_2 x1 y1 x2 y2 x3 y3 D + qy1_3 x1 y1 x2 y2 x3 y3 D + qy1_4 x1 y1 x2 y2 x3 y3 D + qy1_5 x1 y1 x2 y2 x3 y3 D) * (x2 ^ 2 * y2 ^ 2 - D * (y2 ^ 2 - x2 ^ 2 - 1)) + (qy2_0 x1 y1 x2 y2 x3 y3 D + qy2_1 x1 y1 x2 y2 x3 y3 D + qy2_2 x1 y1 x2 y2 x3 y3 D + qy2_3 x1 y1 x2 y2 x3 y3 D) * (x3 ^ 2 * y3 ^ 2 - D * (y3 ^ 2 - x3 ^ 2 - 1)) := by unfold qy0_0 qy0_1 qy1_0 qy1_1 qy1_2 qy1_3 qy1_4 qy1_5 qy2_0 qy2_1 qy2_2 qy2_3; grind
end Go.Proofs.YtjpjepfmphlneaaGreatDoor

namespace Go.Proofs.YtjpjepfmphlneaaGreatDoor
theorem cl0 (u v X Y D x y : Int) : (u * v) ^ 2 * (x ^ 2 * y ^ 2 - D * (y ^ 2 - x ^ 2 - 1)) = (u * x + D * X) * ((v * y) ^ 2 + D * v ^ 2) * (u * x - D * X) + (v * y + D * Y) * ((D * X) ^ 2 - D * u ^ 2) * (v * y - D * Y) + (-1) * (D * (Y ^ 2 * u ^ 2 * D ^ 2 - X ^ 2 * v ^ 2 * D ^ 2 - u ^ 2 * v ^ 2) - D ^ 4 * X ^ 2 * Y ^ 2) := by grind
theorem as0 (u v X Y D x3 y3 xS yS xA : Int) : D * ((u * v + D * X * Y * x3 * y3) * xA - D * (v * X * y3 + u * Y * x3)) = u * v * ((D + xS * x3 * yS * y3) * xA - D * (xS * y3 + x3 * yS)) + (D * v * y3 - v * yS * x3 * y3 * xA) * (u * xS - D * X) + (D * u * x3 - D * X * x3 * y3 * xA) * (v * yS - D * Y) := by grind
theorem as1 (u v X Y D x3 y3 xS yS yA : Int) : D * ((u * v - D * X * Y * x3 * y3) * yA - D * (u * Y * y3 + v * X * x3)) = u * v * ((D - xS * x3 * yS * y3) * yA - D * (yS * y3 + xS * x3)) + (D * v * x3 + v * yS * x3 * y3 * yA) * (u * xS - D * X) + (D * u * y3 + D * X * x3 * y3 * yA) * (v * yS - D * Y) := by grind
theorem as2 (u v X Y D x3 y3 xS yS : Int) : u * v * (D + xS * x3 * yS * y3) = D * (u * v + D * X * Y * x3 * y3) + v * yS * x3 * y3 * (u * xS - D * X) + D * X * x3 * y3 * (v * yS - D * Y) := by grind
theorem as3 (u v X Y D x3 y3 xS yS : Int) : u * v * (D - xS * x3 * yS * y3) = D * (u * v - D * X * Y * x3 * y3) + -(v * yS * x3 * y3) * (u * xS - D * X) + -(D * X * x3 * y3) * (v * yS - D * Y) := by grind
theorem as4 (a b c e x y : Int) : a * b * (x - y) = b * (a * x - c) + -a * (b * y - e) + 1 * (c * b - e * a) := by grind
section
variable {p d : Nat} (C : Ew p d)
include C
theorem Ew.Dnz {D : Int} (hD : (p : Int) ∣ d * D - 1) : ¬ (p : Int) ∣ D := fun h => C.n1 (lc2 d (-1) h hD (by grind))
theorem Ew.nu {x1 y1 x2 y2 D : Int} (hD : (p : Int) ∣ d * D - 1) (h1 : eqE p d x1 y1) (h2 : eqE p d x2 y2) : ¬ (p : Int) ∣ D + x1 * x2 * y1 * y2 := fun h => C.nzp h1 h2 (lc2 d (-1) h hD (by grind))
theorem Ew.nv {x1 y1 x2 y2 D : Int} (hD : (p : Int) ∣ d * D - 1) (h1 : eqE p d x1 y1) (h2 : eqE p d x2 y2) : ¬ (p : Int) ∣ D - x1 * x2 * y1 * y2 := fun h => C.nzm h1 h2 (lc2 d (-1) h hD (by grind))
/-- Sums of points are on the curve. -/
theorem Ew.clo {P Q R : Nat × Nat} (h1 : onE p d P) (h2 : onE p d Q) (h : SmE p d P Q R) : onE p d R := by
  obtain ⟨D, hD⟩ := C.dinv
  refine ⟨h.1, h.2.1, eqD' hD ?_⟩
  have a := smD hD h.2.2.1
  have b := smD' hD h.2.2.2
  have nu := C.nu hD h1.2.2 h2.2.2
  have nv := C.nv hD h1.2.2 h2.2.2
  have e1 := eqD hD h1.2.2
  have e2 := eqD hD h2.2.2
  have c := lc2 _ _ e1 e2 (clos (x1 := (P.1 : Int)) (y1 := (P.2 : Int)) (x2 := (Q.1 : Int)) (y2 := (Q.2 : Int)) (D := D))
  have n := C.mulnz nu nv
  refine C.pr.can (C.mulnz n n) ?_
  have := lc3 _ _ _ a b c (cl0 _ _ _ _ _ _ _)
  rw [Int.pow_succ, Int.pow_succ, Int.pow_zero, Int.one_mul] at this
  exact this
/-- What (S + R) is, in the numbers of P, Q and R. -/
theorem Ew.three {P Q R S A : Nat × Nat} {D : Int} (hD : (p : Int) ∣ d * D - 1) (h1 : onE p d P) (h2 : onE p d Q) (h3 : onE p d R) (hS : SmE p d P Q S) (hA : SmE p d S R A) :
    (p : Int) ∣ ((D + (P.1 : Int) * Q.1 * P.2 * Q.2) * (D - (P.1 : Int) * Q.1 * P.2 * Q.2) + D * ((P.1 : Int) * Q.2 + Q.1 * P.2) * ((P.2 : Int) * Q.2 + P.1 * Q.1) * R.1 * R.2) * A.1 - D * ((D - (P.1 : Int) * Q.1 * P.2 * Q.2) * ((P.1 : Int) * Q.2 + Q.1 * P.2) * R.2 + (D + (P.1 : Int) * Q.1 * P.2 * Q.2) * ((P.2 : Int) * Q.2 + P.1 * Q.1) * R.1)
    ∧ (p : Int) ∣ ((D + (P.1 : Int) * Q.1 * P.2 * Q.2) * (D - (P.1 : Int) * Q.1 * P.2 * Q.2) - D * ((P.1 : Int) * Q.2 + Q.1 * P.2) * ((P.2 : Int) * Q.2 + P.1 * Q.1) * R.1 * R.2) * A.2 - D * ((D + (P.1 : Int) * Q.1 * P.2 * Q.2) * ((P.2 : Int) * Q.2 + P.1 * Q.1) * R.2 + (D - (P.1 : Int) * Q.1 * P.2 * Q.2) * ((P.1 : Int) * Q.2 + Q.1 * P.2) * R.1)
    ∧ ¬ (p : Int) ∣ (D + (P.1 : Int) * Q.1 * P.2 * Q.2) * (D - (P.1 : Int) * Q.1 * P.2 * Q.2) + D * ((P.1 : Int) * Q.2 + Q.1 * P.2) * ((P.2 : Int) * Q.2 + P.1 * Q.1) * R.1 * R.2
    ∧ ¬ (p : Int) ∣ (D + (P.1 : Int) * Q.1 * P.2 * Q.2) * (D - (P.1 : Int) * Q.1 * P.2 * Q.2) - D * ((P.1 : Int) * Q.2 + Q.1 * P.2) * ((P.2 : Int) * Q.2 + P.1 * Q.1) * R.1 * R.2 := by
  have oS := C.clo h1 h2 hS
  have a := smD hD hS.2.2.1
  have b := smD' hD hS.2.2.2
  have a' := smD hD hA.2.2.1
  have b' := smD' hD hA.2.2.2
  have nD := C.Dnz hD
  have n := C.mulnz (C.nu hD h1.2.2 h2.2.2) (C.nv hD h1.2.2 h2.2.2)
  have nu' := C.nu hD oS.2.2 h3.2.2
  have nv' := C.nv hD oS.2.2 h3.2.2
  refine ⟨C.pr.can nD (lc3 _ _ _ a' a b (as0 _ _ _ _ _ _ _ _ _ _)), C.pr.can nD (lc3 _ _ _ b' a b (as1 _ _ _ _ _ _ _ _ _ _)), fun h => ?_, fun h => ?_⟩
  · exact C.mulnz n nu' (lc3 _ _ _ h a b (as2 _ _ _ _ _ _ _ _ _))
  · exact C.mulnz n nv' (lc3 _ _ _ h a b (as3 _ _ _ _ _ _ _ _ _))
omit C in
theorem SmE.symm {P Q R : Nat × Nat} (h : SmE p d P Q R) : SmE p d Q P R :=
  ⟨h.1, h.2.1, lc1 1 h.2.2.1 (by grind), lc1 1 h.2.2.2 (by grind)⟩
theorem Ew.assoc {P Q R S T A B : Nat × Nat} (h1 : onE p d P) (h2 : onE p d Q) (h3 : onE p d R) (hS : SmE p d P Q S) (hT : SmE p d Q R T) (hA : SmE p d S R A) (hB : SmE p d P T B) : A = B := by
  obtain ⟨D, hD⟩ := C.dinv
  obtain ⟨a1, a2, a3, a4⟩ := C.three hD h1 h2 h3 hS hA
  obtain ⟨b1, b2, b3, b4⟩ := C.three hD h2 h3 h1 hT hB.symm
  have e1 := eqD hD h1.2.2
  have e2 := eqD hD h2.2.2
  have e3 := eqD hD h3.2.2
  have cx := lc3 _ _ _ e1 e2 e3 (assX (x1 := (P.1 : Int)) (y1 := (P.2 : Int)) (x2 := (Q.1 : Int)) (y2 := (Q.2 : Int)) (x3 := (R.1 : Int)) (y3 := (R.2 : Int)) (D := D))
  have cy := lc3 _ _ _ e1 e2 e3 (assY (x1 := (P.1 : Int)) (y1 := (P.2 : Int)) (x2 := (Q.1 : Int)) (y2 := (Q.2 : Int)) (x3 := (R.1 : Int)) (y3 := (R.2 : Int)) (D := D))
  have gx := C.pr.can (C.mulnz a3 b3) (lc3 _ _ _ a1 b1 (lc1 1 cx (by grind)) (as4 _ _ _ _ _ _))
  have gy := C.pr.can (C.mulnz a4 b4) (lc3 _ _ _ a2 b2 (lc1 1 cy (by grind)) (as4 _ _ _ _ _ _))
  exact Prod.ext (eq_of_dvd hA.1 hB.1 gx) (eq_of_dvd hA.2.1 hB.2.1 gy)
end
/-- The sum, as a function. -/
noncomputable def se (p d : Nat) (P Q : Nat × Nat) : Nat × Nat := open Classical in if h : ∃ R, SmE p d P Q R then Classical.choose h else (0, 1)
/-- The opposite. -/
def ne (p : Nat) (P : Nat × Nat) : Nat × Nat := ((p - P.1) % p, P.2)
theorem ne_dvd {p x : Nat} (hx : x < p) : (p : Int) ∣ ((p - x) % p : Nat) + (x : Int) := by
  by_cases h : x = 0
  · subst h
    rw [Nat.sub_zero, Nat.mod_self]
    exact ⟨0, by simp⟩
  · rw [Nat.mod_eq_of_lt (by omega)]
    exact ⟨1, by omega⟩
section
variable {p d : Nat} (C : Ew p d)
include C
theorem Ew.se_is {P Q R : Nat × Nat} (h1 : onE p d P) (h2 : onE p d Q) (h : SmE p d P Q R) : se p d P Q = R := by
  have hx : ∃ R, SmE p d P Q R := ⟨R, h⟩
  unfold se
  rw [dif_pos hx]
  exact C.one h1 h2 (Classical.choose_spec hx) h
theorem Ew.se_se {P Q : Nat × Nat} (h1 : onE p d P) (h2 : onE p d Q) : SmE p d P Q (se p d P Q) := by
  obtain ⟨R, h⟩ := C.ex h1 h2
  rw [C.se_is h1 h2 h]
  exact h
theorem Ew.son {P Q : Nat × Nat} (h1 : onE p d P) (h2 : onE p d Q) : onE p d (se p d P Q) := C.clo h1 h2 (C.se_se h1 h2)
theorem Ew.comm {P Q : Nat × Nat} (h1 : onE p d P) (h2 : onE p d Q) : se p d P Q = se p d Q P := C.se_is h1 h2 (C.se_se h2 h1).symm
theorem Ew.ass {P Q R : Nat × Nat} (h1 : onE p d P) (h2 : onE p d Q) (h3 : onE p d R) : se p d (se p d P Q) R = se p d P (se p d Q R) :=
  C.assoc h1 h2 h3 (C.se_se h1 h2) (C.se_se h2 h3) (C.se_se (C.son h1 h2) h3) (C.se_se h1 (C.son h2 h3))
theorem Ew.on0 : onE p d (0, 1) := ⟨C.pos, by have := C.big; show 1 < p; omega, ⟨0, by simp⟩⟩
theorem Ew.zr {P : Nat × Nat} (h : onE p d P) : se p d P (0, 1) = P := C.se_is h C.on0 ⟨h.1, h.2.1, ⟨0, by simp⟩, ⟨0, by simp⟩⟩
theorem Ew.zl {P : Nat × Nat} (h : onE p d P) : se p d (0, 1) P = P := by rw [C.comm C.on0 h, C.zr h]
theorem Ew.non {P : Nat × Nat} (h : onE p d P) : onE p d (ne p P) := by
  refine ⟨Nat.mod_lt _ C.pos, h.2.1, ?_⟩
  have h1 := ne_dvd h.1
  have h2 := h.2.2
  unfold eqE ne at *
  dsimp only
  generalize (((p - P.1) % p : Nat) : Int) = z at *
  exact lc2 1 (((P.1 : Int) - z) * (1 + d * (P.2 : Int) ^ 2)) h2 h1 (by grind)
theorem Ew.neg {P : Nat × Nat} (h : onE p d P) : se p d P (ne p P) = (0, 1) := by
  refine C.se_is h (C.non h) ⟨C.pos, by have := C.big; show 1 < p; omega, ?_, ?_⟩
  · have h1 := ne_dvd h.1
    unfold ne
    dsimp only
    generalize (((p - P.1) % p : Nat) : Int) = z at *
    exact lc1 (-(P.2 : Int)) h1 (by grind)
  · have h1 := ne_dvd h.1
    have h2 := h.2.2
    unfold ne eqE at *
    dsimp only
    generalize (((p - P.1) % p : Nat) : Int) = z at *
    exact lc2 (-1) (-((P.1 : Int) + d * (P.1 * P.2 ^ 2))) h2 h1 (by grind)
theorem Ew.left {P Q R : Nat × Nat} (h1 : onE p d P) (h2 : onE p d Q) (h3 : onE p d R) (h : se p d P Q = se p d P R) : Q = R := by
  have hn := C.non h1
  have e : ∀ S, onE p d S → se p d (ne p P) (se p d P S) = S := fun S hS => by
    rw [← C.ass hn h1 hS, C.comm hn h1, C.neg h1, C.zl hS]
  rw [← e Q h2, h, e R h3]
theorem Ew.four' {P Q R S : Nat × Nat} (h1 : onE p d P) (h2 : onE p d Q) (h3 : onE p d R) (h4 : onE p d S) : se p d (se p d P Q) (se p d R S) = se p d (se p d P R) (se p d Q S) := by
  rw [C.ass h1 h2 (C.son h3 h4), ← C.ass h2 h3 h4, C.comm h2 h3, C.ass h3 h2 h4, ← C.ass h1 h3 (C.son h2 h4)]
end
/-- A point k times. -/
noncomputable def me (p d : Nat) : Nat → Nat × Nat → Nat × Nat
  | 0, _ => (0, 1)
  | k + 1, P => se p d (me p d k P) P
section
variable {p d : Nat} (C : Ew p d)
include C
theorem Ew.mon {P : Nat × Nat} (h : onE p d P) (k : Nat) : onE p d (me p d k P) := by
  induction k with
  | zero => exact C.on0
  | succ k ih => exact C.son ih h
theorem Ew.madd {P : Nat × Nat} (h : onE p d P) (j k : Nat) : me p d (j + k) P = se p d (me p d j P) (me p d k P) := by
  induction k with
  | zero => exact (C.zr (C.mon h j)).symm
  | succ k ih =>
    have e : me p d (j + (k + 1)) P = se p d (me p d (j + k) P) P := rfl
    rw [e, ih, C.ass (C.mon h j) (C.mon h k) h]
    rfl
theorem Ew.mone {P : Nat × Nat} (h : onE p d P) : me p d 1 P = P := C.zl h
theorem Ew.m0 (k : Nat) : me p d k (0, 1) = (0, 1) := by
  induction k with
  | zero => rfl
  | succ k ih =>
    show se p d (me p d k (0, 1)) (0, 1) = (0, 1)
    rw [ih, C.zl C.on0]
theorem Ew.msm {P Q : Nat × Nat} (h1 : onE p d P) (h2 : onE p d Q) (k : Nat) : me p d k (se p d P Q) = se p d (me p d k P) (me p d k Q) := by
  induction k with
  | zero => exact (C.zl C.on0).symm
  | succ k ih =>
    show se p d (me p d k (se p d P Q)) (se p d P Q) = se p d (se p d (me p d k P) P) (se p d (me p d k Q) Q)
    rw [ih, C.four' (C.mon h1 k) (C.mon h2 k) h1 h2]
theorem Ew.mml {P : Nat × Nat} (h : onE p d P) (j k : Nat) : me p d (j * k) P = me p d j (me p d k P) := by
  induction j with
  | zero => rw [Nat.zero_mul]; rfl
  | succ j ih =>
    rw [Nat.succ_mul, C.madd h, ih]
    rfl
theorem Ew.mmod {P : Nat × Nat} {n : Nat} (h : onE p d P) (hn : me p d n P = (0, 1)) (k : Nat) : me p d (k % n) P = me p d k P := by
  have e : k = k / n * n + k % n := by rw [Nat.mul_comm]; exact (Nat.div_add_mod k n).symm
  have h2 := C.madd h (k / n * n) (k % n)
  rw [← e, C.mml h, hn, C.m0, C.zl (C.mon h _)] at h2
  exact h2.symm
theorem Ew.mcg {P : Nat × Nat} {n : Nat} (h : onE p d P) (hn : me p d n P = (0, 1)) {j k : Nat} (e : j % n = k % n) : me p d j P = me p d k P := by
  rw [← C.mmod h hn j, e, C.mmod h hn k]
theorem Ew.mord {G : Nat × Nat} {n : Nat} (hG : onE p d G) (hn : me p d n G = (0, 1)) (hp : Prim n) (h0 : G ≠ (0, 1)) {k : Nat} (hk : me p d k G = (0, 1)) : n ∣ k := by
  apply Classical.byContradiction
  intro hd
  have hd' : ¬ (n : Int) ∣ (k : Int) := fun h => hd (Int.natCast_dvd_natCast.1 h)
  obtain ⟨t, ht⟩ := hp.invI hd'
  have hn0 : 0 < n := by have := hp.1; omega
  have h1 : (n : Int) ∣ ((k * md n t : Nat) : Int) - (1 : Nat) := by
    have := md_dvd hn0 t
    rw [Int.natCast_mul]
    exact lc2 1 (k : Int) ht this (by grind)
  have h2 : (k * md n t) % n = 1 % n := by
    have h4 := Int.emod_eq_emod_iff_emod_sub_eq_zero.2 (Int.emod_eq_zero_of_dvd h1)
    exact_mod_cast h4
  have h3 := C.mcg hG hn h2
  rw [Nat.mul_comm, C.mml hG, hk, C.m0, C.mone hG] at h3
  exact h0 h3.symm
/-- Two multiples below the order that are one point are one number. -/
theorem Ew.minj {G : Nat × Nat} {n : Nat} (hG : onE p d G) (hn : me p d n G = (0, 1)) (hp : Prim n) (h0 : G ≠ (0, 1)) {j k : Nat} (hj : j < n) (hk : k < n) (h : me p d j G = me p d k G) : j = k := by
  have key : ∀ i j, i < j → j < n → me p d i G ≠ me p d j G := by
    intro i j hij hj e
    have e1 : me p d j G = se p d (me p d i G) (me p d (j - i) G) := by
      rw [← C.madd hG]
      congr 1
      omega
    rw [e1] at e
    have e2 := C.left (C.mon hG i) C.on0 (C.mon hG (j - i)) ((C.zr (C.mon hG i)).trans e)
    have h1 := C.mord hG hn hp h0 e2.symm
    have h2 := Nat.le_of_dvd (by omega) h1
    omega
  rcases Nat.lt_trichotomy j k with h1 | h1 | h1
  · exact absurd h (key _ _ h1 hk)
  · exact h1
  · exact absurd h.symm (key _ _ h1 hj)
theorem Ew.mng {P : Nat × Nat} (h : onE p d P) (k : Nat) : me p d k (ne p P) = ne p (me p d k P) := by
  have hn := C.non h
  have h1 := C.msm h hn k
  rw [C.neg h, C.m0] at h1
  exact C.left (C.mon h k) (C.mon hn k) (C.non (C.mon h k)) (h1.symm.trans (C.neg (C.mon h k)).symm)
end
end Go.Proofs.YtjpjepfmphlneaaGreatDoor

namespace Go.Proofs.YtjpjepfmphlneaaGreatDoor
/-- Sums, products and differences modulo p, as they are reckoned. -/
def sA (p a b : Nat) : Nat := (a + b) % p
def sM (p a b : Nat) : Nat := a * b % p
def sS (p a b : Nat) : Nat := (a % p + (p - b % p)) % p
theorem dvd_modE (p a : Nat) : (p : Int) ∣ ((a % p : Nat) : Int) - a := by
  have h : a = p * (a / p) + a % p := (Nat.div_add_mod a p).symm
  refine ⟨-((a / p : Nat) : Int), ?_⟩
  have h2 : (a : Int) = (p : Int) * ((a / p : Nat) : Int) + ((a % p : Nat) : Int) := by exact_mod_cast h
  rw [h2]
  generalize ((a / p : Nat) : Int) = q
  grind
theorem cg_sA {p a b : Nat} {x y : Int} (h1 : (p : Int) ∣ (a : Int) - x) (h2 : (p : Int) ∣ (b : Int) - y) : (p : Int) ∣ (sA p a b : Int) - (x + y) := by
  have h := dvd_modE p (a + b)
  rw [Int.natCast_add] at h
  exact cg_tr h (cg_add h1 h2)
theorem cg_sM {p a b : Nat} {x y : Int} (h1 : (p : Int) ∣ (a : Int) - x) (h2 : (p : Int) ∣ (b : Int) - y) : (p : Int) ∣ (sM p a b : Int) - x * y := by
  have h := dvd_modE p (a * b)
  rw [Int.natCast_mul] at h
  exact cg_tr h (cg_mul h1 h2)
theorem cg_sS {p a b : Nat} {x y : Int} (hp : 0 < p) (h1 : (p : Int) ∣ (a : Int) - x) (h2 : (p : Int) ∣ (b : Int) - y) : (p : Int) ∣ (sS p a b : Int) - (x - y) := by
  have h := dvd_modE p (a % p + (p - b % p))
  have ha := dvd_modE p a
  have hb := dvd_modE p b
  have h3 := Nat.mod_lt b hp
  have e : ((a % p + (p - b % p) : Nat) : Int) = ((a % p : Nat) : Int) + p - ((b % p : Nat) : Int) := by omega
  rw [e] at h
  have h5 : (p : Int) ∣ ((a % p : Nat) : Int) + p - ((b % p : Nat) : Int) - (x - y) := by
    have h6 := lc4 1 (-1) 1 (-1) ha hb h1 h2 rfl
    obtain ⟨c, hc⟩ := h6
    exact ⟨c + 1, by grind⟩
  exact cg_tr h h5
theorem cg_nm {p : Int} {a : Nat} : p ∣ (a : Int) - (a : Int) := ⟨0, by omega⟩
theorem cg_nmul {p x y : Int} {a b : Nat} (h1 : p ∣ (a : Int) - x) (h2 : p ∣ (b : Int) - y) : p ∣ ((a * b : Nat) : Int) - x * y := by rw [Int.natCast_mul]; exact cg_mul h1 h2
theorem sM_lt {p : Nat} (h : 0 < p) (a b : Nat) : sM p a b < p := Nat.mod_lt _ h
/-- A ratio's four numbers. -/
structure R4 where
  x : Nat
  y : Nat
  z : Nat
  t : Nat
deriving DecidableEq
/-- The sum of two ratios, as the program reckons it. -/
def pq (p d : Nat) (a b : R4) : R4 :=
  ⟨sM p (sA p (a.x * b.y) (b.x * a.y)) (sS p (sM p a.z b.z) (sM p d (sM p a.t b.t))), sM p (sA p (a.y * b.y) (a.x * b.x)) (sA p (sM p a.z b.z) (sM p d (sM p a.t b.t))), sM p (sA p (sM p a.z b.z) (sM p d (sM p a.t b.t))) (sS p (sM p a.z b.z) (sM p d (sM p a.t b.t))), sM p (sA p (a.x * b.y) (b.x * a.y)) (sA p (a.y * b.y) (a.x * b.x))⟩
/-- A ratio stands for a point. -/
structure Rq (p : Nat) (r : R4) (P : Nat × Nat) : Prop where
  x : r.x < p
  y : r.y < p
  z : r.z < p
  t : r.t < p
  n : 0 < r.z
  ex : (p : Int) ∣ (r.x : Int) - r.z * P.1
  ey : (p : Int) ∣ (r.y : Int) - r.z * P.2
  et : (p : Int) ∣ (r.t : Int) - r.z * (P.1 * P.2)
section
variable {p d : Nat} (C : Ew p d)
include C
theorem Ew.plus {a b : R4} {P Q : Nat × Nat} (hP : Rq p a P) (hQ : Rq p b Q) (oP : onE p d P) (oQ : onE p d Q) : Rq p (pq p d a b) (se p d P Q) := by
  have hp := C.pos
  obtain ⟨g1, g2, ra, rb⟩ := C.se_se oP oQ
  have np := C.nzp oP.2.2 oQ.2.2
  have nm := C.nzm oP.2.2 oQ.2.2
  generalize se p d P Q = S at *
  have n1 := nz_lt hP.n hP.z
  have n2 := nz_lt hQ.n hQ.z
  have x1 := hP.ex
  have y1 := hP.ey
  have t1 := hP.et
  have x2 := hQ.ex
  have y2 := hQ.ey
  have t2 := hQ.et
  have cz : (p : Int) ∣ (sM p a.z b.z : Int) - (a.z : Int) * b.z := cg_sM cg_nm cg_nm
  have ct : (p : Int) ∣ (sM p d (sM p a.t b.t) : Int) - d * ((a.z * (P.1 * P.2)) * (b.z * (Q.1 * Q.2))) := cg_sM cg_nm (cg_sM t1 t2)
  have cm := cg_sA cz ct
  have cl := cg_sS hp cz ct
  have cx := cg_sA (cg_nmul x1 y2) (cg_nmul x2 y1)
  have cy := cg_sA (cg_nmul y1 y2) (cg_nmul x1 x2)
  have eX := cg_sM cx cl
  have eY := cg_sM cy cm
  have eZ := cg_sM cm cl
  have eT := cg_sM cx cy
  refine ⟨sM_lt hp _ _, sM_lt hp _ _, sM_lt hp _ _, sM_lt hp _ _, lt_nz (p := p) fun h => ?_, ?_, ?_, ?_⟩
  · have n := C.mulnz n1 n2
    exact C.mulnz (C.mulnz n n) (C.mulnz np nm) (lc2 1 (-1) h eZ (by unfold pq; grind))
  · show (p : Int) ∣ (sM p _ _ : Int) - (sM p _ _ : Int) * _
    exact lc3 1 (-(S.1 : Int)) (-(((a.z : Int) * b.z) ^ 2 * (1 - d * ((P.1 : Int) * Q.1 * P.2 * Q.2)))) eX eZ ra (by grind)
  · show (p : Int) ∣ (sM p _ _ : Int) - (sM p _ _ : Int) * _
    exact lc3 1 (-(S.2 : Int)) (-(((a.z : Int) * b.z) ^ 2 * (1 + d * ((P.1 : Int) * Q.1 * P.2 * Q.2)))) eY eZ rb (by grind)
  · show (p : Int) ∣ (sM p _ _ : Int) - (sM p _ _ : Int) * _
    exact lc4 1 (-((S.1 : Int) * S.2)) (-(((a.z : Int) * b.z) ^ 2 * ((1 - d * ((P.1 : Int) * Q.1 * P.2 * Q.2)) * S.2))) (-(((a.z : Int) * b.z) ^ 2 * ((P.1 : Int) * Q.2 + Q.1 * P.2))) eT eZ ra rb (by grind)
omit C in
theorem Rq.of {P : Nat × Nat} (hp : 1 < p) (h : onE p d P) : Rq p ⟨P.1, P.2, 1, P.1 * P.2 % p⟩ P :=
  ⟨h.1, h.2.1, hp, Nat.mod_lt _ (by omega), Nat.one_pos, ⟨0, by simp⟩, ⟨0, by simp⟩, by
    have := dvd_modE p (P.1 * P.2)
    rw [Int.natCast_mul] at this
    exact lc1 1 this (by grind)⟩
omit C in
theorem Rq.zero (hp : 1 < p) : Rq p ⟨0, 1, 1, 0⟩ (0, 1) :=
  ⟨by show 0 < p; omega, hp, hp, by show 0 < p; omega, Nat.one_pos, ⟨0, by simp⟩, ⟨0, by simp⟩, ⟨0, by simp⟩⟩
/-- What point a ratio stands for. -/
theorem Ew.Rq_is {r : R4} {P : Nat × Nat} {a c : Nat} (h : Rq p r P) (oP : onE p d P) (ha : a < p) (hc : c < p) (h1 : r.x = r.z * a % p) (h2 : r.y = r.z * c % p) : P = (a, c) := by
  have hz := nz_lt h.n h.z
  have d1 := dvd_modE p (r.z * a)
  have d2 := dvd_modE p (r.z * c)
  rw [← h1, Int.natCast_mul] at d1
  rw [← h2, Int.natCast_mul] at d2
  have e1 := C.pr.can hz (c := (P.1 : Int) - a) (lc2 (-1) 1 h.ex d1 (by grind))
  have e2 := C.pr.can hz (c := (P.2 : Int) - c) (lc2 (-1) 1 h.ey d2 (by grind))
  exact Prod.ext (eq_of_dvd oP.1 ha e1) (eq_of_dvd oP.2.1 hc e2)
end
/-- One step of the ladder: the sum doubled, and what the two digits name added. -/
def stq (p d : Nat) (P Q S s : R4) (k : Nat) : R4 := if k = 0 then s else if k = 1 then pq p d s P else if k = 2 then pq p d s Q else pq p d s S
/-- The ladder, for numbers of n digits. -/
def ldq (p d : Nat) (P Q S : R4) : Nat → Nat → Nat → R4
  | 0, _, _ => ⟨0, 1, 1, 0⟩
  | n + 1, a, b => stq p d P Q S (pq p d (ldq p d P Q S n (a / 2) (b / 2)) (ldq p d P Q S n (a / 2) (b / 2))) (a % 2 + 2 * (b % 2))
section
variable {p d : Nat} (C : Ew p d)
include C
theorem Ew.stq_is {A B S s : R4} {P Q X : Nat × Nat} (hA : Rq p A P) (hB : Rq p B Q) (hS : Rq p S (se p d P Q)) (hs : Rq p s X) (oP : onE p d P) (oQ : onE p d Q) (oX : onE p d X) (i j : Nat) (hi : i < 2) (hj : j < 2) :
    Rq p (stq p d A B S s (i + 2 * j)) (se p d X (se p d (me p d i P) (me p d j Q))) := by
  have h0 := C.on0
  unfold stq
  have hi' : i = 0 ∨ i = 1 := by omega
  have hj' : j = 0 ∨ j = 1 := by omega
  rcases hi' with rfl | rfl <;> rcases hj' with rfl | rfl
  · rw [if_pos rfl]
    show Rq p s (se p d X (se p d (0, 1) (0, 1)))
    rw [C.zr h0, C.zr oX]
    exact hs
  · rw [if_neg (by decide), if_neg (by decide), if_pos rfl, C.mone oQ]
    show Rq p _ (se p d X (se p d (0, 1) Q))
    rw [C.zl oQ]
    exact C.plus hs hB oX oQ
  · rw [if_neg (by decide), if_pos rfl, C.mone oP]
    show Rq p _ (se p d X (se p d P (0, 1)))
    rw [C.zr oP]
    exact C.plus hs hA oX oP
  · rw [if_neg (by decide), if_neg (by decide), if_neg (by decide), C.mone oP, C.mone oQ]
    exact C.plus hs hS oX (C.son oP oQ)
theorem Ew.ldq_is {A B S : R4} {P Q : Nat × Nat} (hA : Rq p A P) (hB : Rq p B Q) (hS : Rq p S (se p d P Q)) (oP : onE p d P) (oQ : onE p d Q) (n : Nat) : ∀ a b, a < 2 ^ n → b < 2 ^ n → Rq p (ldq p d A B S n a b) (se p d (me p d a P) (me p d b Q)) := by
  induction n with
  | zero =>
    intro a b ha hb
    obtain rfl : a = 0 := by simpa using ha
    obtain rfl : b = 0 := by simpa using hb
    show Rq p ⟨0, 1, 1, 0⟩ (se p d (0, 1) (0, 1))
    rw [C.zr C.on0]
    exact Rq.zero (by have := C.big; omega)
  | succ n ih =>
    intro a b ha hb
    have h1 := ih (a / 2) (b / 2) (by rw [Nat.pow_succ] at ha; omega) (by rw [Nat.pow_succ] at hb; omega)
    have o1 := C.son (C.mon oP (a / 2)) (C.mon oQ (b / 2))
    have h2 := C.plus h1 h1 o1 o1
    have h3 := C.stq_is hA hB hS h2 oP oQ (C.son o1 o1) (a % 2) (b % 2) (Nat.mod_lt _ (by decide)) (Nat.mod_lt _ (by decide))
    rw [C.four' (C.mon oP _) (C.mon oQ _) (C.mon oP _) (C.mon oQ _), ← C.madd oP, ← C.madd oQ, C.four' (C.mon oP _) (C.mon oQ _) (C.mon oP _) (C.mon oQ _), ← C.madd oP, ← C.madd oQ] at h3
    rw [show a / 2 + a / 2 + a % 2 = a by omega, show b / 2 + b / 2 + b % 2 = b by omega] at h3
    exact h3
end
end Go.Proofs.YtjpjepfmphlneaaGreatDoor

namespace Go.Proofs.YtjpjepfmphlneaaGreatDoor
set_option maxRecDepth 20000
theorem pe_0 : Prim 991 := prim_small 991 32 (by decide +kernel) (by decide) (by decide)
theorem pe_1 : Prim 103 := prim_small 103 11 (by decide +kernel) (by decide) (by decide)
theorem pe_2 : Prim 8574133 := prim2 (k := 24) (a := 2) (c := 2) pe_0 (by decide +kernel) pe_1 (by decide +kernel) (by decide +kernel) (by decide +kernel) (by decide +kernel)
theorem pe_3 : Prim 127 := prim_small 127 12 (by decide +kernel) (by decide) (by decide)
theorem pe_4 : Prim 1919519569386763 := prim2 (k := 51) (a := 2) (c := 2) pe_2 (by decide +kernel) pe_3 (by decide +kernel) (by decide +kernel) (by decide +kernel) (by decide +kernel)
theorem pe_5 : Prim 569003 := prim_small 569003 755 (by decide +kernel) (by decide) (by decide)
theorem pe_6 : Prim 2773320623 := prim1 (k := 32) (a := 2) pe_5 (by decide +kernel) (by decide +kernel) (by decide +kernel)
theorem pe_7 : Prim 72106336199 := prim1 (k := 37) (a := 2) pe_6 (by decide +kernel) (by decide +kernel) (by decide +kernel)
theorem pe_8 : Prim 75445702479781427272750846543864801 := prim2 (k := 116) (a := 2) (c := 2) pe_4 (by decide +kernel) pe_7 (by decide +kernel) (by decide +kernel) (by decide +kernel) (by decide +kernel)
theorem pe_9 : Prim 430751 := prim_small 430751 657 (by decide +kernel) (by decide) (by decide)
theorem pe_10 : Prim 4153 := prim_small 4153 65 (by decide +kernel) (by decide) (by decide)
theorem pe_11 : Prim 31757755568855353 := prim2 (k := 55) (a := 2) (c := 2) pe_9 (by decide +kernel) pe_10 (by decide +kernel) (by decide +kernel) (by decide +kernel) (by decide +kernel)
theorem pe_12 : Prim 74058212732561358302231226437062788676166966415465897661863160754340907 := prim2 (k := 236) (a := 2) (c := 2) pe_8 (by decide +kernel) pe_11 (by decide +kernel) (by decide +kernel) (by decide +kernel) (by decide +kernel)
theorem prim_p : Prim 57896044618658097711785492504343953926634992332820282019728792003956564819949 := prim1 (k := 255) (a := 2) pe_12 (by decide +kernel) (by decide +kernel) (by decide +kernel)
theorem pe_14 : Prim 2551 := prim_small 2551 51 (by decide +kernel) (by decide) (by decide)
theorem pe_15 : Prim 1224481 := prim1 (k := 21) (a := 2) pe_14 (by decide +kernel) (by decide +kernel) (by decide +kernel)
theorem pe_16 : Prim 531581 := prim_small 531581 730 (by decide +kernel) (by decide) (by decide)
theorem pe_17 : Prim 1257559732178653 := prim2 (k := 51) (a := 2) (c := 2) pe_15 (by decide +kernel) pe_16 (by decide +kernel) (by decide +kernel) (by decide +kernel) (by decide +kernel)
theorem pe_18 : Prim 4434155615661930479 := prim1 (k := 62) (a := 2) pe_17 (by decide +kernel) (by decide +kernel) (by decide +kernel)
theorem pe_19 : Prim 172054593956031949258510691 := prim1 (k := 88) (a := 2) pe_18 (by decide +kernel) (by decide +kernel) (by decide +kernel)
theorem pe_20 : Prim 19757330305831588566944191468367130476339 := prim1 (k := 134) (a := 2) pe_19 (by decide +kernel) (by decide +kernel) (by decide +kernel)
theorem pe_21 : Prim 276602624281642239937218680557139826668747 := prim1 (k := 138) (a := 2) pe_20 (by decide +kernel) (by decide +kernel) (by decide +kernel)
theorem prim_L : Prim 7237005577332262213973186563042994240857116359379907606001950938285454250989 := prim1 (k := 253) (a := 2) pe_21 (by decide +kernel) (by decide +kernel) (by decide +kernel)
/-- The prime, d, the order, a root of - 1, the base point. -/
def eP : Nat := 57896044618658097711785492504343953926634992332820282019728792003956564819949
def eD : Nat := 37095705934669439343138083508754565189542113879843219016388785533085940283555
def eL : Nat := 7237005577332262213973186563042994240857116359379907606001950938285454250989
def eI : Nat := 19681161376707505956807079304988542015446066515923890162744021073123829784752
def eX : Nat := 15112221349535400772501151409588531511454012693041857206046113283949847762202
def eY : Nat := 46316835694926478169428394003475163141307993866256225615783033603165251855960
theorem prP : Prim eP := prim_p
theorem prL : Prim eL := prim_L
theorem eI_sq : (eP : Int) ∣ (eI : Int) * eI + 1 := Int.dvd_of_emod_eq_zero (by decide +kernel)
theorem eD_pow : eD ^ ((eP - 1) / 2) % eP = eP - 1 := by
  rw [← pwm_eq eP 255 eD ((eP - 1) / 2) (by decide +kernel)]
  decide +kernel
theorem eD_ns (s t : Int) (h : (eP : Int) ∣ s * s - eD * (t * t)) : (eP : Int) ∣ t := by
  apply Classical.byContradiction
  intro ht
  have hp : 0 < eP := by decide
  obtain ⟨u, hu⟩ := prP.invI ht
  have h1 := md_dvd hp (s * u)
  have h2 : (eP : Int) ∣ ((md eP (s * u) * md eP (s * u) : Nat) : Int) - (eD : Nat) := by
    rw [Int.natCast_mul]
    generalize ((md eP (s * u) : Nat) : Int) = r at *
    generalize ((eD : Nat) : Int) = d at *
    generalize ((eP : Nat) : Int) = p at *
    exact lc3 (u * u) (d * (t * u + 1)) (r + s * u) h hu h1 (by grind)
  have h3 : (md eP (s * u) * md eP (s * u)) % eP = eD % eP := by
    have h4 := Int.emod_eq_emod_iff_emod_sub_eq_zero.2 (Int.emod_eq_zero_of_dvd h2)
    exact_mod_cast h4
  generalize md eP (s * u) = r at *
  have hr : ¬ eP ∣ r := fun h5 => by
    rw [Nat.mod_eq_zero_of_dvd (Nat.dvd_trans h5 (Nat.dvd_mul_right _ _))] at h3
    revert h3
    decide +kernel
  have h4 := fermat1 prP r hr
  have h5 : (r * r) ^ ((eP - 1) / 2) % eP = 1 := by
    rw [← Nat.pow_two, ← Nat.pow_mul, show 2 * ((eP - 1) / 2) = eP - 1 by decide +kernel]
    exact h4
  rw [Nat.pow_mod, h3, ← Nat.pow_mod, eD_pow] at h5
  revert h5
  decide +kernel
theorem ew : Ew eP eD := ⟨prP, by decide +kernel, ⟨eI, eI_sq⟩, eD_ns⟩
def eB : Nat × Nat := (eX, eY)
theorem onB : onE eP eD eB := ⟨by decide +kernel, by decide +kernel, Int.dvd_of_emod_eq_zero (by decide +kernel)⟩
def qB : R4 := ⟨eX, eY, 1, eX * eY % eP⟩
def q0 : R4 := ⟨0, 1, 1, 0⟩
theorem qB_is : Rq eP qB eB := Rq.of (by decide +kernel) onB
theorem q0_is : Rq eP q0 (0, 1) := Rq.zero (by decide +kernel)
theorem mul_is {A : R4} {P : Nat × Nat} (hA : Rq eP A P) (oP : onE eP eD P) (n k : Nat) (hk : k < 2 ^ n) : Rq eP (ldq eP eD A q0 A n k 0) (me eP eD k P) := by
  have h := ew.ldq_is (S := A) hA q0_is (by rw [ew.zr oP]; exact hA) oP ew.on0 n k 0 hk (Nat.pow_pos (by decide))
  rw [ew.m0, ew.zr (ew.mon oP _)] at h
  exact h
theorem ladL : (ldq eP eD qB q0 qB 253 eL 0).x = 0 ∧ (ldq eP eD qB q0 qB 253 eL 0).y = (ldq eP eD qB q0 qB 253 eL 0).z := by decide +kernel
theorem ordB : me eP eD eL eB = (0, 1) := by
  have h := mul_is qB_is onB 253 eL (by decide +kernel)
  have h2 := ladL
  generalize ldq eP eD qB q0 qB 253 eL 0 = r at *
  refine ew.Rq_is h (ew.mon onB _) (by decide +kernel) (by decide +kernel) ?_ ?_
  · rw [h2.1, Nat.mul_zero, Nat.zero_mod]
  · rw [Nat.mul_one, Nat.mod_eq_of_lt h.z, h2.2]
theorem eB_ne : eB ≠ (0, 1) := by decide +kernel
theorem mm (k : Nat) : me eP eD (k % eL) eB = me eP eD k eB := ew.mmod onB ordB k
theorem minj {j k : Nat} (hj : j < eL) (hk : k < eL) (h : me eP eD j eB = me eP eD k eB) : j = k := ew.minj onB ordB prL eB_ne hj hk h
end Go.Proofs.YtjpjepfmphlneaaGreatDoor

namespace Go.Proofs.YtjpjepfmphlneaaGreatDoor
/-- The root that the program seeks of u. -/
def rtn (u : Nat) : Nat := u ^ ((eP + 3) / 8) % eP
def rtV (u : Nat) : Nat := if sM eP (rtn u) (rtn u) = u then rtn u else sM eP (rtn u) eI
theorem rtn_lt (u : Nat) : rtn u < eP := Nat.mod_lt _ (by decide +kernel)
theorem rtV_lt (u : Nat) : rtV u < eP := by
  unfold rtV
  split
  · exact rtn_lt u
  · exact sM_lt (by decide +kernel) _ _
/-- Of a square it is a root. -/
theorem rtV_sq {u : Nat} {s : Nat} (hu : u < eP) (hs : (eP : Int) ∣ (s : Int) * s - u) : (eP : Int) ∣ (rtV u : Int) * rtV u - u := by
  have hp : 0 < eP := by decide +kernel
  have hsu : (s * s) % eP = u := by
    have h4 := Int.emod_eq_emod_iff_emod_sub_eq_zero.2 (Int.emod_eq_zero_of_dvd hs)
    rw [← Nat.mod_eq_of_lt hu]
    exact_mod_cast h4
  have hn : (eP : Int) ∣ (rtn u : Int) * rtn u - sM eP (rtn u) (rtn u) := by
    have := cg_sM (p := eP) (cg_nm (a := rtn u)) (cg_nm (a := rtn u))
    exact lc1 (-1) this (by grind)
  unfold rtV
  by_cases h1 : sM eP (rtn u) (rtn u) = u
  · rw [if_pos h1]
    rw [h1] at hn
    exact hn
  · rw [if_neg h1]
    by_cases h0 : eP ∣ s
    · exfalso
      have hu0 : u = 0 := by rw [← hsu]; exact Nat.mod_eq_zero_of_dvd (Nat.dvd_trans h0 (Nat.dvd_mul_right _ _))
      refine h1 ?_
      have : rtn u = 0 := by
        unfold rtn
        rw [hu0, Nat.zero_pow (by decide +kernel), Nat.zero_mod]
      rw [this, hu0]
      decide +kernel
    · have hf := fermat1 prP s h0
      have h4 : (rtn u * rtn u * (rtn u * rtn u)) % eP = (u * u) % eP := by
        have e1 : (rtn u * rtn u * (rtn u * rtn u)) % eP = (s * s) ^ ((eP + 3) / 8 * 4) % eP := by
          have e2 : rtn u = (s * s) ^ ((eP + 3) / 8) % eP := by
            unfold rtn
            rw [← hsu, ← Nat.pow_mod]
          rw [e2, ← Nat.pow_two (_ % _), ← Nat.pow_two, ← Nat.pow_mul, ← Nat.pow_mod, ← Nat.pow_mul]
        rw [e1, ← Nat.pow_two, ← Nat.pow_mul, show 2 * ((eP + 3) / 8 * 4) = (eP - 1) + 4 by decide +kernel, Nat.pow_add, Nat.mul_mod, hf, Nat.one_mul, Nat.mod_mod, ← hsu, ← Nat.mul_mod]
        congr 1
        grind
      have h5 : (eP : Int) ∣ ((rtn u : Int) * rtn u - u) * ((rtn u : Int) * rtn u + u) := by
        have h6 := Int.emod_eq_emod_iff_emod_sub_eq_zero.1 (show (((rtn u * rtn u * (rtn u * rtn u) : Nat) : Int) % eP = ((u * u : Nat) : Int) % eP) by exact_mod_cast h4)
        have h7 := Int.dvd_of_emod_eq_zero h6
        rw [Int.natCast_mul, Int.natCast_mul, Int.natCast_mul] at h7
        exact lc1 1 h7 (by grind)
      rcases prP.mulI h5 with h6 | h6
      · exfalso
        refine h1 (eq_of_dvd (sM_lt hp _ _) hu ?_)
        exact lc2 (-1) 1 hn h6 (by grind)
      · have h7 := cg_sM (p := eP) (cg_nm (a := rtn u)) (cg_nm (a := eI))
        have h8 := eI_sq
        generalize ((sM eP (rtn u) eI : Nat) : Int) = z at *
        generalize ((rtn u : Nat) : Int) = n at *
        generalize ((eI : Nat) : Int) = i at *
        generalize ((eP : Nat) : Int) = q at *
        exact lc3 (z + n * i) (n * n) (-1) h7 h8 h6 (by grind)
/-- The number of a point's bytes. -/
def h255 : Nat := 57896044618658097711785492504343953926634992332820282019728792003956564819968
def enN (P : Nat × Nat) : Nat := P.2 + h255 * (P.1 % 2)
theorem eP_lt : eP < h255 := by decide +kernel
theorem enN_lt {P : Nat × Nat} (h : onE eP eD P) : enN P < 2 * h255 := by
  have h1 := h.2.1
  have h2 := eP_lt
  have h3 := Nat.mod_lt P.1 (show 0 < 2 by decide)
  unfold enN
  have : P.1 % 2 = 0 ∨ P.1 % 2 = 1 := by omega
  generalize h255 = H at *
  generalize eP = q at *
  rcases this with h4 | h4 <;> rw [h4] <;> omega
theorem enN_y {P : Nat × Nat} (h : onE eP eD P) : enN P % h255 = P.2 := by
  unfold enN
  rw [Nat.add_mul_mod_self_left, Nat.mod_eq_of_lt (Nat.lt_trans h.2.1 eP_lt)]
theorem enN_x {P : Nat × Nat} (h : onE eP eD P) : enN P / h255 = P.1 % 2 := by
  unfold enN
  rw [Nat.add_mul_div_left _ _ (by decide +kernel), Nat.div_eq_of_lt (Nat.lt_trans h.2.1 eP_lt), Nat.zero_add]
/-- Two numbers with one square. -/
theorem two_roots {x y : Nat} (hx : x < eP) (hy : y < eP) (h : (eP : Int) ∣ (x : Int) * x - (y : Int) * y) : x = y ∨ x = (eP - y) % eP := by
  have h1 : (eP : Int) ∣ ((x : Int) - y) * ((x : Int) + y) := lc1 1 h (by grind)
  rcases prP.mulI h1 with h2 | h2
  · exact Or.inl (eq_of_dvd hx hy h2)
  · refine Or.inr (eq_of_dvd hx (Nat.mod_lt _ (by decide +kernel)) ?_)
    have h3 := ne_dvd hy
    generalize (((eP - y) % eP : Nat) : Int) = z at *
    exact lc2 1 (-1) h2 h3 (by grind)
theorem par_ne {x : Nat} (hx : x < eP) (h0 : x ≠ 0) : ((eP - x) % eP) % 2 ≠ x % 2 := by
  have h1 : eP % 2 = 1 := by decide +kernel
  have h2 : (eP - x) % eP = eP - x := Nat.mod_eq_of_lt (by omega)
  rw [h2]
  generalize eP = q at *
  omega
theorem nene {x : Nat} (hx : x < eP) : (eP - (eP - x) % eP) % eP = x := by
  by_cases h0 : x = 0
  · subst h0
    rw [Nat.sub_zero, Nat.mod_self, Nat.sub_zero, Nat.mod_self]
  · rw [Nat.mod_eq_of_lt (show eP - x < eP by omega), Nat.sub_sub_self (Nat.le_of_lt hx), Nat.mod_eq_of_lt hx]
theorem enN_inj {P Q : Nat × Nat} (h1 : onE eP eD P) (h2 : onE eP eD Q) (h : enN P = enN Q) : P = Q := by
  have hy : P.2 = Q.2 := by rw [← enN_y h1, h, enN_y h2]
  have hx : P.1 % 2 = Q.1 % 2 := by rw [← enN_x h1, h, enN_x h2]
  have e1 := h1.2.2
  have e2 := h2.2.2
  unfold eqE at e1 e2
  rw [hy] at e1
  have nd : ¬ (eP : Int) ∣ 1 + eD * ((Q.2 : Int) * Q.2) := fun h3 => by
    have h4 := ew.ns eI Q.2 (lc2 1 (-1) eI_sq h3 (by grind))
    exact ew.n1 (lc2 1 (-(eD * (Q.2 : Int))) h3 h4 (by grind))
  have h5 : (eP : Int) ∣ (P.1 : Int) * P.1 - (Q.1 : Int) * Q.1 := prP.can nd (lc2 (-1) 1 e1 e2 (by grind))
  rcases two_roots h1.1 h2.1 h5 with h6 | h6
  · exact Prod.ext h6 hy
  · by_cases h0 : Q.1 = 0
    · rw [h0, Nat.sub_zero, Nat.mod_self] at h6
      exact Prod.ext (h6.trans h0.symm) hy
    · exact absurd (by rw [← h6]; exact hx) (par_ne h2.1 h0)
/-- The divisor is never nought. -/
theorem divnz (y : Int) : ¬ (eP : Int) ∣ 1 + eD * (y * y) := fun h3 => by
  have h4 := ew.ns eI y (lc2 1 (-1) eI_sq h3 (by grind))
  exact ew.n1 (lc2 1 (-(eD * y)) h3 h4 (by grind))
/-- What Decode makes of y and the bit: the x. -/
def dcX (u o : Nat) : Nat := if rtV u % 2 = o then rtV u else (eP - rtV u) % eP
/-- If a point has the bytes, Decode finds it. -/
theorem dec_some {P : Nat × Nat} {u : Nat} (h : onE eP eD P) (hu : u < eP) (hq : (eP : Int) ∣ (1 + eD * ((P.2 : Int) * P.2)) * u - ((P.2 : Int) * P.2 - 1)) : dcX u (P.1 % 2) = P.1 := by
  have e1 := h.2.2
  unfold eqE at e1
  have hs : (eP : Int) ∣ (P.1 : Int) * P.1 - u := prP.can (divnz P.2) (lc2 (-1) (-1) e1 hq (by grind))
  have hr := rtV_sq hu hs
  have h5 : (eP : Int) ∣ (rtV u : Int) * rtV u - (P.1 : Int) * P.1 := lc2 1 (-1) hr hs (by grind)
  unfold dcX
  rcases two_roots (rtV_lt u) h.1 h5 with h6 | h6
  · rw [h6, if_pos rfl]
  · by_cases h0 : P.1 = 0
    · rw [h0, Nat.sub_zero, Nat.mod_self] at h6
      rw [h6, h0, if_pos rfl]
    · rw [h6, if_neg (par_ne h.1 h0), nene h.1]
end Go.Proofs.YtjpjepfmphlneaaGreatDoor
