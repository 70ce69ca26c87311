import Derived.Test.YtmngdaolgdhgmaaGreatDoorCR
namespace Go.Proofs.YtmngdaolgdhgmaaGreatDoor
theorem lc1 {p e F : Int} (a : Int) (h : p ∣ e) (hF : F = a * e) : p ∣ F := hF ▸ Int.dvd_mul_of_dvd_right h
theorem lc2 {p e1 e2 F : Int} (a1 a2 : Int) (h1 : p ∣ e1) (h2 : p ∣ e2) (hF : F = a1 * e1 + a2 * e2) : p ∣ F := hF ▸ Int.dvd_add (Int.dvd_mul_of_dvd_right h1) (Int.dvd_mul_of_dvd_right h2)
theorem lc3 {p e1 e2 e3 F : Int} (a1 a2 a3 : Int) (h1 : p ∣ e1) (h2 : p ∣ e2) (h3 : p ∣ e3) (hF : F = a1 * e1 + a2 * e2 + a3 * e3) : p ∣ F := hF ▸ Int.dvd_add (Int.dvd_add (Int.dvd_mul_of_dvd_right h1) (Int.dvd_mul_of_dvd_right h2)) (Int.dvd_mul_of_dvd_right h3)
theorem lc4 {p e1 e2 e3 e4 F : Int} (a1 a2 a3 a4 : Int) (h1 : p ∣ e1) (h2 : p ∣ e2) (h3 : p ∣ e3) (h4 : p ∣ e4) (hF : F = a1 * e1 + a2 * e2 + a3 * e3 + a4 * e4) : p ∣ F := hF ▸ Int.dvd_add (Int.dvd_add (Int.dvd_add (Int.dvd_mul_of_dvd_right h1) (Int.dvd_mul_of_dvd_right h2)) (Int.dvd_mul_of_dvd_right h3)) (Int.dvd_mul_of_dvd_right h4)
theorem Prim.mulI {p : Nat} (hp : Prim p) {a c : Int} (h : (p : Int) ∣ a * c) : (p : Int) ∣ a ∨ (p : Int) ∣ c := by
  have h1 : p ∣ a.natAbs * c.natAbs := by rw [← Int.natAbs_mul]; exact Int.ofNat_dvd_left.1 h
  rcases hp.mul h1 with h2 | h2
  · exact Or.inl (Int.ofNat_dvd_left.2 h2)
  · exact Or.inr (Int.ofNat_dvd_left.2 h2)
theorem Prim.can {p : Nat} (hp : Prim p) {a c : Int} (ha : ¬ (p : Int) ∣ a) (h : (p : Int) ∣ a * c) : (p : Int) ∣ c := (hp.mulI h).resolve_left ha
theorem Prim.invI {p : Nat} (hp : Prim p) {a : Int} (ha : ¬ (p : Int) ∣ a) : ∃ t : Int, (p : Int) ∣ a * t - 1 := by
  have h1 : ¬ p ∣ a.natAbs := fun h => ha (Int.ofNat_dvd_left.2 h)
  have h2 := hp.cop h1
  obtain ⟨x, y, h3⟩ := bezI p a.natAbs
  rw [show Nat.gcd p a.natAbs = 1 from h2] at h3
  rcases Int.natAbs_eq a with h4 | h4
  · exact ⟨y, ⟨-x, by rw [h4]; grind⟩⟩
  · exact ⟨-y, ⟨-x, by rw [h4]; grind⟩⟩
theorem eq_of_dvd {p x y : Nat} (hx : x < p) (hy : y < p) (h : (p : Int) ∣ (x : Int) - y) : x = y := by
  obtain ⟨c, hc⟩ := h
  rcases Int.lt_trichotomy c 0 with h1 | h1 | h1
  · have : (p : Int) * c ≤ p * (-1) := Int.mul_le_mul_of_nonneg_left (by omega) (by omega)
    omega
  · subst h1; omega
  · have : (p : Int) * 1 ≤ p * c := Int.mul_le_mul_of_nonneg_left (by omega) (by omega)
    omega
/-- The number below p that an integer is. -/
def md (p : Nat) (a : Int) : Nat := (a % p).toNat
theorem md_lt {p : Nat} (hp : 0 < p) (a : Int) : md p a < p := by
  have h1 := Int.emod_nonneg a (b := (p : Int)) (by omega)
  have h2 := Int.emod_lt_of_pos a (b := (p : Int)) (by omega)
  unfold md
  omega
theorem md_dvd {p : Nat} (hp : 0 < p) (a : Int) : (p : Int) ∣ (md p a : Int) - a := by
  have h1 := Int.emod_nonneg a (b := (p : Int)) (by omega)
  have h2 := Int.emod_add_mul_ediv a (p : Int)
  refine ⟨-(a / p), ?_⟩
  unfold md
  rw [Int.toNat_of_nonneg h1]
  grind
/-- A point, by its coordinates. -/
inductive Pt where
  | O
  | A (x y : Nat)
deriving DecidableEq
/-- What a curve's numbers are: a prime above 3, and no root of the cubic. -/
structure Cv (p b : Nat) : Prop where
  pr : Prim p
  big : 3 < p
  bl : b < p
  nr : ∀ x : Int, ¬ (p : Int) ∣ x ^ 3 - 3 * x + b
def onP (p b : Nat) : Pt → Prop
  | .O => True
  | .A x y => x < p ∧ y < p ∧ (p : Int) ∣ (y : Int) ^ 2 - ((x : Int) ^ 3 - 3 * x + b)
/-- A slope: that of the line through two points, or of the tangent. -/
def SlP (p : Nat) (x1 y1 x2 y2 l : Int) : Prop := (p : Int) ∣ y1 - y2 - l * (x1 - x2) ∧ (p : Int) ∣ l * (y1 + y2) - (x1 ^ 2 + x1 * x2 + x2 ^ 2 - 3)
/-- The sum of two points. -/
def SmP (p : Nat) : Pt → Pt → Pt → Prop
  | .O, Q, R => R = Q
  | .A x1 y1, .O, R => R = .A x1 y1
  | .A x1 y1, .A x2 y2, R => (x1 = x2 ∧ (y1 + y2) % p = 0 ∧ R = .O) ∨ (¬ (x1 = x2 ∧ (y1 + y2) % p = 0) ∧ ∃ l : Int, SlP p x1 y1 x2 y2 l ∧ ∃ x y : Nat, R = .A x y ∧ x < p ∧ y < p ∧ (p : Int) ∣ (x : Int) - (l ^ 2 - x1 - x2) ∧ (p : Int) ∣ (y : Int) - (l * (x1 - x) - y1))
/-- The opposite point. -/
def ng (p : Nat) : Pt → Pt
  | .O => .O
  | .A x y => .A x ((p - y) % p)
section
variable {p b : Nat} (C : Cv p b)
include C
theorem Cv.two {a : Int} (h : (p : Int) ∣ 2 * a) : (p : Int) ∣ a := by
  refine C.pr.can (fun h2 => ?_) h
  have := Int.le_of_dvd (by omega) h2
  have := C.big
  omega
theorem Cv.ynz {x y : Int} (h : (p : Int) ∣ y ^ 2 - (x ^ 3 - 3 * x + b)) : ¬ (p : Int) ∣ y := by
  intro h2
  exact C.nr x (lc2 (-1) y h h2 (by grind))
omit C in
theorem opp_no {x1 y1 x2 y2 : Nat} (h1 : onP p b (.A x1 y1)) (h2 : onP p b (.A x2 y2)) (hn : ¬ (x1 = x2 ∧ (y1 + y2) % p = 0)) : ¬ ((p : Int) ∣ (x1 : Int) - x2 ∧ (p : Int) ∣ (y1 : Int) + y2) := by
  rintro ⟨h3, h4⟩
  refine hn ⟨eq_of_dvd h1.1 h2.1 h3, ?_⟩
  have h5 : (p : Int) ∣ ((y1 + y2 : Nat) : Int) := by simpa using h4
  exact Nat.mod_eq_zero_of_dvd (Int.natCast_dvd_natCast.1 h5)
theorem Cv.slope {x1 y1 x2 y2 : Int} (h1 : (p : Int) ∣ y1 ^ 2 - (x1 ^ 3 - 3 * x1 + b)) (h2 : (p : Int) ∣ y2 ^ 2 - (x2 ^ 3 - 3 * x2 + b)) (hn : ¬ ((p : Int) ∣ x1 - x2 ∧ (p : Int) ∣ y1 + y2)) : ∃ l, SlP p x1 y1 x2 y2 l := by
  by_cases hx : (p : Int) ∣ x1 - x2
  · have hy : ¬ (p : Int) ∣ y1 + y2 := fun h => hn ⟨hx, h⟩
    obtain ⟨t, ht⟩ := C.pr.invI hy
    have hd : (p : Int) ∣ y1 - y2 := C.pr.can hy (lc3 1 (-1) (x1 ^ 2 + x1 * x2 + x2 ^ 2 - 3) h1 h2 hx (by grind))
    exact ⟨(x1 ^ 2 + x1 * x2 + x2 ^ 2 - 3) * t, lc2 1 (-(x1 ^ 2 + x1 * x2 + x2 ^ 2 - 3) * t) hd hx (by grind), lc1 (x1 ^ 2 + x1 * x2 + x2 ^ 2 - 3) ht (by grind)⟩
  · obtain ⟨t, ht⟩ := C.pr.invI hx
    refine ⟨(y1 - y2) * t, lc1 (-(y1 - y2)) ht (by grind), C.pr.can hx ?_⟩
    exact lc3 1 (-1) ((y1 - y2) * (y1 + y2)) h1 h2 ht (by grind)
theorem Cv.slope_one {x1 y1 x2 y2 l k : Int} (hn : ¬ ((p : Int) ∣ x1 - x2 ∧ (p : Int) ∣ y1 + y2)) (h1 : SlP p x1 y1 x2 y2 l) (h2 : SlP p x1 y1 x2 y2 k) : (p : Int) ∣ l - k := by
  by_cases hx : (p : Int) ∣ x1 - x2
  · exact C.pr.can (fun h => hn ⟨hx, h⟩) (lc2 1 (-1) h1.2 h2.2 (by grind))
  · exact C.pr.can hx (lc2 (-1) 1 h1.1 h2.1 (by grind))
omit C in
theorem on_slope {x1 y1 x2 y2 l X Y : Int} (h1 : (p : Int) ∣ y1 ^ 2 - (x1 ^ 3 - 3 * x1 + b)) (hs : SlP p x1 y1 x2 y2 l) (hX : (p : Int) ∣ X - (l ^ 2 - x1 - x2)) (hY : (p : Int) ∣ Y - (l * (x1 - X) - y1)) : (p : Int) ∣ Y ^ 2 - (X ^ 3 - 3 * X + b) := by
  have hg : (p : Int) ∣ l * (2 * y1 - l * (x1 - x2)) - (x1 ^ 2 + x1 * x2 + x2 ^ 2 - 3) := lc2 1 l hs.2 hs.1 (by grind)
  exact lc4 (-X*l + Y + l*x1 - y1) (-X^2 + X*x1 + X*x2 - l^2*x1 + l^2*x2 + 2*l*y1 - x1^2 - 2*x1*x2 - x2^2 + 3) 1 (l^2 - 2*x1 - x2) hY hX h1 hg (by grind)
theorem Cv.ex {P Q : Pt} (h1 : onP p b P) (h2 : onP p b Q) : ∃ R, SmP p P Q R := by
  have hp : 0 < p := by have := C.big; omega
  cases P with
  | O => exact ⟨Q, rfl⟩
  | A x1 y1 =>
    cases Q with
    | O => exact ⟨.A x1 y1, rfl⟩
    | A x2 y2 =>
      by_cases hn : x1 = x2 ∧ (y1 + y2) % p = 0
      · exact ⟨.O, Or.inl ⟨hn.1, hn.2, rfl⟩⟩
      · obtain ⟨l, hl⟩ := C.slope h1.2.2 h2.2.2 (opp_no h1 h2 hn)
        refine ⟨_, Or.inr ⟨hn, l, hl, md p (l ^ 2 - x1 - x2), md p (l * (x1 - md p (l ^ 2 - x1 - x2)) - y1), rfl, md_lt hp _, md_lt hp _, md_dvd hp _, md_dvd hp _⟩⟩
theorem Cv.one {P Q R S : Pt} (h1 : onP p b P) (h2 : onP p b Q) (hR : SmP p P Q R) (hS : SmP p P Q S) : R = S := by
  cases P with
  | O => exact hR.trans hS.symm
  | A x1 y1 =>
    cases Q with
    | O => exact hR.trans hS.symm
    | A x2 y2 =>
      rcases hR with ⟨ha, hb, rfl⟩ | ⟨hn, l, hl, x, y, rfl, hx, hy, e1, e2⟩
      · rcases hS with ⟨_, _, rfl⟩ | ⟨hn, _⟩
        · rfl
        · exact absurd ⟨ha, hb⟩ hn
      · rcases hS with ⟨ha, hb, _⟩ | ⟨_, k, hk, u, v, rfl, hu, hv, f1, f2⟩
        · exact absurd ⟨ha, hb⟩ hn
        · have hlk := C.slope_one (opp_no h1 h2 hn) hl hk
          have hxu : (p : Int) ∣ (x : Int) - u := lc3 1 (-1) (l + k) e1 f1 hlk (by grind)
          have hyv : (p : Int) ∣ (y : Int) - v := lc4 1 (-1) (x1 - x) (-k) e2 f2 hlk hxu (by grind)
          rw [eq_of_dvd hx hu hxu, eq_of_dvd hy hv hyv]
omit C in
theorem sm_on {P Q R : Pt} (h1 : onP p b P) (h2 : onP p b Q) (hR : SmP p P Q R) : onP p b R := by
  cases P with
  | O => exact hR ▸ h2
  | A x1 y1 =>
    cases Q with
    | O => exact hR ▸ h1
    | A x2 y2 =>
      rcases hR with ⟨ha, hb, rfl⟩ | ⟨hn, l, hl, x, y, rfl, hx, hy, e1, e2⟩
      · trivial
      · exact ⟨hx, hy, on_slope h1.2.2 hl e1 e2⟩
omit C in
theorem sl_symm {x1 y1 x2 y2 l : Int} (h : SlP p x1 y1 x2 y2 l) : SlP p x2 y2 x1 y1 l := ⟨lc1 (-1) h.1 (by grind), lc1 1 h.2 (by grind)⟩
omit C in
theorem sm_symm {P Q R : Pt} (h : SmP p P Q R) : SmP p Q P R := by
  cases P with
  | O =>
    cases Q with
    | O => exact h
    | A x y => exact h
  | A x1 y1 =>
    cases Q with
    | O => exact h
    | A x2 y2 =>
      rcases h with ⟨ha, hb, rfl⟩ | ⟨hn, l, hl, x, y, rfl, hx, hy, e1, e2⟩
      · exact Or.inl ⟨ha.symm, by rw [Nat.add_comm]; exact hb, rfl⟩
      · refine Or.inr ⟨fun h => hn ⟨h.1.symm, by rw [Nat.add_comm]; exact h.2⟩, l, sl_symm hl, x, y, rfl, hx, hy, lc1 1 e1 (by grind), lc2 1 (-1) e2 hl.1 (by grind)⟩
omit C in
end
end Go.Proofs.YtmngdaolgdhgmaaGreatDoor
