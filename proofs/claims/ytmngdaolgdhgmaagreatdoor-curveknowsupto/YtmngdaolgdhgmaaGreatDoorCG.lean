import Derived.Test.YtmngdaolgdhgmaaGreatDoorCR
namespace Go.Proofs.YtmngdaolgdhgmaaGreatDoor
theorem lc1 {p e F : Int} (a : Int) (h : p ∣ e) (hF : F = a * e) : p ∣ F := hF ▸ Int.dvd_mul_of_dvd_right h
theorem lc2 {p e1 e2 F : Int} (a1 a2 : Int) (h1 : p ∣ e1) (h2 : p ∣ e2) (hF : F = a1 * e1 + a2 * e2) : p ∣ F := hF ▸ Int.dvd_add (Int.dvd_mul_of_dvd_right h1) (Int.dvd_mul_of_dvd_right h2)
theorem lc3 {p e1 e2 e3 F : Int} (a1 a2 a3 : Int) (h1 : p ∣ e1) (h2 : p ∣ e2) (h3 : p ∣ e3) (hF : F = a1 * e1 + a2 * e2 + a3 * e3) : p ∣ F := hF ▸ Int.dvd_add (Int.dvd_add (Int.dvd_mul_of_dvd_right h1) (Int.dvd_mul_of_dvd_right h2)) (Int.dvd_mul_of_dvd_right h3)
theorem lc4 {p e1 e2 e3 e4 F : Int} (a1 a2 a3 a4 : Int) (h1 : p ∣ e1) (h2 : p ∣ e2) (h3 : p ∣ e3) (h4 : p ∣ e4) (hF : F = a1 * e1 + a2 * e2 + a3 * e3 + a4 * e4) : p ∣ F := hF ▸ Int.dvd_add (Int.dvd_add (Int.dvd_add (Int.dvd_mul_of_dvd_right h1) (Int.dvd_mul_of_dvd_right h2)) (Int.dvd_mul_of_dvd_right h3)) (Int.dvd_mul_of_dvd_right h4)
theorem Prim.mulI {p : Nat} (hp : Prim p) {a c : Int} (h : (p : Int) ∣ a * c) : (p : Int) ∣ a ∨ (p : Int) ∣ c := by
  have h1 : p ∣ a.natAbs * c.natAbs := by rw [← Int.natAbs_mul]; exact Int.ofNat_dvd_left.1 h
  rcases hp.mul h1 with h2 | h2
  · exact Or.inl (Int.ofNat_dvd_left.2 h2)
  · exact Or.inr (Int.ofNat_dvd_left.2 h2)
theorem Prim.can {p : Nat} (hp : Prim p) {a c : Int} (ha : ¬ (p : Int) ∣ a) (h : (p : Int) ∣ a * c) : (p : Int) ∣ c := (hp.mulI h).resolve_left ha
theorem Prim.invI {p : Nat} (hp : Prim p) {a : Int} (ha : ¬ (p : Int) ∣ a) : ∃ t : Int, (p : Int) ∣ a * t - 1 := by
  have h1 : ¬ p ∣ a.natAbs := fun h => ha (Int.ofNat_dvd_left.2 h)
  have h2 := hp.cop h1
  obtain ⟨x, y, h3⟩ := bezI p a.natAbs
  rw [show Nat.gcd p a.natAbs = 1 from h2] at h3
  rcases Int.natAbs_eq a with h4 | h4
  · exact ⟨y, ⟨-x, by rw [h4]; grind⟩⟩
  · exact ⟨-y, ⟨-x, by rw [h4]; grind⟩⟩
theorem eq_of_dvd {p x y : Nat} (hx : x < p) (hy : y < p) (h : (p : Int) ∣ (x : Int) - y) : x = y := by
  obtain ⟨c, hc⟩ := h
  rcases Int.lt_trichotomy c 0 with h1 | h1 | h1
  · have : (p : Int) * c ≤ p * (-1) := Int.mul_le_mul_of_nonneg_left (by omega) (by omega)
    omega
  · subst h1; omega
  · have : (p : Int) * 1 ≤ p * c := Int.mul_le_mul_of_nonneg_left (by omega) (by omega)
    omega
/-- The number below p that an integer is. -/
def md (p : Nat) (a : Int) : Nat := (a % p).toNat
theorem md_lt {p : Nat} (hp : 0 < p) (a : Int) : md p a < p := by
  have h1 := Int.emod_nonneg a (b := (p : Int)) (by omega)
  have h2 := Int.emod_lt_of_pos a (b := (p : Int)) (by omega)
  unfold md
  omega
theorem md_dvd {p : Nat} (hp : 0 < p) (a : Int) : (p : Int) ∣ (md p a : Int) - a := by
  have h1 := Int.emod_nonneg a (b := (p : Int)) (by omega)
  have h2 := Int.emod_add_mul_ediv a (p : Int)
  refine ⟨-(a / p), ?_⟩
  unfold md
  rw [Int.toNat_of_nonneg h1]
  grind
/-- A point, by its coordinates. -/
inductive Pt where
  | O
  | A (x y : Nat)
deriving DecidableEq
/-- What a curve's numbers are: a prime above 3, and no root of the cubic. -/
structure Cv (p b : Nat) : Prop where
  pr : Prim p
  big : 3 < p
  bl : b < p
  nr : ∀ x : Int, ¬ (p : Int) ∣ x ^ 3 - 3 * x + b
def onP (p b : Nat) : Pt → Prop
  | .O => True
  | .A x y => x < p ∧ y < p ∧ (p : Int) ∣ (y : Int) ^ 2 - ((x : Int) ^ 3 - 3 * x + b)
/-- A slope: that of the line through two points, or of the tangent. -/
def SlP (p : Nat) (x1 y1 x2 y2 l : Int) : Prop := (p : Int) ∣ y1 - y2 - l * (x1 - x2) ∧ (p : Int) ∣ l * (y1 + y2) - (x1 ^ 2 + x1 * x2 + x2 ^ 2 - 3)
/-- The sum of two points. -/
def SmP (p : Nat) : Pt → Pt → Pt → Prop
  | .O, Q, R => R = Q
  | .A x1 y1, .O, R => R = .A x1 y1
  | .A x1 y1, .A x2 y2, R => (x1 = x2 ∧ (y1 + y2) % p = 0 ∧ R = .O) ∨ (¬ (x1 = x2 ∧ (y1 + y2) % p = 0) ∧ ∃ l : Int, SlP p x1 y1 x2 y2 l ∧ ∃ x y : Nat, R = .A x y ∧ x < p ∧ y < p ∧ (p : Int) ∣ (x : Int) - (l ^ 2 - x1 - x2) ∧ (p : Int) ∣ (y : Int) - (l * (x1 - x) - y1))
/-- The opposite point. -/
def ng (p : Nat) : Pt → Pt
  | .O => .O
  | .A x y => .A x ((p - y) % p)
section
variable {p b : Nat} (C : Cv p b)
include C
theorem Cv.two {a : Int} (h : (p : Int) ∣ 2 * a) : (p : Int) ∣ a := by
  refine C.pr.can (fun h2 => ?_) h
  have := Int.le_of_dvd (by omega) h2
  have := C.big
  omega
theorem Cv.ynz {x y : Int} (h : (p : Int) ∣ y ^ 2 - (x ^ 3 - 3 * x + b)) : ¬ (p : Int) ∣ y := by
  intro h2
  exact C.nr x (lc2 (-1) y h h2 (by grind))
omit C in
theorem opp_no {x1 y1 x2 y2 : Nat} (h1 : onP p b (.A x1 y1)) (h2 : onP p b (.A x2 y2)) (hn : ¬ (x1 = x2 ∧ (y1 + y2) % p = 0)) : ¬ ((p : Int) ∣ (x1 : Int) - x2 ∧ (p : Int) ∣ (y1 : Int) + y2) := by
  rintro ⟨h3, h4⟩
  refine hn ⟨eq_of_dvd h1.1 h2.1 h3, ?_⟩
  have h5 : (p : Int) ∣ ((y1 + y2 : Nat) : Int) := by simpa using h4
  exact Nat.mod_eq_zero_of_dvd (Int.natCast_dvd_natCast.1 h5)
theorem Cv.slope {x1 y1 x2 y2 : Int} (h1 : (p : Int) ∣ y1 ^ 2 - (x1 ^ 3 - 3 * x1 + b)) (h2 : (p : Int) ∣ y2 ^ 2 - (x2 ^ 3 - 3 * x2 + b)) (hn : ¬ ((p : Int) ∣ x1 - x2 ∧ (p : Int) ∣ y1 + y2)) : ∃ l, SlP p x1 y1 x2 y2 l := by
  by_cases hx : (p : Int) ∣ x1 - x2
  · have hy : ¬ (p : Int) ∣ y1 + y2 := fun h => hn ⟨hx, h⟩
    obtain ⟨t, ht⟩ := C.pr.invI hy
    have hd : (p : Int) ∣ y1 - y2 := C.pr.can hy (lc3 1 (-1) (x1 ^ 2 + x1 * x2 + x2 ^ 2 - 3) h1 h2 hx (by grind))
    exact ⟨(x1 ^ 2 + x1 * x2 + x2 ^ 2 - 3) * t, lc2 1 (-(x1 ^ 2 + x1 * x2 + x2 ^ 2 - 3) * t) hd hx (by grind), lc1 (x1 ^ 2 + x1 * x2 + x2 ^ 2 - 3) ht (by grind)⟩
  · obtain ⟨t, ht⟩ := C.pr.invI hx
    refine ⟨(y1 - y2) * t, lc1 (-(y1 - y2)) ht (by grind), C.pr.can hx ?_⟩
    exact lc3 1 (-1) ((y1 - y2) * (y1 + y2)) h1 h2 ht (by grind)
theorem Cv.slope_one {x1 y1 x2 y2 l k : Int} (hn : ¬ ((p : Int) ∣ x1 - x2 ∧ (p : Int) ∣ y1 + y2)) (h1 : SlP p x1 y1 x2 y2 l) (h2 : SlP p x1 y1 x2 y2 k) : (p : Int) ∣ l - k := by
  by_cases hx : (p : Int) ∣ x1 - x2
  · exact C.pr.can (fun h => hn ⟨hx, h⟩) (lc2 1 (-1) h1.2 h2.2 (by grind))
  · exact C.pr.can hx (lc2 (-1) 1 h1.1 h2.1 (by grind))
omit C in
theorem on_slope {x1 y1 x2 y2 l X Y : Int} (h1 : (p : Int) ∣ y1 ^ 2 - (x1 ^ 3 - 3 * x1 + b)) (hs : SlP p x1 y1 x2 y2 l) (hX : (p : Int) ∣ X - (l ^ 2 - x1 - x2)) (hY : (p : Int) ∣ Y - (l * (x1 - X) - y1)) : (p : Int) ∣ Y ^ 2 - (X ^ 3 - 3 * X + b) := by
  have hg : (p : Int) ∣ l * (2 * y1 - l * (x1 - x2)) - (x1 ^ 2 + x1 * x2 + x2 ^ 2 - 3) := lc2 1 l hs.2 hs.1 (by grind)
  exact lc4 (-X*l + Y + l*x1 - y1) (-X^2 + X*x1 + X*x2 - l^2*x1 + l^2*x2 + 2*l*y1 - x1^2 - 2*x1*x2 - x2^2 + 3) 1 (l^2 - 2*x1 - x2) hY hX h1 hg (by grind)
theorem Cv.ex {P Q : Pt} (h1 : onP p b P) (h2 : onP p b Q) : ∃ R, SmP p P Q R := by
  have hp : 0 < p := by have := C.big; omega
  cases P with
  | O => exact ⟨Q, rfl⟩
  | A x1 y1 =>
    cases Q with
    | O => exact ⟨.A x1 y1, rfl⟩
    | A x2 y2 =>
      by_cases hn : x1 = x2 ∧ (y1 + y2) % p = 0
      · exact ⟨.O, Or.inl ⟨hn.1, hn.2, rfl⟩⟩
      · obtain ⟨l, hl⟩ := C.slope h1.2.2 h2.2.2 (opp_no h1 h2 hn)
        refine ⟨_, Or.inr ⟨hn, l, hl, md p (l ^ 2 - x1 - x2), md p (l * (x1 - md p (l ^ 2 - x1 - x2)) - y1), rfl, md_lt hp _, md_lt hp _, md_dvd hp _, md_dvd hp _⟩⟩
theorem Cv.one {P Q R S : Pt} (h1 : onP p b P) (h2 : onP p b Q) (hR : SmP p P Q R) (hS : SmP p P Q S) : R = S := by
  cases P with
  | O => exact hR.trans hS.symm
  | A x1 y1 =>
    cases Q with
    | O => exact hR.trans hS.symm
    | A x2 y2 =>
      rcases hR with ⟨ha, hb, rfl⟩ | ⟨hn, l, hl, x, y, rfl, hx, hy, e1, e2⟩
      · rcases hS with ⟨_, _, rfl⟩ | ⟨hn, _⟩
        · rfl
        · exact absurd ⟨ha, hb⟩ hn
      · rcases hS with ⟨ha, hb, _⟩ | ⟨_, k, hk, u, v, rfl, hu, hv, f1, f2⟩
        · exact absurd ⟨ha, hb⟩ hn
        · have hlk := C.slope_one (opp_no h1 h2 hn) hl hk
          have hxu : (p : Int) ∣ (x : Int) - u := lc3 1 (-1) (l + k) e1 f1 hlk (by grind)
          have hyv : (p : Int) ∣ (y : Int) - v := lc4 1 (-1) (x1 - x) (-k) e2 f2 hlk hxu (by grind)
          rw [eq_of_dvd hx hu hxu, eq_of_dvd hy hv hyv]
omit C in
theorem sm_on {P Q R : Pt} (h1 : onP p b P) (h2 : onP p b Q) (hR : SmP p P Q R) : onP p b R := by
  cases P with
  | O => exact hR ▸ h2
  | A x1 y1 =>
    cases Q with
    | O => exact hR ▸ h1
    | A x2 y2 =>
      rcases hR with ⟨ha, hb, rfl⟩ | ⟨hn, l, hl, x, y, rfl, hx, hy, e1, e2⟩
      · trivial
      · exact ⟨hx, hy, on_slope h1.2.2 hl e1 e2⟩
omit C in
theorem sl_symm {x1 y1 x2 y2 l : Int} (h : SlP p x1 y1 x2 y2 l) : SlP p x2 y2 x1 y1 l := ⟨lc1 (-1) h.1 (by grind), lc1 1 h.2 (by grind)⟩
omit C in
theorem sm_symm {P Q R : Pt} (h : SmP p P Q R) : SmP p Q P R := by
  cases P with
  | O =>
    cases Q with
    | O => exact h
    | A x y => exact h
  | A x1 y1 =>
    cases Q with
    | O => exact h
    | A x2 y2 =>
      rcases h with ⟨ha, hb, rfl⟩ | ⟨hn, l, hl, x, y, rfl, hx, hy, e1, e2⟩
      · exact Or.inl ⟨ha.symm, by rw [Nat.add_comm]; exact hb, rfl⟩
      · refine Or.inr ⟨fun h => hn ⟨h.1.symm, by rw [Nat.add_comm]; exact h.2⟩, l, sl_symm hl, x, y, rfl, hx, hy, lc1 1 e1 (by grind), lc2 1 (-1) e2 hl.1 (by grind)⟩
omit C in
theorem ng_on {P : Pt} (hp : 0 < p) (h : onP p b P) : onP p b (ng p P) := by
  cases P with
  | O => trivial
  | A x y =>
    refine ⟨h.1, Nat.mod_lt _ hp, ?_⟩
    have h1 : (p : Int) ∣ (((p - y) % p : Nat) : Int) + y := by
      have h2 := dvd_mod p (p - y)
      have h3 : ((p - y : Nat) : Int) = (p : Int) - y := by have := h.2.1; omega
      rw [h3] at h2
      obtain ⟨c, hc⟩ := h2
      exact ⟨c + 1, by grind⟩
    exact lc2 1 ((((p - y) % p : Nat) : Int) - y) h.2.2 h1 (by grind)
omit C in
theorem ng_dvd {y : Nat} (hy : y < p) : (p : Int) ∣ (((p - y) % p : Nat) : Int) + y := by
  have h2 := dvd_mod p (p - y)
  have h3 : ((p - y : Nat) : Int) = (p : Int) - y := by omega
  rw [h3] at h2
  obtain ⟨c, hc⟩ := h2
  exact ⟨c + 1, by grind⟩
omit C in
theorem ng_ng {P : Pt} (h : onP p b P) : ng p (ng p P) = P := by
  cases P with
  | O => rfl
  | A x y =>
    have hp : 0 < p := by have := h.1; omega
    simp only [ng]
    congr 1
    have h1 := ng_dvd h.2.1
    have h2 := ng_dvd (Nat.mod_lt (p - y) hp)
    exact eq_of_dvd (Nat.mod_lt _ hp) h.2.1 (lc2 1 (-1) h2 h1 (by grind))
omit C in
theorem opp_iff {y z : Nat} (hy : y < p) (hz : z < p) : (y + z) % p = 0 ↔ z = (p - y) % p := by
  have hp : 0 < p := by omega
  have h1 := ng_dvd hy
  constructor
  · intro h
    have h2 : (p : Int) ∣ ((y + z : Nat) : Int) := Int.natCast_dvd_natCast.2 (Nat.dvd_of_mod_eq_zero h)
    rw [Int.natCast_add] at h2
    exact eq_of_dvd hz (Nat.mod_lt _ hp) (lc2 1 (-1) h2 h1 (by grind))
  · rintro rfl
    apply Nat.mod_eq_zero_of_dvd
    apply Int.natCast_dvd_natCast.1
    rw [Int.natCast_add]
    exact lc1 1 h1 (by grind)
omit C in
theorem sm_ng {P : Pt} (h : onP p b P) : SmP p P (ng p P) .O := by
  cases P with
  | O => rfl
  | A x y => exact Or.inl ⟨rfl, (opp_iff h.2.1 (Nat.mod_lt _ (by have := h.1; omega))).2 rfl, rfl⟩
omit C in
theorem sm_O {P Q : Pt} (h1 : onP p b P) (h2 : onP p b Q) (h : SmP p P Q .O) : Q = ng p P := by
  cases P with
  | O => exact h.symm
  | A x1 y1 =>
    cases Q with
    | O => exact absurd h (by intro h; cases h)
    | A x2 y2 =>
      rcases h with ⟨rfl, hb, _⟩ | ⟨_, _, _, _, _, h, _⟩
      · simp only [ng]
        rw [(opp_iff h1.2.1 h2.2.1).1 hb]
      · cases h
omit C in
theorem sm_negs {P Q R : Pt} (h1 : onP p b P) (h2 : onP p b Q) (h3 : onP p b R) (h : SmP p P Q R) : SmP p (ng p P) (ng p Q) (ng p R) := by
  cases P with
  | O => exact congrArg (ng p) h
  | A x1 y1 =>
    have hp : 0 < p := by have := h1.1; omega
    cases Q with
    | O => exact congrArg (ng p) h
    | A x2 y2 =>
      have d1 := ng_dvd h1.2.1
      have d2 := ng_dvd h2.2.1
      have hiff : ((p - y1) % p + (p - y2) % p) % p = 0 ↔ (y1 + y2) % p = 0 := by
        constructor
        · intro h
          have h4 : (p : Int) ∣ (((p - y1) % p + (p - y2) % p : Nat) : Int) := Int.natCast_dvd_natCast.2 (Nat.dvd_of_mod_eq_zero h)
          rw [Int.natCast_add] at h4
          apply Nat.mod_eq_zero_of_dvd
          apply Int.natCast_dvd_natCast.1
          rw [Int.natCast_add]
          exact lc3 1 1 (-1) d1 d2 h4 (by grind)
        · intro h
          have h4 : (p : Int) ∣ ((y1 + y2 : Nat) : Int) := Int.natCast_dvd_natCast.2 (Nat.dvd_of_mod_eq_zero h)
          rw [Int.natCast_add] at h4
          apply Nat.mod_eq_zero_of_dvd
          apply Int.natCast_dvd_natCast.1
          rw [Int.natCast_add]
          exact lc3 1 1 (-1) d1 d2 h4 (by grind)
      rcases h with ⟨ha, hb, rfl⟩ | ⟨hn, l, hl, x, y, rfl, hx, hy, e1, e2⟩
      · exact Or.inl ⟨ha, hiff.2 hb, rfl⟩
      · have d3 := ng_dvd hy
        refine Or.inr ⟨fun h => hn ⟨h.1, hiff.1 h.2⟩, -l, ⟨lc3 1 (-1) (-1) d1 d2 hl.1 (by grind), lc3 (-l) (-l) 1 d1 d2 hl.2 (by grind)⟩, x, _, rfl, hx, Nat.mod_lt _ hp, lc1 1 e1 (by grind), lc3 1 1 (-1) d3 d1 e2 (by grind)⟩
theorem Cv.canc {P Q S : Pt} (h1 : onP p b P) (h2 : onP p b Q) (h : SmP p P Q S) : SmP p S (ng p Q) P := by
  have hp : 0 < p := by have := C.big; omega
  have h3 := sm_on h1 h2 h
  cases P with
  | O =>
    cases h
    exact sm_ng h2
  | A x1 y1 =>
    cases Q with
    | O =>
      cases h
      rfl
    | A x2 y2 =>
      have d2 := ng_dvd h2.2.1
      rcases h with ⟨rfl, hb, rfl⟩ | ⟨hn, l, hl, x, y, rfl, hx, hy, e1, e2⟩
      · have h4 : ng p (.A x1 y2) = .A x1 y1 := by
          simp only [ng]
          rw [← (opp_iff h2.2.1 h1.2.1).1 (by rw [Nat.add_comm]; exact hb)]
        rw [h4]
        rfl
      · have hg : (p : Int) ∣ l * (2 * y2 + l * (x1 - x2)) - ((x1 : Int) ^ 2 + x1 * x2 + x2 ^ 2 - 3) := lc2 1 (-l) hl.2 hl.1 (by grind)
        have s1 : (p : Int) ∣ (y : Int) + y2 + l * (x - x2) := lc2 1 (-1) e2 hl.1 (by grind)
        have s2 : (p : Int) ∣ -l * (y - y2) - ((x : Int) ^ 2 + x * x2 + x2 ^ 2 - 3) := lc4 (-l) (x1 - x) l 1 e2 e1 hl.1 hg (by grind)
        have hno : ¬ (x = x2 ∧ (y + (p - y2) % p) % p = 0) := by
          rintro ⟨hxx, hyy⟩
          have h4 : (p : Int) ∣ ((y + (p - y2) % p : Nat) : Int) := Int.natCast_dvd_natCast.2 (Nat.dvd_of_mod_eq_zero hyy)
          rw [Int.natCast_add] at h4
          subst hxx
          exact C.ynz h2.2.2 (C.two (lc3 1 (-1) 1 s1 h4 d2 (by grind)))
        refine Or.inr ⟨hno, -l, ⟨lc2 1 (-1) s1 d2 (by grind), lc2 1 (-l) s2 d2 (by grind)⟩, x1, y1, rfl, h1.1, h1.2.1, lc1 1 e1 (by grind), lc1 1 e2 (by grind)⟩
/-- Both ways of adding three points, where no two of them are opposite. -/
theorem Cv.assoc_gen {x1 y1 x2 y2 x3 y3 xS yS xT yT l m n t : Int}
    (h12 : SlP p x1 y1 x2 y2 l) (h23 : SlP p x2 y2 x3 y3 m) (hS1 : (p : Int) ∣ xS - (l ^ 2 - x1 - x2)) (hS2 : (p : Int) ∣ yS - (l * (x1 - xS) - y1)) (hT1 : (p : Int) ∣ xT - (m ^ 2 - x2 - x3)) (hT2 : (p : Int) ∣ yT - (m * (x2 - xT) - y2))
    (hS3 : SlP p xS yS x3 y3 n) (h1T : SlP p x1 y1 xT yT t) (nS : ¬ ((p : Int) ∣ xS - x3 ∧ (p : Int) ∣ yS + y3)) (nT : ¬ ((p : Int) ∣ x1 - xT ∧ (p : Int) ∣ y1 + yT)) (hm : ¬ (p : Int) ∣ l - m)
    {xA yA xB yB : Int} (hA1 : (p : Int) ∣ xA - (n ^ 2 - xS - x3)) (hA2 : (p : Int) ∣ yA - (n * (xS - xA) - yS)) (hB1 : (p : Int) ∣ xB - (t ^ 2 - x1 - xT)) (hB2 : (p : Int) ∣ yB - (t * (x1 - xB) - y1)) : (p : Int) ∣ xA - xB ∧ (p : Int) ∣ yA - yB := by
  have g2 : (p : Int) ∣ l * (2 * y2 + l * (x1 - x2)) - (x1 ^ 2 + x1 * x2 + x2 ^ 2 - 3) := lc2 1 (-l) h12.2 h12.1 (by grind)
  have g4 : (p : Int) ∣ m * (2 * y2 - m * (x2 - x3)) - (x2 ^ 2 + x2 * x3 + x3 ^ 2 - 3) := lc2 1 m h23.2 h23.1 (by grind)
  obtain ⟨h1, h2⟩ := h12
  obtain ⟨h3, h4⟩ := h23
  obtain ⟨n1, n2⟩ := hS3
  obtain ⟨t1, t2⟩ := h1T
  have E1x : (p : Int) ∣ (xS - x3) * ((l - m) * (n + l) - (x1 - x3)) := by
    have a := lc4 (-x1 + x3) (l - m) (-l + m) (l - m) hS1 hS2 h1 h3 rfl
    have c := lc3 (-1) 1 (-(l - m)) g2 g4 n1 rfl
    exact lc2 1 1 a c (by grind)
  have E1y : (p : Int) ∣ (yS + y3) * ((l - m) * (n + l) - (x1 - x3)) := by
    have a := lc4 (-l*x2 + l*xS + m*x1 + m*x2 - m*x3 - m*xS) (l^2 - l*m - x1 + x3) (-l^2 + l*m + x1 - x3) (-l^2 + l*m + x1 - x3) hS1 hS2 h1 h3 rfl
    have c := lc3 m (-l) (l - m) g2 g4 n2 rfl
    exact lc2 1 1 a c (by grind)
  have E2x : (p : Int) ∣ (x1 - xT) * ((l - m) * (t + m) - (x1 - x3)) := by
    have a := lc3 (x1 - x3) (-l + m) (l - m) hT1 hT2 h1 rfl
    have c := lc3 1 (-1) (-(l - m)) g2 g4 t1 rfl
    exact lc2 1 1 a c (by grind)
  have E2y : (p : Int) ∣ (y1 + yT) * ((l - m) * (t + m) - (x1 - x3)) := by
    have a := lc3 (l*x1 - l*x2 - l*x3 + l*xT + m*x2 - m*xT) (l*m - m^2 - x1 + x3) (l*m - m^2 - x1 + x3) hT1 hT2 h1 rfl
    have c := lc3 m (-l) (l - m) g2 g4 t2 rfl
    exact lc2 1 1 a c (by grind)
  have E1 : (p : Int) ∣ (l - m) * (n + l) - (x1 - x3) := by
    by_cases hx : (p : Int) ∣ xS - x3
    · exact C.pr.can (fun h => nS ⟨hx, h⟩) E1y
    · exact C.pr.can hx E1x
  have E2 : (p : Int) ∣ (l - m) * (t + m) - (x1 - x3) := by
    by_cases hx : (p : Int) ∣ x1 - xT
    · exact C.pr.can (fun h => nT ⟨hx, h⟩) E2y
    · exact C.pr.can hx E2x
  have K : (p : Int) ∣ n + l - (t + m) := C.pr.can hm (lc2 1 (-1) E1 E2 (by grind))
  constructor
  · have a := lc4 1 (-1) (-1) 1 hA1 hB1 hS1 hT1 rfl
    have c := lc3 (n + t) (-1) (-1) K E1 E2 rfl
    exact lc2 1 1 a c (by grind)
  · have a := lc4 1 (-1) (-1) (-n) hA2 hB2 n1 hA1 rfl
    have c := lc4 t (-t) n 1 hB1 hT1 hS1 h1 rfl
    have d := lc3 1 (2*l*m + l*n + 2*l*t - m^2 - m*n - 2*m*t - n^2 - n*t - t^2 - x1 - x2 + 2*x3) (-2*l + m + 3*t) h3 K E2 rfl
    exact lc3 1 1 1 a c d (by grind)
end
end Go.Proofs.YtmngdaolgdhgmaaGreatDoor
