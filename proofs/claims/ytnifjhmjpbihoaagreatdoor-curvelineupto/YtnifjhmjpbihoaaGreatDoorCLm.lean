import Derived.Test.YtnifjhmjpbihoaaGreatDoorCL
namespace Go.Proofs.YtnifjhmjpbihoaaGreatDoor
theorem line_gen {p x1 y1 x2 x3 y3 l up ac : Int} (hs : p ∣ ac * l - up) (h3 : p ∣ x3 - (l ^ 2 - x1 - x2)) (h4 : p ∣ y3 - (l * (x1 - x3) - y1)) : p ∣ (x3 + (x1 + x2)) * (ac * ac) - up * up ∧ p ∣ (y3 + y1) * ac - up * (x1 - x3) :=
  ⟨lc2 (ac * ac) (ac * l + up) h3 hs (by grind), lc2 ac (x1 - x3) h4 hs (by grind)⟩
/-- The two equations of a line, as the statement asks them. -/
theorem line_vals {p : Nat} (hp : Pm p) {x1 y1 x2 x3 y3 up ac : Nat} {l : Int} (hs : (p : Int) ∣ (ac : Int) * l - up) (h3 : (p : Int) ∣ (x3 : Int) - (l ^ 2 - x1 - x2)) (h4 : (p : Int) ∣ (y3 : Int) - (l * (x1 - x3) - y1)) :
    fM p (fA p x3 (fA p x1 x2)) (fM p ac ac) = fM p up up ∧ fM p (fA p y3 y1) ac = fM p up (fS p x1 x3) := by
  obtain ⟨h5, h6⟩ := line_gen hs h3 h4
  constructor
  · refine eq_of_dvd (fM_lt hp _ _) (fM_lt hp _ _) ?_
    have e1 := cg_fM (p := p) (cg_fA (a := x3) (b := fA p x1 x2) cg_nat (cg_fA (a := x1) (b := x2) cg_nat cg_nat)) (cg_fM (a := ac) (b := ac) cg_nat cg_nat)
    have e2 := cg_fM (p := p) (a := up) (b := up) cg_nat cg_nat
    exact lc3 1 (-1) 1 e1 e2 h5 (by grind)
  · refine eq_of_dvd (fM_lt hp _ _) (fM_lt hp _ _) ?_
    have e1 := cg_fM (p := p) (cg_fA (a := y3) (b := y1) cg_nat cg_nat) (cg_nat (a := ac))
    have e2 := cg_fM (p := p) (cg_nat (a := up)) (cg_fS hp (a := x1) (b := x3) cg_nat cg_nat)
    exact lc3 1 (-1) 1 e1 e2 h6 (by grind)
/-- A chord. -/
theorem chord {p b : Nat} (hp : Pm p) {x1 y1 x2 y2 : Nat} (C : Cv p b) (h1 : onP p b (.A x1 y1)) (h2 : onP p b (.A x2 y2)) (hx : x1 ≠ x2) : ∃ x3 y3, sm p (.A x1 y1) (.A x2 y2) = .A x3 y3 ∧
    fM p (fA p x3 (fA p x1 x2)) (fM p (fS p x2 x1) (fS p x2 x1)) = fM p (fS p y2 y1) (fS p y2 y1) ∧ fM p (fA p y3 y1) (fS p x2 x1) = fM p (fS p y2 y1) (fS p x1 x3) := by
  rcases C.sm_sm h1 h2 with ⟨ha, _⟩ | ⟨_, l, hl, x, y, e, _, _, e1, e2⟩
  · exact absurd ha hx
  · refine ⟨x, y, e, line_vals hp (l := l) ?_ e1 e2⟩
    exact lc3 l (-1) 1 (fS_cg hp x2 x1) (fS_cg hp y2 y1) hl.1 (by grind)
/-- A tangent. -/
theorem tangent {p b : Nat} (hp : Pm p) {x1 y1 y2 : Nat} (C : Cv p b) (h1 : onP p b (.A x1 y1)) (h2 : onP p b (.A x1 y2)) (hy : fA p y1 y2 ≠ 0) : ∃ x3 y3, sm p (.A x1 y1) (.A x1 y2) = .A x3 y3 ∧
    fM p (fA p x3 (fA p x1 x1)) (fM p (fA p y1 y1) (fA p y1 y1)) = fM p (fM p 3 (fS p (fM p x1 x1) 1)) (fM p 3 (fS p (fM p x1 x1) 1)) ∧ fM p (fA p y3 y1) (fA p y1 y1) = fM p (fM p 3 (fS p (fM p x1 x1) 1)) (fS p x1 x3) := by
  rcases C.sm_sm h1 h2 with ⟨_, hb, _⟩ | ⟨_, l, hl, x, y, e, _, _, e1, e2⟩
  · exact absurd hb hy
  · have hd : (p : Int) ∣ (y1 : Int) - y2 := lc1 1 hl.1 (by grind)
    refine ⟨x, y, e, line_vals hp (l := l) ?_ e1 e2⟩
    have e3 := cg_fM (p := p) (cg_nat (a := 3)) (cg_fS hp (cg_fM (a := x1) (b := x1) cg_nat cg_nat) (cg_nat (a := 1)))
    exact lc4 l (-1) 1 l (fA_cg p y1 y1) e3 hl.2 hd (by grind)
/-- Opposite ones. -/
theorem opposite {p b : Nat} {x1 y1 y2 : Nat} (C : Cv p b) (h1 : onP p b (.A x1 y1)) (h2 : onP p b (.A x1 y2)) (hy : fA p y1 y2 = 0) : sm p (.A x1 y1) (.A x1 y2) = .O :=
  C.sm_is h1 h2 (Or.inl ⟨rfl, hy, rfl⟩)
end Go.Proofs.YtnifjhmjpbihoaaGreatDoor
