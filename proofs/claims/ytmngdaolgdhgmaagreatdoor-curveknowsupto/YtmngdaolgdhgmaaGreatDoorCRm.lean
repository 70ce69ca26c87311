import Derived.Test.YtmngdaolgdhgmaaGreatDoorCV
import Derived.Test.YtmngdaolgdhgmaaGreatDoorCS
namespace Go.Proofs.YtmngdaolgdhgmaaGreatDoor
theorem cgr (p : Nat) (a : Int) : (p : Int) ∣ a - a := by rw [Int.sub_self]; exact Int.dvd_zero _
/-- The document's sum by its slope s. -/
def dX (p s x1 x2 : Nat) : Nat := fS p (fS p (fM p s s) x1) x2
def dY (p s x1 x3 y1 : Nat) : Nat := fS p (fM p s (fS p x1 x3)) y1
theorem doc_sum {p b : Nat} (C : Cv p b) (hp : Pm p) {x1 y1 x2 y2 s : Nat} (h1 : onP p b (.A x1 y1)) (h2 : onP p b (.A x2 y2)) (hn : ¬ (x1 = x2 ∧ (y1 + y2) % p = 0)) (hs : SlP p x1 y1 x2 y2 s) : sm p (.A x1 y1) (.A x2 y2) = .A (dX p s x1 x2) (dY p s x1 (dX p s x1 x2) y1) := by
  refine C.sm_is h1 h2 (.inr ⟨hn, (s : Int), hs, _, _, rfl, fS_lt hp _ _, fS_lt hp _ _, ?_, ?_⟩)
  · exact lc1 1 (cg_fS hp (cg_fS hp (fM_cg p s s) (cgr p x1)) (cgr p x2)) (by unfold dX; generalize fS p (fS p (fM p s s) x1) x2 = z; grind)
  · exact lc1 1 (cg_fS hp (cg_fM (cgr p s) (fS_cg hp x1 (dX p s x1 x2))) (cgr p y1)) (by unfold dY; generalize fS p (fM p s (fS p x1 (dX p s x1 x2))) y1 = z; grind)
theorem inz_cg {A p Y : Nat} {a : Int} (h : Inz A p Y) (ha : (p : Int) ∣ (A : Int) - a) : (p : Int) ∣ a * Y - 1 := by
  have h1 : (p : Int) ∣ ((A * Y : Nat) : Int) - 1 := by
    have h2 : A * Y = p * (A * Y / p) + 1 := by have := Nat.div_add_mod (A * Y) p; rw [h.2] at this; omega
    refine ⟨((A * Y / p : Nat) : Int), ?_⟩
    have h3 : ((A * Y : Nat) : Int) = (p : Int) * ((A * Y / p : Nat) : Int) + 1 := by exact_mod_cast h2
    omega
  rw [Int.natCast_mul] at h1
  exact lc2 1 (-(Y : Int)) h1 ha (by grind)
theorem doc_chord {p b : Nat} (C : Cv p b) (hp : Pm p) {x1 y1 x2 y2 Y : Nat} (h1 : onP p b (.A x1 y1)) (h2 : onP p b (.A x2 y2)) (hx : x1 ≠ x2) (hY : Inz (fS p x2 x1) p Y) : SlP p x1 y1 x2 y2 (fM p (fS p y2 y1) Y) := by
  have e1 := inz_cg hY (fS_cg hp x2 x1)
  have e2 := cg_fM (fS_cg hp y2 y1) (cgr p Y)
  have A1 : (p : Int) ∣ (y1 : Int) - y2 - (fM p (fS p y2 y1) Y : Int) * (x1 - x2) := lc2 ((x2 : Int) - x1) ((y2 : Int) - y1) e2 e1 (by grind)
  refine ⟨A1, C.pr.can (a := (x1 : Int) - x2) (fun h => hx (eq_of_dvd h1.1 h2.1 h)) ?_⟩
  exact lc3 (-((y1 : Int) + y2)) 1 (-1) A1 h1.2.2 h2.2.2 (by grind)
theorem doc_y {p b : Nat} (C : Cv p b) {x1 y1 y2 : Nat} (h1 : onP p b (.A x1 y1)) (h2 : onP p b (.A x1 y2)) (hn : (y1 + y2) % p ≠ 0) : y1 = y2 := by
  have h3 : (p : Int) ∣ ((y1 : Int) + y2) * ((y1 : Int) - y2) := lc2 1 (-1) h1.2.2 h2.2.2 (by grind)
  refine eq_of_dvd h1.2.1 h2.2.1 (C.pr.can (fun h => hn ?_) h3)
  have h4 : (p : Int) ∣ ((y1 + y2 : Nat) : Int) := by rw [Int.natCast_add]; exact h
  exact Nat.mod_eq_zero_of_dvd (Int.natCast_dvd_natCast.1 h4)
theorem doc_tangent {p b : Nat} (hp : Pm p) {x y Y : Nat} (_h1 : onP p b (.A x y)) (hY : Inz (fM p 2 y) p Y) : SlP p x y x y (fM p (fS p (fM p 3 (fM p x x)) 3) Y) := by
  have e1 := inz_cg hY (fM_cg p 2 y)
  have e2 := cg_fM (cg_fS hp (cg_fM (cgr p (3 : Nat)) (fM_cg p x x)) (cgr p (3 : Nat))) (cgr p Y)
  refine ⟨by rw [Int.sub_self, Int.sub_self, Int.mul_zero]; exact Int.dvd_zero _, ?_⟩
  exact lc2 (2 * (y : Int)) (3 * ((x : Int) * x) - 3) e2 e1 (by grind)
theorem doc_on {p b : Nat} (hp : Pm p) (X : Nat) : fA p (fS p (fM p X (fM p X X)) (fM p 3 X)) b = fS p (fM p X X * X + b) (X * 3) := by
  refine eq_of_dvd (fA_lt hp _ _) (fS_lt hp _ _) ?_
  have e1 := cg_fA (cg_fS hp (cg_fM (cgr p X) (fM_cg p X X)) (fM_cg p 3 X)) (cgr p b)
  have e2 := fS_cg hp (fM p X X * X + b) (X * 3)
  have e3 := fM_cg p X X
  rw [Int.natCast_add, Int.natCast_mul, Int.natCast_mul] at e2
  exact lc3 1 (-1) (-(X : Int)) e1 e2 e3 (by grind)
end Go.Proofs.YtmngdaolgdhgmaaGreatDoor
