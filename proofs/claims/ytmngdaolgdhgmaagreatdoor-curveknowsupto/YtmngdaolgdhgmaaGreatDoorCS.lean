import Derived.Test.YtmngdaolgdhgmaaGreatDoorCG
namespace Go.Proofs.YtmngdaolgdhgmaaGreatDoor
section
variable {p b : Nat} (C : Cv p b)
include C
omit C in
theorem on_O : onP p b .O := trivial
theorem Cv.assoc {P Q R S T A B : Pt} (h1 : onP p b P) (h2 : onP p b Q) (h3 : onP p b R) (hS : SmP p P Q S) (hT : SmP p Q R T) (hA : SmP p S R A) (hB : SmP p P T B) : A = B := by
  have hp : 0 < p := by have := C.big; omega
  have oS := sm_on h1 h2 hS
  have oT := sm_on h2 h3 hT
  have oA := sm_on oS h3 hA
  have oB := sm_on h1 oT hB
  -- opposite ones
  by_cases ha : S = .O
  · subst ha
    have hA' : A = R := hA
    have hQ := sm_O h1 h2 hS
    subst hQ
    have h4 := C.canc h3 (ng_on hp h1) (sm_symm hT)
    rw [ng_ng h1] at h4
    exact hA'.trans (C.one h1 oT (sm_symm h4) hB)
  by_cases hb : T = .O
  · subst hb
    have hR := sm_O h2 h3 hT
    subst hR
    have h4 := C.canc h1 h2 hS
    have hB' : B = P := C.one h1 (on_O (b := b)) hB (by cases P <;> rfl)
    exact (C.one oS (ng_on hp h2) hA h4).trans hB'.symm
  by_cases hc : A = .O
  · subst hc
    have hR := sm_O oS h3 hA
    subst hR
    have h4 := sm_negs oS (ng_on hp h2) h1 (C.canc h1 h2 hS)
    rw [ng_ng h2] at h4
    have h5 : T = ng p P := C.one h2 (ng_on hp oS) hT (sm_symm h4)
    subst h5
    exact C.one h1 (ng_on hp h1) (sm_ng h1) hB
  by_cases hd : B = .O
  · subst hd
    have h4 := sm_O h1 oT hB
    have h5 := C.canc h3 h2 (sm_symm hT)
    have h6 := sm_negs oT (ng_on hp h2) h3 h5
    rw [ng_ng h2, h4, ng_ng h1] at h6
    have h7 : S = ng p R := C.one h1 h2 hS h6
    subst h7
    exact C.one (ng_on hp h3) h3 hA (sm_symm (sm_ng h3))
  cases P with
  | O => cases hS; exact (C.one h2 h3 hA hT).trans hB.symm
  | A x1 y1 =>
  cases Q with
  | O => cases hS; cases hT; exact C.one h1 h3 hA hB
  | A x2 y2 =>
  cases R with
  | O =>
    cases hT
    have hA' : A = S := C.one oS (on_O (b := b)) hA (by cases S <;> rfl)
    exact hA'.trans (C.one h1 h2 hS hB)
  | A x3 y3 =>
  rcases hS with ⟨_, _, h⟩ | ⟨hn1, l, hl, xS, yS, rfl, hxS, hyS, s1, s2⟩
  · exact absurd h ha
  rcases hT with ⟨_, _, h⟩ | ⟨hn2, m, hm, xT, yT, rfl, hxT, hyT, t1, t2⟩
  · exact absurd h hb
  have hA0 := hA
  have hB0 := hB
  rcases hA with ⟨_, _, h⟩ | ⟨hn3, n, hn, xA, yA, rfl, hxA, hyA, a1, a2⟩
  · exact absurd h hc
  rcases hB with ⟨_, _, h⟩ | ⟨hn4, t, ht, xB, yB, rfl, hxB, hyB, b1, b2⟩
  · exact absurd h hd
  have nS := opp_no oS h3 hn3
  have nT := opp_no h1 oT hn4
  by_cases hlm : (p : Int) ∣ l - m
  · have g2 : (p : Int) ∣ l * (2 * y2 + l * (x1 - x2)) - ((x1 : Int) ^ 2 + x1 * x2 + x2 ^ 2 - 3) := lc2 1 (-l) hl.2 hl.1 (by grind)
    have g4 : (p : Int) ∣ m * (2 * y2 - m * (x2 - x3)) - ((x2 : Int) ^ 2 + x2 * x3 + x3 ^ 2 - 3) := lc2 1 m hm.2 hm.1 (by grind)
    have hz : (p : Int) ∣ ((x1 : Int) - x3) * (l ^ 2 - x1 - x2 - x3) := lc3 1 (-1) (-(2 * y2) + (l + m) * (x2 - x3)) g2 g4 hlm (by grind)
    have hPR : (x1 = x3 ∧ y1 = y3) := by
      rcases C.pr.mulI hz with h | h
      · refine ⟨eq_of_dvd h1.1 h3.1 h, eq_of_dvd h1.2.1 h3.2.1 ?_⟩
        have h5 := lc3 1 1 (-(x2 - x3)) hl.1 hm.1 hlm rfl
        exact lc2 1 l h5 h (by grind)
      · exfalso
        refine nS ⟨lc2 1 1 s1 h (by grind), ?_⟩
        have h5 := lc4 1 (-1) (-1) (-l) s2 hl.1 hm.1 s1 rfl
        exact lc3 1 (-l) (x2 - x3) h5 h hlm (by grind)
    obtain ⟨rfl, rfl⟩ := hPR
    have h6 : (Pt.A xS yS) = .A xT yT := by
      have e : SmP p (.A x1 y1) (.A x2 y2) (.A xS yS) := Or.inr ⟨hn1, l, hl, xS, yS, rfl, hxS, hyS, s1, s2⟩
      have f : SmP p (.A x2 y2) (.A x1 y1) (.A xT yT) := Or.inr ⟨hn2, m, hm, xT, yT, rfl, hxT, hyT, t1, t2⟩
      exact C.one h1 h2 e (sm_symm f)
    rw [← h6] at hB0
    exact C.one oS h1 hA0 (sm_symm hB0)
  · obtain ⟨e1, e2⟩ := C.assoc_gen hl hm s1 s2 t1 t2 hn ht nS nT hlm a1 a2 b1 b2
    rw [eq_of_dvd hxA hxB e1, eq_of_dvd hyA hyB e2]
end
/-- The sum, as a function. -/
noncomputable def sm (p : Nat) (P Q : Pt) : Pt := open Classical in if h : ∃ R, SmP p P Q R then Classical.choose h else .O
section
variable {p b : Nat} (C : Cv p b)
include C
theorem Cv.sm_is {P Q R : Pt} (h1 : onP p b P) (h2 : onP p b Q) (h : SmP p P Q R) : sm p P Q = R := by
  have hx : ∃ R, SmP p P Q R := ⟨R, h⟩
  unfold sm
  rw [dif_pos hx]
  exact C.one h1 h2 (Classical.choose_spec hx) h
theorem Cv.sm_sm {P Q : Pt} (h1 : onP p b P) (h2 : onP p b Q) : SmP p P Q (sm p P Q) := by
  obtain ⟨R, h⟩ := C.ex h1 h2
  rw [C.sm_is h1 h2 h]
  exact h
theorem Cv.son {P Q : Pt} (h1 : onP p b P) (h2 : onP p b Q) : onP p b (sm p P Q) := sm_on h1 h2 (C.sm_sm h1 h2)
theorem Cv.comm {P Q : Pt} (h1 : onP p b P) (h2 : onP p b Q) : sm p P Q = sm p Q P := (C.sm_is h1 h2 (sm_symm (C.sm_sm h2 h1)))
theorem Cv.ass {P Q R : Pt} (h1 : onP p b P) (h2 : onP p b Q) (h3 : onP p b R) : sm p (sm p P Q) R = sm p P (sm p Q R) :=
  C.assoc h1 h2 h3 (C.sm_sm h1 h2) (C.sm_sm h2 h3) (C.sm_sm (C.son h1 h2) h3) (C.sm_sm h1 (C.son h2 h3))
theorem Cv.zl {P : Pt} (h : onP p b P) : sm p .O P = P := C.sm_is trivial h rfl
theorem Cv.zr {P : Pt} (h : onP p b P) : sm p P .O = P := by rw [C.comm h (on_O (b := b)), C.zl h]
theorem Cv.neg {P : Pt} (h : onP p b P) : sm p P (ng p P) = .O := C.sm_is h (ng_on (by have := C.big; omega) h) (sm_ng h)
end
/-- A point k times. -/
noncomputable def ml (p : Nat) : Nat → Pt → Pt
  | 0, _ => .O
  | k + 1, P => sm p (ml p k P) P
section
variable {p b : Nat} (C : Cv p b)
include C
theorem Cv.mon {P : Pt} (h : onP p b P) (k : Nat) : onP p b (ml p k P) := by
  induction k with
  | zero => trivial
  | succ k ih => exact C.son ih h
theorem Cv.madd {P : Pt} (h : onP p b P) (j k : Nat) : ml p (j + k) P = sm p (ml p j P) (ml p k P) := by
  induction k with
  | zero => exact (C.zr (C.mon h j)).symm
  | succ k ih =>
    have e : ml p (j + (k + 1)) P = sm p (ml p (j + k) P) P := rfl
    rw [e, ih, C.ass (C.mon h j) (C.mon h k) h]
    rfl
theorem Cv.mone {P : Pt} (h : onP p b P) : ml p 1 P = P := C.zl h
end
end Go.Proofs.YtmngdaolgdhgmaaGreatDoor
