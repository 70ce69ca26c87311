import Derived.Test.YtmngdaolgdhgmaaGreatDoorCF
import Derived.Test.YtmngdaolgdhgmaaGreatDoorCP
namespace Go.Proofs.YtmngdaolgdhgmaaGreatDoor
open Go.RowKit

/-- The sum of two ratios, as the program reckons it. -/
def plusU (p _b x1 _y1 z1 x2 _y2 z2 : Nat) : Nat := fS p (fM p x1 x2) (fM p z1 z2) * 3
def plusW (p b x1 _y1 z1 x2 _y2 z2 : Nat) : Nat := fS p (b * fA p (x1 * z2) (z1 * x2)) (fM p x1 x2 + fM p z1 z2 * 3) * 3
def plusM (p b x1 y1 z1 x2 y2 z2 : Nat) : Nat := fM p y1 y2 + fS p (b * fM p z1 z2) (fA p (x1 * z2) (z1 * x2)) * 3
def plusN (p b x1 y1 z1 x2 y2 z2 : Nat) : Nat := fS p (fM p y1 y2) (fS p (b * fM p z1 z2) (fA p (x1 * z2) (z1 * x2)) * 3)
def plusX (p b x1 y1 z1 x2 y2 z2 : Nat) : Nat := fS p (fA p (x1 * y2) (y1 * x2) * plusN p b x1 y1 z1 x2 y2 z2) (fA p (y1 * z2) (z1 * y2) * plusW p b x1 y1 z1 x2 y2 z2)
def plusY (p b x1 y1 z1 x2 y2 z2 : Nat) : Nat := fA p (plusM p b x1 y1 z1 x2 y2 z2 * plusN p b x1 y1 z1 x2 y2 z2) (plusU p b x1 y1 z1 x2 y2 z2 * plusW p b x1 y1 z1 x2 y2 z2)
def plusZ (p b x1 y1 z1 x2 y2 z2 : Nat) : Nat := fA p (fA p (y1 * z2) (z1 * y2) * plusM p b x1 y1 z1 x2 y2 z2) (fA p (x1 * y2) (y1 * x2) * plusU p b x1 y1 z1 x2 y2 z2)
theorem fA_cg (p a b : Nat) : (p : Int) ∣ (fA p a b : Int) - ((a : Int) + b) := by
  have h := dvd_mod p (a + b)
  rwa [Int.natCast_add] at h
theorem fM_cg (p a b : Nat) : (p : Int) ∣ (fM p a b : Int) - ((a : Int) * b) := by
  have h := dvd_mod p (a * b)
  rwa [Int.natCast_mul] at h
theorem fS_cg {p : Nat} (hp : Pm p) (a b : Nat) : (p : Int) ∣ (fS p a b : Int) - ((a : Int) - b) := by
  have h1 := dvd_mod p a
  have h2 := dvd_mod p b
  have h3 := Nat.mod_lt b (show 0 < p by have := hp.1; omega)
  have h4 : (p : Int) ∣ (fS p a b : Int) - (((a % p : Nat) : Int) - ((b % p : Nat) : Int)) := by
    unfold fS lessV
    split
    · exact ⟨1, by omega⟩
    · exact ⟨0, by omega⟩
  exact lc3 1 1 (-1) h4 h1 h2 (by omega)
theorem cg_nat {p : Int} {a : Nat} : p ∣ (a : Int) - (a : Int) := ⟨0, by omega⟩
theorem cg_natmul {p x y : Int} {a b : Nat} (h1 : p ∣ (a : Int) - x) (h2 : p ∣ (b : Int) - y) : p ∣ ((a * b : Nat) : Int) - x * y := by rw [Int.natCast_mul]; exact cg_mul h1 h2
theorem cg_natadd {p x y : Int} {a b : Nat} (h1 : p ∣ (a : Int) - x) (h2 : p ∣ (b : Int) - y) : p ∣ ((a + b : Nat) : Int) - (x + y) := by rw [Int.natCast_add]; exact cg_add h1 h2
theorem cg_nat3 {p x : Int} {a : Nat} (h1 : p ∣ (a : Int) - x) : p ∣ ((a * 3 : Nat) : Int) - 3 * x := lc1 3 h1 (by omega)
theorem cg_fA {p a b : Nat} {x y : Int} (h1 : (p : Int) ∣ (a : Int) - x) (h2 : (p : Int) ∣ (b : Int) - y) : (p : Int) ∣ (fA p a b : Int) - (x + y) := cg_tr (fA_cg p a b) (cg_add h1 h2)
theorem cg_fM {p a b : Nat} {x y : Int} (h1 : (p : Int) ∣ (a : Int) - x) (h2 : (p : Int) ∣ (b : Int) - y) : (p : Int) ∣ (fM p a b : Int) - x * y := cg_tr (fM_cg p a b) (cg_mul h1 h2)
theorem cg_fS {p a b : Nat} {x y : Int} (hp : Pm p) (h1 : (p : Int) ∣ (a : Int) - x) (h2 : (p : Int) ∣ (b : Int) - y) : (p : Int) ∣ (fS p a b : Int) - (x - y) := cg_tr (fS_cg hp a b) (cg_sub h1 h2)
theorem plusX_cg {p : Nat} (hp : Pm p) (b x1 y1 z1 x2 y2 z2 : Nat) : (p : Int) ∣ (plusX p b x1 y1 z1 x2 y2 z2 : Int) - pX b x1 y1 z1 x2 y2 z2 := by
  unfold plusX plusN plusW pX
  repeat' first | with_reducible exact cg_nat | with_reducible exact hp | with_reducible apply cg_fS | with_reducible apply cg_fA | with_reducible apply cg_fM | with_reducible apply cg_nat3 | with_reducible apply cg_natmul | with_reducible apply cg_natadd
theorem plusY_cg {p : Nat} (hp : Pm p) (b x1 y1 z1 x2 y2 z2 : Nat) : (p : Int) ∣ (plusY p b x1 y1 z1 x2 y2 z2 : Int) - pY b x1 y1 z1 x2 y2 z2 := by
  unfold plusY plusM plusN plusU plusW pY
  repeat' first | with_reducible exact cg_nat | with_reducible exact hp | with_reducible apply cg_fS | with_reducible apply cg_fA | with_reducible apply cg_fM | with_reducible apply cg_nat3 | with_reducible apply cg_natmul | with_reducible apply cg_natadd
theorem plusZ_cg {p : Nat} (hp : Pm p) (b x1 y1 z1 x2 y2 z2 : Nat) : (p : Int) ∣ (plusZ p b x1 y1 z1 x2 y2 z2 : Int) - pZ b x1 y1 z1 x2 y2 z2 := by
  unfold plusZ plusM plusU pZ
  repeat' first | with_reducible exact cg_nat | with_reducible exact hp | with_reducible apply cg_fS | with_reducible apply cg_fA | with_reducible apply cg_fM | with_reducible apply cg_nat3 | with_reducible apply cg_natmul | with_reducible apply cg_natadd
/-- The program's sum of ratios stands for the sum of the points. -/
theorem Cv.plusR {p b x1 y1 z1 x2 y2 z2 : Nat} {P Q : Pt} (C : Cv p b) (hp : Pm p) (hP : Rp p x1 y1 z1 P) (hQ : Rp p x2 y2 z2 Q) (oP : onP p b P) (oQ : onP p b Q) : Rp p (plusX p b x1 y1 z1 x2 y2 z2) (plusY p b x1 y1 z1 x2 y2 z2) (plusZ p b x1 y1 z1 x2 y2 z2) (sm p P Q) :=
  C.plus hP hQ oP oQ (fS_lt hp _ _) (fA_lt hp _ _) (fA_lt hp _ _) (plusX_cg hp b x1 y1 z1 x2 y2 z2) (plusY_cg hp b x1 y1 z1 x2 y2 z2) (plusZ_cg hp b x1 y1 z1 x2 y2 z2)
end Go.Proofs.YtmngdaolgdhgmaaGreatDoor
