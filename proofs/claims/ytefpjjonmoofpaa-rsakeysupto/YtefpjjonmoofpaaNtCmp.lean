import Derived.Test.YtefpjjonmoofpaaNtCpy
import Derived.Test.YtefpjjonmoofpaaNtTake
namespace Go.Proofs.Ytefpjjonmoofpaa
open Go.RowKit

/-- How two whole numbers stand to each other. -/
def cmp3 (a b : Int) : Int := if a < b then -1 else if b < a then 1 else 0

theorem cmp3_lt {a b : Int} (h : a < b) : cmp3 a b = -1 := if_pos h
theorem cmp3_gt {a b : Int} (h : b < a) : cmp3 a b = 1 := by unfold cmp3; rw [if_neg (by omega), if_pos h]
theorem cmp3_eq {a b : Int} (h : a = b) : cmp3 a b = 0 := by unfold cmp3; rw [if_neg (by omega), if_neg (by omega)]

theorem limb_lt {B : Nat} (hB : 0 < B) {X Y : List Nat} (hX : Sm B X) (k : Nat) (h1 : k < X.length) (h2 : k < Y.length) (hd : X.drop (k + 1) = Y.drop (k + 1)) (hl : X[k] < Y[k]) : nv B X < nv B Y := by
  have e1 := nv_split B X k (by omega)
  have e2 := nv_split B Y k (by omega)
  rw [List.drop_eq_getElem_cons h1, nv, hd] at e1
  rw [List.drop_eq_getElem_cons h2, nv] at e2
  have h3 := nv_lt hB (hX.take k)
  rw [List.length_take, Nat.min_eq_left (by omega)] at h3
  have h4 : B ^ k * (X[k] + B * nv B (Y.drop (k + 1)) + 1) ≤ B ^ k * (Y[k] + B * nv B (Y.drop (k + 1))) := Nat.mul_le_mul_left _ (by omega)
  rw [Nat.mul_add, Nat.mul_one] at h4
  omega

end Go.Proofs.Ytefpjjonmoofpaa
