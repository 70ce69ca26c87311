import Derived.Test.YtgkbbcoagnilgaaRefAp
import Derived.Test.YtgkbbcoagnilgaaCompS
namespace Go.Proofs.Ytgkbbcoagnilgaa
open Go.RowKit

/-- What Size answers, where the powers say ap. -/
def sizeV (za zb : List UInt8) (ap : Int) : Int :=
  if za = [] then (if zb = [] then 0 else -1) else if zb = [] then 1 else if ap < 0 then -1 else if 0 < ap then 1 else Lib.compareBytes za zb

theorem cmpB_step (za zb : List UInt8) (i : Nat) (ha : i < za.length) (hb : i < zb.length) : Lib.compareBytes (za.drop i) (zb.drop i) = if za[i].toNat < zb[i].toNat then -1 else if zb[i].toNat < za[i].toNat then 1 else Lib.compareBytes (za.drop (i + 1)) (zb.drop (i + 1)) := by
  rw [List.drop_eq_getElem_cons ha, List.drop_eq_getElem_cons hb]
  rw [Lib.compareBytes]
  rfl

theorem cmpB_left (za zb : List UInt8) (i : Nat) (ha : za.length ≤ i) (hb : i < zb.length) : Lib.compareBytes (za.drop i) (zb.drop i) = -1 := by
  rw [List.drop_eq_nil_of_le ha, List.drop_eq_getElem_cons hb]
  rfl
theorem cmpB_right (za zb : List UInt8) (i : Nat) (ha : i < za.length) (hb : zb.length ≤ i) : Lib.compareBytes (za.drop i) (zb.drop i) = 1 := by
  rw [List.drop_eq_nil_of_le hb, List.drop_eq_getElem_cons ha]
  rfl
theorem cmpB_none (za zb : List UInt8) (i : Nat) (ha : za.length ≤ i) (hb : zb.length ≤ i) : Lib.compareBytes (za.drop i) (zb.drop i) = 0 := by
  rw [List.drop_eq_nil_of_le hb, List.drop_eq_nil_of_le ha]
  rfl

end Go.Proofs.Ytgkbbcoagnilgaa
