import Derived.Test.YtbgooffhikchmaaDoorShZb
import Derived.Test.YtbgooffhikchmaaDoorShRefF
namespace Go.Proofs.YtbgooffhikchmaaDoor.Sha
open Go.RowKit
set_option maxRecDepth 100000

theorem take_getD (l : List UInt8) (k : Nat) (h : k < l.length) : l.take (k + 1) = l.take k ++ [l.getD k 0] := by
  rw [List.take_succ_eq_append_getElem h, List.getD_eq_getElem?_getD, List.getElem?_eq_getElem h]
  rfl
theorem take_msk (x : UInt8) (l : List UInt8) (k : Nat) (h : k < l.length) : (mskF x l).take (k + 1) = (mskF x l).take k ++ [l.getD k 0 ^^^ x] := by
  rw [List.take_succ_eq_append_getElem (by rw [mskF_length]; exact h)]
  simp [mskF, List.getElem?_eq_getElem h]

/-- The marks behind a list. -/
def mrk : List UInt8 := (List.range 200).map fun i => UInt8.ofNat (7 + i)
theorem mrk_length : mrk.length = 200 := by simp [mrk]
theorem mrk_take (k : Nat) (h : k < 200) : mrk.take (k + 1) = mrk.take k ++ [UInt8.ofNat (7 + k)] := by
  rw [List.take_succ_eq_append_getElem (by rw [mrk_length]; exact h)]
  simp [mrk]
end Go.Proofs.YtbgooffhikchmaaDoor.Sha