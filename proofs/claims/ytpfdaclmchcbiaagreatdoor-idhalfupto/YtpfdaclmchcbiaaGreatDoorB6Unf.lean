import Derived.Test.YtpfdaclmchcbiaaGreatDoorB6First
namespace Go.Proofs.YtpfdaclmchcbiaaGreatDoor.B64
open Go.RowKit
set_option maxRecDepth 100000

/-- Without one '=' at the end. -/
def cut1 (l : List UInt8) : List UInt8 := if l.getLast? = some 61 then l.dropLast else l

theorem last_eq (l : List UInt8) (h : 1 ≤ l.length) : (((⟨l.toArray⟩ : ByteArray).extract (l.length - 1) l.length).toList == [61]) = decide (l.getLast? = some 61) := by
  have hne : l ≠ [] := by intro e; subst e; simp at h
  obtain ⟨m, x, rfl⟩ : ∃ m x, l = m ++ [x] := ⟨l.dropLast, l.getLast hne, (List.dropLast_concat_getLast hne).symm⟩
  rw [Lib.extract_toList]
  show (((m ++ [x]).drop ((m ++ [x]).length - 1)).take ((m ++ [x]).length - ((m ++ [x]).length - 1)) == [61]) = _
  have e2 : (m ++ [x]).length - ((m ++ [x]).length - 1) = 1 := by simp
  have e3 : (m ++ [x]).length - 1 = m.length := by simp
  rw [e2, e3, List.drop_left]
  by_cases hc : x = 61 <;> simp [hc]

end Go.Proofs.YtpfdaclmchcbiaaGreatDoor.B64