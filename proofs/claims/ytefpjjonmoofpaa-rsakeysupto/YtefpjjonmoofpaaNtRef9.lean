import Derived.Test.YtefpjjonmoofpaaNtRef8
namespace Go.Proofs.Ytefpjjonmoofpaa
open Go.RowKit

theorem shk_clamp (k : Int) : (if k < 0 then 0 else if 0 ≤ (131072 : Int) ∧ (131072 : Int) < k then 131072 else k) = ((shk k : Nat) : Int) := by
  unfold shk
  by_cases h : k < 0
  · rw [if_pos h, if_pos h]; rfl
  · rw [if_neg h, if_neg h]
    by_cases h2 : k ≤ 131072
    · rw [if_neg (fun h3 => by omega), if_pos h2]; omega
    · rw [if_pos ⟨by omega, by omega⟩, if_neg h2]; rfl
theorem shk_le (k : Int) : shk k ≤ 131072 := by unfold shk; split; omega; split <;> omega

end Go.Proofs.Ytefpjjonmoofpaa
