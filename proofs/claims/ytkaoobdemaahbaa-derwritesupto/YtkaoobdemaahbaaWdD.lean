import Derived.Test.YtkaoobdemaahbaaWdC
namespace Go.Proofs.Ytkaoobdemaahbaa
open Go.RowKit

/-- A nothing. -/
def five : E := ⟨5, [], 0⟩
theorem bh_five (d : Nat) (r : List E) : bh d (five :: r) = some r := bh_prim (by decide) (by decide)
theorem bks_fives (d : Nat) : ∀ m : Nat, bks (bh d) m (List.replicate m five) = some []
  | 0 => rfl
  | m + 1 => by
    rw [List.replicate_succ]
    simp only [bks, bh_five]
    exact bks_fives d m
theorem bks_fewer (d : Nat) : ∀ m : Nat, bks (bh (d + 1)) (m + 1) (List.replicate m five) = none
  | 0 => by simp [bks, bh]
  | m + 1 => by
    rw [List.replicate_succ]
    rw [bks]
    simp only [bh_five]
    exact bks_fewer d m
theorem sound_seq (m : Nat) : sound ⟨48, [], (m : Int)⟩ = true := by
  have e : sound ⟨48, [], (m : Int)⟩ = (isTg 48 && right 48 [] && (if con 48 then (([] : List UInt8) == []) && decide (0 ≤ (m : Int)) else ((m : Int) == 0))) := rfl
  rw [e, decide_eq_true (by omega : (0 : Int) ≤ (m : Int)), if_pos (by decide)]
  decide
/-- A sequence of so many nothings is a list that Shaped takes. -/
theorem shaped_fives (m : Nat) : shaped (⟨48, [], (m : Int)⟩ :: List.replicate m five) = true := by
  unfold shaped
  rw [bh_con (sound_seq m)]
  show (bks (bh 31) ((m : Int)).toNat (List.replicate m five) == some []) = true
  rw [Int.toNat_natCast, bks_fives]
  rfl
/-- One that says one more than there are is not. -/
theorem shaped_fewer (m : Nat) : shaped (⟨48, [], ((m + 1 : Nat) : Int)⟩ :: List.replicate m five) = false := by
  unfold shaped
  rw [bh_con (sound_seq (m + 1))]
  show (bks (bh 31) (((m + 1 : Nat) : Int)).toNat (List.replicate m five) == some []) = false
  rw [Int.toNat_natCast, bks_fewer 30]
  rfl

end Go.Proofs.Ytkaoobdemaahbaa
