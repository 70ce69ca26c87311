import Derived.Test.YtgkbbcoagnilgaaCut2
namespace Go.Proofs.Ytgkbbcoagnilgaa
open Go.RowKit

/-- Without the noughts at its beginning; without those at its end. -/
def tl (l : List UInt8) : List UInt8 := l.dropWhile fun c => c == 48
def tr (l : List UInt8) : List UInt8 := (tl l.reverse).reverse

theorem eq48 (x : UInt8) : ((x.toNat : Int) == 48) = (x == 48) := by
  rw [u8_eq48]
  by_cases h : x = 48 <;> simp [h]

theorem tl_len (l : List UInt8) : (tl l).length ≤ l.length := by
  unfold tl
  induction l with
  | nil => simp
  | cons x y ih => rw [List.dropWhile_cons]; split <;> simp <;> omega

theorem tr_snoc (y : List UInt8) (x : UInt8) : tr (y ++ [x]) = if (x == 48) = true then tr y else y ++ [x] := by
  unfold tr tl
  rw [List.reverse_append]
  show (List.dropWhile _ (x :: y.reverse)).reverse = _
  rw [List.dropWhile_cons]
  split <;> simp

theorem sufC (x : UInt8) (y : List UInt8) : (⟨(x :: y).toArray⟩ : ByteArray).extract 1 (y.length + 1) = ⟨y.toArray⟩ := by
  have := suf1 (x :: y)
  simpa using this

/-- The length of a text as the model's value. -/
def sLen : Value → Nat
  | .string b => b.size
  | _ => 0
theorem sLen_mk (m : List UInt8) : sLen (.string ⟨m.toArray⟩) = m.length := by show m.toArray.size = _; simp

theorem tl_nil : tl [] = [] := rfl
theorem tr_nil : tr [] = [] := rfl

end Go.Proofs.Ytgkbbcoagnilgaa
