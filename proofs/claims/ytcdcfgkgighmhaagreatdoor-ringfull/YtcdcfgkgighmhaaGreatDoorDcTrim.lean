import Derived.Test.YtcdcfgkgighmhaaGreatDoorDcCut2
namespace Go.Proofs.YtcdcfgkgighmhaaGreatDoor.Dec
open Go.RowKit

set_option maxHeartbeats 400000 in
theorem valid_any (l : List UInt8) (w : World) (hlen : l.length ≤ 281474976710656) :
    Calls Tryz.prog 96 #[.string ⟨l.toArray⟩] w fun e w' => e = .returned (.bool (pcut l).isSome) ∧ Below w.heap.size w w' := by
  have hc := fun w => cut_any l w hlen
  generalize pcut l = o at hc ⊢
  rcases o with _ | ⟨m, g, f, p, d⟩ <;> simp only [pvals, Option.isSome] at hc ⊢
  all_goals
    have Hc : Hid _ := hc
    clear hc
    go_enter Tryz.func96, Tryz.ntmps96
    go_wp2_with fail
    refine (Hc.out _).mono ?_
    rintro e w' ⟨rfl, hB⟩
    have hs := hB.size
    go_wp2
    go_ret
    refine ⟨rfl, ?_⟩
    (repeat' (first | with_reducible assumption | with_reducible exact Below.refl _ _ | with_reducible exact Nat.le_refl _ | with_reducible refine Below.setCell ?_ ?_ _ | with_reducible refine Below.alloc ?_ ?_ _ | with_reducible apply Below.drew | with_reducible apply below_drewN | omega | (simp; done) | (simp; omega)))

/-- Without the noughts at its beginning; without those at its end. -/
def tl (l : List UInt8) : List UInt8 := l.dropWhile fun c => c == 48
def tr (l : List UInt8) : List UInt8 := (tl l.reverse).reverse

theorem eq48 (x : UInt8) : ((x.toNat : Int) == 48) = (x == 48) := by
  rw [u8_eq48]
  by_cases h : x = 48 <;> simp [h]

theorem tl_len (l : List UInt8) : (tl l).length ≤ l.length := by
  unfold tl
  induction l with
  | nil => simp
  | cons x y ih => rw [List.dropWhile_cons]; split <;> simp <;> omega

theorem tr_snoc (y : List UInt8) (x : UInt8) : tr (y ++ [x]) = if (x == 48) = true then tr y else y ++ [x] := by
  unfold tr tl
  rw [List.reverse_append]
  show (List.dropWhile _ (x :: y.reverse)).reverse = _
  rw [List.dropWhile_cons]
  split <;> simp

theorem sufC (x : UInt8) (y : List UInt8) : (⟨(x :: y).toArray⟩ : ByteArray).extract 1 (y.length + 1) = ⟨y.toArray⟩ := by
  have := suf1 (x :: y)
  simpa using this

/-- The length of a text as the model's value. -/
def sLen : Value → Nat
  | .string b => b.size
  | _ => 0
theorem sLen_mk (m : List UInt8) : sLen (.string ⟨m.toArray⟩) = m.length := by show m.toArray.size = _; simp

theorem tl_nil : tl [] = [] := rfl
theorem tr_nil : tr [] = [] := rfl

end Go.Proofs.YtcdcfgkgighmhaaGreatDoor.Dec