import Derived.Test.YtgkbbcoagnilgabDoorBase
namespace Go.Proofs.YtgkbbcoagnilgabDoor
open Go.RowKit

/-- How two whole numbers stand to each other. -/
def cmp3 (a b : Int) : Int := if a < b then -1 else if b < a then 1 else 0

set_option maxHeartbeats 400000 in
theorem isNaN_any (a : Int) (w : World) : Calls Tryd.prog 53 #[.int .i64 a] w fun e w' => e = .returned (.bool false) ∧ w' = w := by
  go_enter Tryd.func53, Tryd.ntmps53
  go_wp2
  go_ret
  exact ⟨by simp, rfl⟩

set_option maxHeartbeats 400000 in
theorem isNaN64_any (a : Int) (w : World) : Calls Tryd.prog 84 #[.int .i64 a] w fun e w' => e = .returned (.bool false) ∧ w' = w := by
  go_enter Tryd.func84, Tryd.ntmps84
  go_wp2
  go_ret
  exact ⟨by simp, rfl⟩

set_option maxHeartbeats 400000 in
theorem cmpInt_any (a b : Int) (w : World) : Calls Tryd.prog 29 #[.int .i64 a, .int .i64 b] w fun e w' => e = .returned (.int .i64 (cmp3 a b)) ∧ w' = w := by
  have h : (a < b ∧ Hid (cmp3 a b = -1)) ∨ (¬ a < b ∧ b < a ∧ Hid (cmp3 a b = 1)) ∨ (¬ a < b ∧ ¬ b < a ∧ Hid (cmp3 a b = 0)) := by
    unfold cmp3
    by_cases h1 : a < b
    · exact .inl ⟨h1, by show _ = _; rw [if_pos h1]⟩
    · by_cases h2 : b < a
      · exact .inr (.inl ⟨h1, h2, by show _ = _; rw [if_neg h1, if_pos h2]⟩)
      · exact .inr (.inr ⟨h1, h2, by show _ = _; rw [if_neg h1, if_neg h2]⟩)
  rcases h with ⟨h1, H⟩ | ⟨h1, h2, H⟩ | ⟨h1, h2, H⟩
  all_goals
    go_enter Tryd.func29, Tryd.ntmps29
    go_wp2_with fail
    refine (isNaN_any a w).mono ?_
    rintro e w' ⟨rfl, rfl⟩
    go_wp2_with fail
    refine (isNaN_any b _).mono ?_
    rintro e w' ⟨rfl, rfl⟩
    go_wp2
    go_ret
    rw [H.out]
    exact ⟨rfl, rfl⟩

set_option maxHeartbeats 400000 in
theorem cmpInt64_any (a b : Int) (w : World) : Calls Tryd.prog 54 #[.int .i64 a, .int .i64 b] w fun e w' => e = .returned (.int .i64 (cmp3 a b)) ∧ w' = w := by
  have h : (a < b ∧ Hid (cmp3 a b = -1)) ∨ (¬ a < b ∧ b < a ∧ Hid (cmp3 a b = 1)) ∨ (¬ a < b ∧ ¬ b < a ∧ Hid (cmp3 a b = 0)) := by
    unfold cmp3
    by_cases h1 : a < b
    · exact .inl ⟨h1, by show _ = _; rw [if_pos h1]⟩
    · by_cases h2 : b < a
      · exact .inr (.inl ⟨h1, h2, by show _ = _; rw [if_neg h1, if_pos h2]⟩)
      · exact .inr (.inr ⟨h1, h2, by show _ = _; rw [if_neg h1, if_neg h2]⟩)
  rcases h with ⟨h1, H⟩ | ⟨h1, h2, H⟩ | ⟨h1, h2, H⟩
  all_goals
    go_enter Tryd.func54, Tryd.ntmps54
    go_wp2_with fail
    refine (isNaN64_any a w).mono ?_
    rintro e w' ⟨rfl, rfl⟩
    go_wp2_with fail
    refine (isNaN64_any b _).mono ?_
    rintro e w' ⟨rfl, rfl⟩
    go_wp2
    go_ret
    rw [H.out]
    exact ⟨rfl, rfl⟩

/-- The sign of a number: of its minus and its digits. -/
def sgn (m : Bool) (z : List UInt8) : Int := if z = [] then 0 else if m then -1 else 1

set_option maxHeartbeats 400000 in
theorem sign_any (m p : Bool) (z d : List UInt8) (o : Int) (w : World) :
    Calls Tryd.prog 28 #[.agg #[.bool m, .string ⟨z.toArray⟩, .int .i64 o, .bool p, .string ⟨d.toArray⟩]] w fun e w' => e = .returned (.int .i64 (sgn m z)) ∧ Below w.heap.size w w' := by
  by_cases hz : z = []
  · have hz' : z.isEmpty = true := by subst hz; rfl
    have H : Hid (sgn m z = 0) := by show _ = _; unfold sgn; rw [if_pos hz]
    clear hz
    go_enter Tryd.func28, Tryd.ntmps28
    go_wp2
    go_ret
    rw [H.out]
    refine ⟨rfl, ?_⟩
    (repeat' (first | with_reducible assumption | with_reducible exact Below.refl _ _ | with_reducible exact Nat.le_refl _ | with_reducible refine Below.setCell ?_ ?_ _ | with_reducible refine Below.alloc ?_ ?_ _ | with_reducible apply Below.drew | with_reducible apply below_drewN | omega | (simp; done) | (simp; omega)))
  · have hz' : z.isEmpty = false := by simpa using hz
    cases m
    · have H : Hid (sgn false z = 1) := by show _ = _; unfold sgn; rw [if_neg hz]; rfl
      clear hz
      go_enter Tryd.func28, Tryd.ntmps28
      go_wp2
      go_ret
      rw [H.out]
      refine ⟨rfl, ?_⟩
      (repeat' (first | with_reducible assumption | with_reducible exact Below.refl _ _ | with_reducible exact Nat.le_refl _ | with_reducible refine Below.setCell ?_ ?_ _ | with_reducible refine Below.alloc ?_ ?_ _ | with_reducible apply Below.drew | with_reducible apply below_drewN | omega | (simp; done) | (simp; omega)))
    · have H : Hid (sgn true z = -1) := by show _ = _; unfold sgn; rw [if_neg hz]; rfl
      clear hz
      go_enter Tryd.func28, Tryd.ntmps28
      go_wp2
      go_ret
      rw [H.out]
      refine ⟨rfl, ?_⟩
      (repeat' (first | with_reducible assumption | with_reducible exact Below.refl _ _ | with_reducible exact Nat.le_refl _ | with_reducible refine Below.setCell ?_ ?_ _ | with_reducible refine Below.alloc ?_ ?_ _ | with_reducible apply Below.drew | with_reducible apply below_drewN | omega | (simp; done) | (simp; omega)))

end Go.Proofs.YtgkbbcoagnilgabDoor
