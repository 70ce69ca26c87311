import Derived.Test.YtcankapgjgonnaaDoorGw
import Derived.Test.YtcankapgjgonnaaDoorYZ
namespace Go.Proofs.YtcankapgjgonnaaDoor
open Go.RowKit Go.Shelf

theorem ats_of {v : List Nd} (h : shapedF v = true) (hl : v.length ≤ 100000000) : ∀ i, i < v.length → At v i := fun _ hi => at_of_w (shaped_sq h) hl hi

set_option maxRecDepth 100000 in
set_option maxHeartbeats 4000000 in
/-- The document's Behind, at every place of a well shaped value. -/
theorem rbehind_all (l : List Nd) (ao : Option Addr) (cap : Nat) (a : Int) (w : World) (h : NR w (.slice ao l.length cap) l ao cap) (hl : l.length ≤ 100000000) (hs : shapedF l = true) :
    Calls Tryd.prog 15 #[.slice ao l.length cap, .int .i64 a] w fun e w' => e = .returned (.int .i64 (behindF l a)) ∧ w' = w := by
  by_cases hin : 0 ≤ a ∧ a < l.length
  · obtain ⟨i, rfl⟩ : ∃ i : Nat, a = (i : Int) := ⟨a.toNat, by omega⟩
    have := rbehind_any_w l.length l ao cap i w h hl (ats_of hs hl) (by omega) (by omega)
    rwa [show behindF l (i : Int) = (bhN l i : Int) from by unfold behindF; rw [if_pos hin, Int.toNat_natCast]]
  · rw [show behindF l a = -1 from by unfold behindF; rw [if_neg hin]]
    clear h hs
    by_cases h0 : a < 0
    · have q0 : decide (a < 0) = true := decide_eq_true h0
      clear hin
      go_enter Tryd.func15, Tryd.ntmps15
      go_wp2
      go_ret
      exact ⟨rfl, rfl⟩
    · have q0 : decide (a < 0) = false := decide_eq_false h0
      have q1 : decide (a ≥ (l.length : Int)) = true := decide_eq_true (by omega)
      have q2 : decide ((l.length : Int) ≤ a) = true := q1
      clear hin
      go_enter Tryd.func15, Tryd.ntmps15
      go_wp2
      go_ret
      exact ⟨rfl, rfl⟩

set_option maxRecDepth 100000 in
set_option maxHeartbeats 4000000 in
/-- The document's Kids, at every place of a well shaped value. -/
theorem rkids_all (l : List Nd) (ao : Option Addr) (cap : Nat) (a : Int) (w : World) (h : NR w (.slice ao l.length cap) l ao cap) (hl : l.length ≤ 100000000) (hs : shapedF l = true) :
    Calls Tryd.prog 12 #[.slice ao l.length cap, .int .i64 a] w fun e w' => ∃ r, e = .returned r ∧ OI w.heap.size w w' r (kidsF l a) := by
  by_cases hin : 0 ≤ a ∧ a < l.length
  · obtain ⟨i, rfl⟩ : ∃ i : Nat, a = (i : Int) := ⟨a.toNat, by omega⟩
    exact rkids_any_w l ao cap i w h hl (ats_of hs hl) (by omega)
  · rw [show kidsF l a = [] from by unfold kidsF; rw [if_neg hin]]
    clear h hs
    by_cases h0 : a < 0
    · have q0 : decide (a < 0) = true := decide_eq_true h0
      clear hin
      go_enter Tryd.func12, Tryd.ntmps12
      go_wp2
      go_ret
      exact ⟨_, rfl, World.ownsRow_nil _ _ _ _, Below.refl _ _⟩
    · have q0 : decide (a < 0) = false := decide_eq_false h0
      have q1 : decide (a ≥ (l.length : Int)) = true := decide_eq_true (by omega)
      have q2 : decide ((l.length : Int) ≤ a) = true := q1
      clear hin
      go_enter Tryd.func12, Tryd.ntmps12
      go_wp2
      go_ret
      exact ⟨_, rfl, World.ownsRow_nil _ _ _ _, Below.refl _ _⟩

set_option maxRecDepth 100000 in
set_option maxHeartbeats 4000000 in
/-- The document's Member, at every place of a well shaped value. -/
theorem rmember_all (l : List Nd) (ao : Option Addr) (cap : Nat) (a : Int) (key : List UInt8) (w : World) (h : NR w (.slice ao l.length cap) l ao cap) (hl : l.length ≤ 100000000) (hs : shapedF l = true) :
    Calls Tryd.prog 13 #[.slice ao l.length cap, .int .i64 a, .string ⟨key.toArray⟩] w fun e w' => e = .returned (.int .i64 (memF l a key)) ∧ Below w.heap.size w w' := by
  by_cases hin : 0 ≤ a ∧ a < l.length
  · obtain ⟨i, rfl⟩ : ∃ i : Nat, a = (i : Int) := ⟨a.toNat, by omega⟩
    exact rmember_any_w l ao cap i key w h hl (ats_of hs hl) (by omega)
  · rw [show memF l a key = -1 from by unfold memF; rw [if_neg (fun h => hin ⟨h.1, h.2.1⟩)]]
    clear h hs
    by_cases h0 : a < 0
    · have q0 : decide (a < 0) = true := decide_eq_true h0
      clear hin
      go_enter Tryd.func13, Tryd.ntmps13
      go_wp2
      go_ret
      exact ⟨rfl, Below.refl _ _⟩
    · have q0 : decide (a < 0) = false := decide_eq_false h0
      have q1 : decide (a ≥ (l.length : Int)) = true := decide_eq_true (by omega)
      have q2 : decide ((l.length : Int) ≤ a) = true := q1
      clear hin
      go_enter Tryd.func13, Tryd.ntmps13
      go_wp2
      go_ret
      exact ⟨rfl, Below.refl _ _⟩

end Go.Proofs.YtcankapgjgonnaaDoor
