import Derived.Test.YtgkbbcoagnilgabDoorCmp
import Derived.Deep.CutRange
namespace Go.Proofs.YtgkbbcoagnilgabDoor
open Go.RowKit

/-- A power's digit at a place, counted from its end, with its sign. -/
def sd (m : Bool) (d : List UInt8) (k : Nat) : Int :=
  if d.length ≤ k then 0 else if m then -(((d.getD (d.length - 1 - k) 48).toNat : Int) - 48) else ((d.getD (d.length - 1 - k) 48).toNat : Int) - 48

def allD (d : List UInt8) : Prop := ∀ c ∈ d, isD c = true

theorem isD_bd {c : UInt8} (h : isD c = true) : 48 ≤ c.toNat ∧ c.toNat ≤ 57 := by
  unfold isD at h; simp at h; exact h

theorem sd_bd (m : Bool) (d : List UInt8) (k : Nat) (h : allD d) : -9 ≤ sd m d k ∧ sd m d k ≤ 9 := by
  unfold sd
  split
  · omega
  · have hj : d.length - 1 - k < d.length := by omega
    have e : d.getD (d.length - 1 - k) 48 = d[d.length - 1 - k] := by simp [List.getD_eq_getElem?_getD, hj]
    have := isD_bd (h _ (List.getElem_mem hj))
    rw [e]
    split <;> omega

/-- The block that a power is boxed into. -/
abbrev boxP (m : Bool) (d : List UInt8) : Obj := .cells #[.bool m, .string ⟨d.toArray⟩] 41

set_option maxHeartbeats 1000000 in
theorem digit_any (m : Bool) (d : List UInt8) (k : Nat) (w : World) (hd : allD d) (hlen : d.length ≤ 281474976710656) (hk : k ≤ 281474976710656) :
    Calls Tryd.prog 68 #[.agg #[.bool m, .string ⟨d.toArray⟩], .int .i64 k] w fun e w' => e = .returned (.int .i64 (sd m d k)) ∧ w' = w.alloc (boxP m d) := by
  by_cases h : d.length ≤ k
  · have H : Hid (sd m d k = 0) := by show _ = _; unfold sd; rw [if_pos h]
    clear hd
    go_enter Tryd.func68, Tryd.ntmps68
    go_wp2
    go_ret
    rw [H.out]
    exact ⟨rfl, rfl⟩
  · obtain ⟨j, hj⟩ : ∃ j, j = d.length - 1 - k := ⟨_, rfl⟩
    have hjl : j < d.length := by omega
    have hji : (d.length : Int) - 1 - (k : Int) = (j : Int) := by omega
    obtain ⟨c, hc⟩ : ∃ c, d[j] = c := ⟨_, rfl⟩
    have gx : (⟨d.toArray⟩ : ByteArray)[j]'(by show j < d.toArray.size; simpa using hjl) = c := hc
    have hcd : isD c = true := by rw [← hc]; exact hd _ (List.getElem_mem hjl)
    have hb1 := (isD_bd hcd).1
    have hb2 := (isD_bd hcd).2
    have eg : d.getD (d.length - 1 - k) 48 = c := by rw [← hj]; simp [List.getD_eq_getElem?_getD, hjl, hc]
    cases m
    · have H : Hid (sd false d k = (c.toNat : Int) - 48) := by show _ = _; unfold sd; rw [if_neg h, eg]; rfl
      clear hd hj hc hcd eg
      go_enter Tryd.func68, Tryd.ntmps68
      go_wp2
      go_ret
      rw [H.out]
      exact ⟨by go_num, rfl⟩
    · have H : Hid (sd true d k = -((c.toNat : Int) - 48)) := by show _ = _; unfold sd; rw [if_neg h, eg]; rfl
      clear hd hj hc hcd eg
      go_enter Tryd.func68, Tryd.ntmps68
      go_wp2
      go_ret
      rw [H.out]
      exact ⟨by go_num, rfl⟩

end Go.Proofs.YtgkbbcoagnilgabDoor
