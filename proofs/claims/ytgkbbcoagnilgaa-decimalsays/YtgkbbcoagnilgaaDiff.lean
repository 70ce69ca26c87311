import Derived.Test.YtgkbbcoagnilgaaCmp
import Derived.Deep.CutRange
namespace Go.Proofs.Ytgkbbcoagnilgaa
open Go.RowKit

/-- A power's digit at a place, counted from its end, with its sign. -/
def sd (m : Bool) (d : List UInt8) (k : Nat) : Int :=
  if d.length ≤ k then 0 else if m then -(((d.getD (d.length - 1 - k) 48).toNat : Int) - 48) else ((d.getD (d.length - 1 - k) 48).toNat : Int) - 48

def allD (d : List UInt8) : Prop := ∀ c ∈ d, isD c = true

theorem isD_bd {c : UInt8} (h : isD c = true) : 48 ≤ c.toNat ∧ c.toNat ≤ 57 := by
  unfold isD at h; simp at h; exact h

theorem sd_bd (m : Bool) (d : List UInt8) (k : Nat) (h : allD d) : -9 ≤ sd m d k ∧ sd m d k ≤ 9 := by
  unfold sd
  split
  · omega
  · have hj : d.length - 1 - k < d.length := by omega
    have e : d.getD (d.length - 1 - k) 48 = d[d.length - 1 - k] := by simp [List.getD_eq_getElem?_getD, hj]
    have := isD_bd (h _ (List.getElem_mem hj))
    rw [e]
    split <;> omega

end Go.Proofs.Ytgkbbcoagnilgaa
