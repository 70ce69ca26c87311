import Derived.Test.YtgkbbcoagnilgaaRows
import Derived.WalkKit
import Derived.WalkSpells
import Derived.WalkLawsBesides
import Derived.Deep.QuietTactic
import Derived.BigQuiet
import Derived.Lib.Bytealg
import Derived.Deep.RegionWith
import Derived.Laws.NewBlocks
import Derived.Laws.Alloc2
namespace Go.Proofs.Ytgkbbcoagnilgaa
open Go.RowKit

theorem below_drewN {B : Nat} {a w : World} (h : Below B a w) (q : Nat) : Below B a (w.drewN q) := ⟨h.os, h.tape, h.output, h.size, h.block⟩

/-- Is the byte a digit's sign? -/
def isD (c : UInt8) : Bool := decide (48 ≤ c.toNat) && decide (c.toNat ≤ 57)

/-- How many digits a text begins with; these; what follows them. -/
def nd (l : List UInt8) : Nat := l.findIdx fun c => !isD c
def digs (l : List UInt8) : List UInt8 := l.take (nd l)
def rst (l : List UInt8) : List UInt8 := l.drop (nd l)

theorem nd_le (l : List UInt8) : nd l ≤ l.length := List.findIdx_le_length

theorem nd_lt (l : List UInt8) (k : Nat) (hk : k ≤ nd l) (hlt : k < l.length) : k < nd l ↔ isD l[k] = true := by
  constructor
  · intro h
    have := List.not_of_lt_findIdx h
    simpa using this
  · intro h
    rcases Nat.lt_or_ge k (nd l) with h1 | h1
    · exact h1
    · exfalso
      have e : nd l = k := Nat.le_antisymm h1 hk
      have hl : List.findIdx (fun c => !isD c) l < l.length := by show nd l < _; omega
      have h2 := List.findIdx_getElem (p := fun c => !isD c) (w := hl)
      have e' : List.findIdx (fun c => !isD c) l = k := e
      simp only [e'] at h2
      rw [h] at h2
      cases h2

theorem digs_length (l : List UInt8) : (digs l).length = nd l := by
  unfold digs; rw [List.length_take]; have := nd_le l; omega

theorem pre_eq (l : List UInt8) (k : Nat) : (⟨l.toArray⟩ : ByteArray).extract 0 k = ⟨(l.take k).toArray⟩ := by
  rw [Lib.extract_eq]; simp

theorem suf_eq (l : List UInt8) (k : Nat) : (⟨l.toArray⟩ : ByteArray).extract k l.length = ⟨(l.drop k).toArray⟩ := by
  rw [Lib.extract_eq]
  simp only [ByteArray.mk.injEq]
  rw [List.take_of_length_le (by simp)]

theorem head_eq (l : List UInt8) (c : UInt8) (h : 1 ≤ l.length) : (((⟨l.toArray⟩ : ByteArray).extract 0 1).toList == [c]) = decide (l.head? = some c) := by
  obtain ⟨x, r, rfl⟩ : ∃ x r, l = x :: r := by
    cases l with
    | nil => simp at h
    | cons x r => exact ⟨x, r, rfl⟩
  rw [Lib.extract_toList]
  show (([x] : List UInt8) == [c]) = _
  by_cases hc : x = c <;> simp [hc]


end Go.Proofs.Ytgkbbcoagnilgaa
