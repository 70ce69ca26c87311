import Derived.Test.YtgkbbcoagnilgaaPow
namespace Go.Proofs.Ytgkbbcoagnilgaa
open Go.RowKit

def cutL (l : List UInt8) : List UInt8 := if l.head? = some 45 then l.tail else l
def badW (g : List UInt8) : Bool := g.isEmpty || (decide (1 < g.length) && decide (g.head? = some 48))

abbrev PartsM := Bool × List UInt8 × List UInt8 × Bool × List UInt8

/-- What cut tells of a text behind its sign: its first digits, and what follows. -/
def pcut4 (m : Bool) (g f : List UInt8) (p : Bool) (d r : List UInt8) (ok : Bool) : Option PartsM :=
  if ok = false then none else if r = [] then some (m, g, f, p, d) else none
def pcut3 (m : Bool) (g f r : List UInt8) (ok : Bool) : Option PartsM :=
  if ok = false then none else pcut4 m g f (cutP r).1 (cutP r).2.1 (cutP r).2.2.1 (cutP r).2.2.2
def pcut2 (m : Bool) (g r : List UInt8) : Option PartsM :=
  if badW g = true then none else pcut3 m g (cutF r).1 (cutF r).2.1 (cutF r).2.2
def pcut1 (m : Bool) (l : List UInt8) : Option PartsM := pcut2 m (digs l) (rst l)

/-- The parts of a number's text, or none. -/
def pcut (l : List UInt8) : Option PartsM := pcut1 (decide (l.head? = some 45)) (cutL l)

def pvals : Option PartsM → Value
  | none => .agg #[.bool false, .string ⟨#[]⟩, .string ⟨#[]⟩, .bool false, .string ⟨#[]⟩]
  | some (m, g, f, p, d) => .agg #[.bool m, .string ⟨g.toArray⟩, .string ⟨f.toArray⟩, .bool p, .string ⟨d.toArray⟩]

theorem nd_len (l : List UInt8) : (digs l).length ≤ l.length ∧ (rst l).length ≤ l.length := by
  have := nd_le l
  rw [digs_length]; unfold rst; rw [List.length_drop]; omega

theorem cutF_len (l : List UInt8) : (cutF l).2.1.length ≤ l.length := by
  unfold cutF
  split
  · have := (nd_len l.tail).2
    rw [List.length_tail] at this
    show (rst l.tail).length ≤ _
    omega
  · exact Nat.le_refl _

theorem u8_eq48 (x : UInt8) : ((x.toNat : Int) == 48) = decide (x = 48) := by
  by_cases h : x = 48
  · subst h; rfl
  · have : x.toNat ≠ 48 := fun e => h (UInt8.toNat_inj.1 e)
    simp [h]; omega

theorem cutL_len (l : List UInt8) : (cutL l).length ≤ l.length := by unfold cutL; split <;> simp

end Go.Proofs.Ytgkbbcoagnilgaa
