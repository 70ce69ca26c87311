import Derived.Test.YtkfchdmlemcjhaaRows
import Derived.WalkKit
import Derived.WalkSpells
import Derived.WalkLawsBesides
import Derived.Deep.QuietTactic
import Derived.BigQuiet
import Derived.Lib.Bytealg
import Derived.Deep.RegionWith
import Derived.Laws.NewBlocks
import Derived.Laws.Alloc2
import Derived.Laws.ResultCell
import Derived.Lib.ParseIntB
namespace Go.Proofs.Ytkfchdmlemcjhaa.Dec
open Go.RowKit

theorem below_drewN {B : Nat} {a w : World} (h : Below B a w) (q : Nat) : Below B a (w.drewN q) := ⟨h.os, h.tape, h.output, h.size, h.block⟩

/-- Is the byte a digit's sign? -/
def isD (c : UInt8) : Bool := decide (48 ≤ c.toNat) && decide (c.toNat ≤ 57)

/-- How many digits a text begins with; these; what follows them. -/
def nd (l : List UInt8) : Nat := l.findIdx fun c => !isD c
def digs (l : List UInt8) : List UInt8 := l.take (nd l)
def rst (l : List UInt8) : List UInt8 := l.drop (nd l)

end Go.Proofs.Ytkfchdmlemcjhaa.Dec
namespace Go.Proofs.Ytkfchdmlemcjhaa.Dec
open Go.RowKit

/-- What cutFraction answers; what cutPower does: the sign and the digits, what follows, whether. -/
def cutF (l : List UInt8) : List UInt8 × List UInt8 × Bool :=
  if l.head? = some 46 then (digs l.tail, rst l.tail, !(digs l.tail).isEmpty) else ([], l, true)
def isE (l : List UInt8) : Prop := l.head? = some 101 ∨ l.head? = some 69
instance (l : List UInt8) : Decidable (isE l) := inferInstanceAs (Decidable (_ ∨ _))
def isS (l : List UInt8) : Prop := l.head? = some 43 ∨ l.head? = some 45
instance (l : List UInt8) : Decidable (isS l) := inferInstanceAs (Decidable (_ ∨ _))
def skS (l : List UInt8) : List UInt8 := if isS l then l.tail else l
def cutP (l : List UInt8) : Bool × List UInt8 × List UInt8 × Bool :=
  if isE l then (decide (l.tail.head? = some 45), digs (skS l.tail), rst (skS l.tail), !(digs (skS l.tail)).isEmpty) else (false, [], l, true)

end Go.Proofs.Ytkfchdmlemcjhaa.Dec
namespace Go.Proofs.Ytkfchdmlemcjhaa.Dec
open Go.RowKit

end Go.Proofs.Ytkfchdmlemcjhaa.Dec
namespace Go.Proofs.Ytkfchdmlemcjhaa.Dec
open Go.RowKit

def cutL (l : List UInt8) : List UInt8 := if l.head? = some 45 then l.tail else l
def badW (g : List UInt8) : Bool := g.isEmpty || (decide (1 < g.length) && decide (g.head? = some 48))

abbrev PartsM := Bool × List UInt8 × List UInt8 × Bool × List UInt8

/-- What cut tells of a text behind its sign: its first digits, and what follows. -/
def pcut4 (m : Bool) (g f : List UInt8) (p : Bool) (d r : List UInt8) (ok : Bool) : Option PartsM :=
  if ok = false then none else if r = [] then some (m, g, f, p, d) else none
def pcut3 (m : Bool) (g f r : List UInt8) (ok : Bool) : Option PartsM :=
  if ok = false then none else pcut4 m g f (cutP r).1 (cutP r).2.1 (cutP r).2.2.1 (cutP r).2.2.2
def pcut2 (m : Bool) (g r : List UInt8) : Option PartsM :=
  if badW g = true then none else pcut3 m g (cutF r).1 (cutF r).2.1 (cutF r).2.2
def pcut1 (m : Bool) (l : List UInt8) : Option PartsM := pcut2 m (digs l) (rst l)

/-- The parts of a number's text, or none. -/
def pcut (l : List UInt8) : Option PartsM := pcut1 (decide (l.head? = some 45)) (cutL l)

def pvals : Option PartsM → Value
  | none => .agg #[.bool false, .string ⟨#[]⟩, .string ⟨#[]⟩, .bool false, .string ⟨#[]⟩]
  | some (m, g, f, p, d) => .agg #[.bool m, .string ⟨g.toArray⟩, .string ⟨f.toArray⟩, .bool p, .string ⟨d.toArray⟩]

end Go.Proofs.Ytkfchdmlemcjhaa.Dec
namespace Go.Proofs.Ytkfchdmlemcjhaa.Dec
open Go.RowKit

/-- Without the noughts at its beginning; without those at its end. -/
def tl (l : List UInt8) : List UInt8 := l.dropWhile fun c => c == 48
def tr (l : List UInt8) : List UInt8 := (tl l.reverse).reverse

/-- The length of a text as the model's value. -/
def sLen : Value → Nat
  | .string b => b.size
  | _ => 0
end Go.Proofs.Ytkfchdmlemcjhaa.Dec
namespace Go.Proofs.Ytkfchdmlemcjhaa.Dec
open Go.RowKit

/-- The number that digits say, behind acc. -/
def natOf (acc : Nat) : List UInt8 → Nat
  | [] => acc
  | c :: r => natOf (acc * 10 + (c.toNat - 48)) r

/-- What Whole answers of a sign and digits. -/
def wholeG (m : Bool) (g : List UInt8) : Int × Bool :=
  if 9223372036854775808 < natOf 0 g then (0, false) else if m then (-(natOf 0 g : Int), true) else if natOf 0 g = 9223372036854775808 then (0, false) else ((natOf 0 g : Int), true)

def wholeV : Option PartsM → Int × Bool
  | some (m, g, f, _, d) => if (f.isEmpty && d.isEmpty) = true then wholeG m g else (0, false)
  | none => (0, false)

end Go.Proofs.Ytkfchdmlemcjhaa.Dec