import Derived.Test.YtcankapgjgonnaaDoorRows
import Derived.WalkKit
import Derived.WalkSpells
import Derived.WalkLawsBesides
import Derived.Deep.QuietTactic
import Derived.BigQuiet
import Derived.Lib.Bytealg
import Derived.Deep.RegionWith
import Derived.Laws.NewBlocks
import Derived.Laws.Alloc2
import Derived.Laws.ResultCell
import Derived.Lib.ParseIntB
namespace Go.Proofs.YtcankapgjgonnaaDoor.Dec
open Go.RowKit

theorem below_drewN {B : Nat} {a w : World} (h : Below B a w) (q : Nat) : Below B a (w.drewN q) := ⟨h.os, h.tape, h.output, h.size, h.block⟩

/-- Is the byte a digit's sign? -/
def isD (c : UInt8) : Bool := decide (48 ≤ c.toNat) && decide (c.toNat ≤ 57)

/-- How many digits a text begins with; these; what follows them. -/
def nd (l : List UInt8) : Nat := l.findIdx fun c => !isD c
def digs (l : List UInt8) : List UInt8 := l.take (nd l)
def rst (l : List UInt8) : List UInt8 := l.drop (nd l)

theorem nd_le (l : List UInt8) : nd l ≤ l.length := List.findIdx_le_length

theorem nd_lt (l : List UInt8) (k : Nat) (hk : k ≤ nd l) (hlt : k < l.length) : k < nd l ↔ isD l[k] = true := by
  constructor
  · intro h
    have := List.not_of_lt_findIdx h
    simpa using this
  · intro h
    rcases Nat.lt_or_ge k (nd l) with h1 | h1
    · exact h1
    · exfalso
      have e : nd l = k := Nat.le_antisymm h1 hk
      have hl : List.findIdx (fun c => !isD c) l < l.length := by show nd l < _; omega
      have h2 := List.findIdx_getElem (p := fun c => !isD c) (w := hl)
      have e' : List.findIdx (fun c => !isD c) l = k := e
      simp only [e'] at h2
      rw [h] at h2
      cases h2

theorem digs_length (l : List UInt8) : (digs l).length = nd l := by
  unfold digs; rw [List.length_take]; have := nd_le l; omega

end Go.Proofs.YtcankapgjgonnaaDoor.Dec
namespace Go.Proofs.YtcankapgjgonnaaDoor.Dec
open Go.RowKit

/-- What cutFraction answers; what cutPower does: the sign and the digits, what follows, whether. -/
def cutF (l : List UInt8) : List UInt8 × List UInt8 × Bool :=
  if l.head? = some 46 then (digs l.tail, rst l.tail, !(digs l.tail).isEmpty) else ([], l, true)
def isE (l : List UInt8) : Prop := l.head? = some 101 ∨ l.head? = some 69
instance (l : List UInt8) : Decidable (isE l) := inferInstanceAs (Decidable (_ ∨ _))
def isS (l : List UInt8) : Prop := l.head? = some 43 ∨ l.head? = some 45
instance (l : List UInt8) : Decidable (isS l) := inferInstanceAs (Decidable (_ ∨ _))
def skS (l : List UInt8) : List UInt8 := if isS l then l.tail else l
def cutP (l : List UInt8) : Bool × List UInt8 × List UInt8 × Bool :=
  if isE l then (decide (l.tail.head? = some 45), digs (skS l.tail), rst (skS l.tail), !(digs (skS l.tail)).isEmpty) else (false, [], l, true)

theorem skS_len (l : List UInt8) : (skS l).length ≤ l.length := by unfold skS; split <;> simp

end Go.Proofs.YtcankapgjgonnaaDoor.Dec
namespace Go.Proofs.YtcankapgjgonnaaDoor.Dec
open Go.RowKit

end Go.Proofs.YtcankapgjgonnaaDoor.Dec
namespace Go.Proofs.YtcankapgjgonnaaDoor.Dec
open Go.RowKit

def cutL (l : List UInt8) : List UInt8 := if l.head? = some 45 then l.tail else l
def badW (g : List UInt8) : Bool := g.isEmpty || (decide (1 < g.length) && decide (g.head? = some 48))

abbrev PartsM := Bool × List UInt8 × List UInt8 × Bool × List UInt8

/-- What cut tells of a text behind its sign: its first digits, and what follows. -/
def pcut4 (m : Bool) (g f : List UInt8) (p : Bool) (d r : List UInt8) (ok : Bool) : Option PartsM :=
  if ok = false then none else if r = [] then some (m, g, f, p, d) else none
def pcut3 (m : Bool) (g f r : List UInt8) (ok : Bool) : Option PartsM :=
  if ok = false then none else pcut4 m g f (cutP r).1 (cutP r).2.1 (cutP r).2.2.1 (cutP r).2.2.2
def pcut2 (m : Bool) (g r : List UInt8) : Option PartsM :=
  if badW g = true then none else pcut3 m g (cutF r).1 (cutF r).2.1 (cutF r).2.2
def pcut1 (m : Bool) (l : List UInt8) : Option PartsM := pcut2 m (digs l) (rst l)

/-- The parts of a number's text, or none. -/
def pcut (l : List UInt8) : Option PartsM := pcut1 (decide (l.head? = some 45)) (cutL l)

def pvals : Option PartsM → Value
  | none => .agg #[.bool false, .string ⟨#[]⟩, .string ⟨#[]⟩, .bool false, .string ⟨#[]⟩]
  | some (m, g, f, p, d) => .agg #[.bool m, .string ⟨g.toArray⟩, .string ⟨f.toArray⟩, .bool p, .string ⟨d.toArray⟩]

theorem nd_len (l : List UInt8) : (digs l).length ≤ l.length ∧ (rst l).length ≤ l.length := by
  have := nd_le l
  rw [digs_length]; unfold rst; rw [List.length_drop]; omega

theorem u8_eq48 (x : UInt8) : ((x.toNat : Int) == 48) = decide (x = 48) := by
  by_cases h : x = 48
  · subst h; rfl
  · have : x.toNat ≠ 48 := fun e => h (UInt8.toNat_inj.1 e)
    simp [h]; omega

theorem cutL_len (l : List UInt8) : (cutL l).length ≤ l.length := by unfold cutL; split <;> simp

end Go.Proofs.YtcankapgjgonnaaDoor.Dec
namespace Go.Proofs.YtcankapgjgonnaaDoor.Dec
open Go.RowKit

/-- Without the noughts at its beginning; without those at its end. -/
def tl (l : List UInt8) : List UInt8 := l.dropWhile fun c => c == 48
def tr (l : List UInt8) : List UInt8 := (tl l.reverse).reverse

theorem tr_snoc (y : List UInt8) (x : UInt8) : tr (y ++ [x]) = if (x == 48) = true then tr y else y ++ [x] := by
  unfold tr tl
  rw [List.reverse_append]
  show (List.dropWhile _ (x :: y.reverse)).reverse = _
  rw [List.dropWhile_cons]
  split <;> simp

/-- The length of a text as the model's value. -/
def sLen : Value → Nat
  | .string b => b.size
  | _ => 0
end Go.Proofs.YtcankapgjgonnaaDoor.Dec
namespace Go.Proofs.YtcankapgjgonnaaDoor.Dec
open Go.RowKit

theorem isD_rg {c : UInt8} (h : isD c = true) : 48 ≤ c.toNat ∧ c.toNat ≤ 57 := by
  unfold isD at h; simp at h; exact h

theorem digs_al (l : List UInt8) : ∀ c ∈ digs l, isD c = true := by
  intro c hc
  obtain ⟨i, hi, e⟩ := List.getElem_of_mem hc
  have hi' : i < nd l := by rw [← digs_length]; exact hi
  have hl := nd_le l
  have hil : i < l.length := by omega
  have e1 : (digs l)[i] = l[i] := by
    have e2 : (digs l)[i]? = l[i]? := by unfold digs; rw [List.getElem?_take_of_lt hi']
    rw [List.getElem?_eq_getElem hi, List.getElem?_eq_getElem hil] at e2
    exact Option.some.inj e2
  rw [← e, e1]
  exact (nd_lt l i (by omega) hil).1 hi'

/-- The number that digits say, behind acc. -/
def natOf (acc : Nat) : List UInt8 → Nat
  | [] => acc
  | c :: r => natOf (acc * 10 + (c.toNat - 48)) r

theorem natOf_ge : ∀ (l : List UInt8) (acc : Nat), acc ≤ natOf acc l
  | [], acc => Nat.le_refl _
  | c :: r, acc => by
    have := natOf_ge r (acc * 10 + (c.toNat - 48))
    show acc ≤ natOf (acc * 10 + (c.toNat - 48)) r
    omega

theorem natOf_append : ∀ (a b : List UInt8) (acc : Nat), natOf acc (a ++ b) = natOf (natOf acc a) b
  | [], _, _ => rfl
  | _ :: r, b, _ => natOf_append r b _

theorem natOf_snoc (a : List UInt8) (c : UInt8) : natOf 0 (a ++ [c]) = natOf 0 a * 10 + (c.toNat - 48) := by rw [natOf_append]; rfl

theorem natOf_take (g : List UInt8) (i : Nat) : natOf 0 (g.take i) ≤ natOf 0 g := by
  have e : natOf 0 g = natOf 0 (g.take i ++ g.drop i) := by rw [List.take_append_drop]
  rw [e, natOf_append]
  exact natOf_ge _ _

/-- What Whole answers of a sign and digits. -/
def wholeG (m : Bool) (g : List UInt8) : Int × Bool :=
  if 9223372036854775808 < natOf 0 g then (0, false) else if m then (-(natOf 0 g : Int), true) else if natOf 0 g = 9223372036854775808 then (0, false) else ((natOf 0 g : Int), true)

def wholeV : Option PartsM → Int × Bool
  | some (m, g, f, _, d) => if (f.isEmpty && d.isEmpty) = true then wholeG m g else (0, false)
  | none => (0, false)

theorem dig_app (l : List UInt8) : digs l ++ rst l = l := by unfold digs rst; exact List.take_append_drop _ _

/-- Where all behind the sign is digits, and it is a number: what its parts are. -/
theorem pcut_plain {l : List UInt8} {m p : Bool} {g f d : List UInt8} (h : pcut l = some (m, g, f, p, d)) (he : (f.isEmpty && d.isEmpty) = true) : cutL l = g ∧ m = decide (l.head? = some 45) ∧ g ≠ [] ∧ ∀ c ∈ g, isD c = true := by
  unfold pcut pcut1 pcut2 pcut3 pcut4 at h
  generalize hl1 : cutL l = l1 at h ⊢
  split at h
  · cases h
  rename_i hbad
  split at h
  · cases h
  rename_i hF
  split at h
  · cases h
  rename_i hP
  split at h
  · rename_i h3
    cases h
    rw [Bool.and_eq_true] at he
    have hf : ¬ (rst l1).head? = some 46 := by
      intro hh
      unfold cutF at hF he
      rw [if_pos hh] at hF
      rw [if_pos hh] at he
      simp only [he.1, Bool.not_true, not_true_eq_false] at hF
    have eF : cutF (rst l1) = ([], rst l1, true) := by unfold cutF; rw [if_neg hf]
    rw [eF] at hP h3 he
    have hE : ¬ isE (rst l1) := by
      intro hh
      unfold cutP at hP he
      rw [if_pos hh] at hP he
      simp only [he.2, Bool.not_true, not_true_eq_false] at hP
    have eP : cutP (rst l1) = (false, [], rst l1, true) := by unfold cutP; rw [if_neg hE]
    simp only [eP] at h3
    refine ⟨?_, rfl, ?_, digs_al l1⟩
    · have := dig_app l1
      rw [h3, List.append_nil] at this
      exact this.symm
    · intro e
      apply hbad
      unfold badW
      rw [e]; rfl
  · cases h

end Go.Proofs.YtcankapgjgonnaaDoor.Dec