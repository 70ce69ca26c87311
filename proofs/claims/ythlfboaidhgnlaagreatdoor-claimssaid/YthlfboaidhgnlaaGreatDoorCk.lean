import Derived.Test.YthlfboaidhgnlaaGreatDoorBase
namespace Go.Proofs.YthlfboaidhgnlaaGreatDoor
open Go.RowKit

/-- A time claim. -/
structure Tm where
  has : Bool
  at_ : Int
deriving DecidableEq
def tm0 : Tm := ⟨false, 0⟩
/-- The first and the last clock. -/
def fstF (t : Tm) (l : Int) : Int := if t.has = false ∨ t.at_ < -9223372036854775808 + l then -9223372036854775808 else t.at_ - l
def lstF (t : Tm) (l : Int) : Option Int := if t.has = false ∨ 9223372036854775807 - l < t.at_ then some 9223372036854775807 else if t.at_ + l = -9223372036854775808 then none else some (t.at_ + l - 1)
/-- What Clock answers, in numbers without a bound. -/
def clockF (e n i : Tm) (l now : Int) : Nat :=
  if l < 0 ∨ 600 < l then 12
  else if e.has = true ∧ e.at_ + l ≤ now then 134
  else if n.has = true ∧ now < n.at_ - l then 135
  else if i.has = true ∧ now < i.at_ - l then 136 else 0
structure Wn where
  empty : Bool
  fr : Int
  en : Int
deriving DecidableEq
/-- What Open answers. -/
def openF (e n i : Tm) (l : Int) : Wn × Nat :=
  if l < 0 ∨ 600 < l then (⟨false, 0, 0⟩, 12)
  else match lstF e l with
    | none => (⟨true, 0, 0⟩, 0)
    | some x => if x < max (fstF n l) (fstF i l) then (⟨true, 0, 0⟩, 0) else (⟨false, max (fstF n l) (fstF i l), x⟩, 0)

def I64 (x : Int) : Prop := -9223372036854775808 ≤ x ∧ x ≤ 9223372036854775807

theorem fst_i64 {t : Tm} {l : Int} (h : I64 t.at_) (h0 : 0 ≤ l) (h6 : l ≤ 600) : I64 (fstF t l) := by
  unfold fstF I64 at *
  split <;> omega
theorem lst_i64 {t : Tm} {l x : Int} (h : I64 t.at_) (h0 : 0 ≤ l) (h6 : l ≤ 600) (e : lstF t l = some x) : I64 x := by
  unfold lstF at e
  unfold I64 at *
  split at e
  · cases e; omega
  · split at e
    · cases e
    · cases e; omega

/-- The program's way to the code. -/
theorem clock_way {e n i : Tm} {l now : Int} (_he : I64 e.at_) (hn : I64 n.at_) (hi : I64 i.at_) (hw : I64 now) (h0 : 0 ≤ l) (h6 : l ≤ 600) :
    clockF e n i l now = (match lstF e l with
      | none => 134
      | some x => if x < now then 134 else if now < fstF n l then 135 else if now < fstF i l then 136 else 0) := by
  unfold I64 at *
  have hE : (e.has = true ∧ e.at_ + l ≤ now) ↔ (match lstF e l with
      | none => True
      | some x => x < now) := by
    unfold lstF
    cases e.has
    · simp; omega
    · simp only [true_and, Bool.true_eq_false, false_or]
      split
      · rename_i hz
        split at hz
        · cases hz
        · split at hz
          · simp; omega
          · cases hz
      · rename_i hz
        split at hz
        · cases hz; omega
        · split at hz
          · cases hz
          · cases hz; omega
  have hF : ∀ t : Tm, I64 t.at_ → ((t.has = true ∧ now < t.at_ - l) ↔ now < fstF t l) := by
    intro t ht
    unfold I64 at ht
    unfold fstF
    cases t.has
    · simp; omega
    · simp only [true_and, Bool.true_eq_false, false_or]
      split <;> omega
  unfold clockF
  rw [if_neg (by omega)]
  simp only [hF n hn, hF i hi]
  cases hz : lstF e l with
  | none =>
    rw [hz] at hE
    rw [if_pos (hE.2 trivial)]
  | some x =>
    rw [hz] at hE
    simp only [hE]

/-- Claims as a value: nine cells of whatever kind, then the three times. -/
def clW (x0 x1 x2 x3 x4 x5 x6 x7 x8 : Value) (e n i : Tm) : Value := .agg #[x0, x1, x2, x3, x4, x5, x6, x7, x8, .bool e.has, .int .i64 e.at_, .bool n.has, .int .i64 n.at_, .bool i.has, .int .i64 i.at_]
def wnV (x : Wn) : Value := .agg #[.bool x.empty, .int .i64 x.fr, .int .i64 x.en]

end Go.Proofs.YthlfboaidhgnlaaGreatDoor
