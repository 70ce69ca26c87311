import Derived.Test.YthlfboaidhgnlaaGreatDoorWZ
import Derived.Test.YthlfboaidhgnlaaGreatDoorCk
namespace Go.Proofs.YthlfboaidhgnlaaGreatDoor
open Go.RowKit

/-- Claims. -/
structure Cm where
  val : List Nd
  iss : List UInt8
  hIss : Bool
  sub : List UInt8
  hSub : Bool
  aud : List (List UInt8)
  hAud : Bool
  jti : List UInt8
  hJti : Bool
  exp : Tm
  nbf : Tm
  iat : Tm
deriving DecidableEq
def cm0 : Cm := ⟨[], [], false, [], false, [], false, [], false, tm0, tm0, tm0⟩
abbrev kIss : List UInt8 := [105, 115, 115]
abbrev kSub : List UInt8 := [115, 117, 98]
abbrev kAud : List UInt8 := [97, 117, 100]
abbrev kJti : List UInt8 := [106, 116, 105]
abbrev kExp : List UInt8 := [101, 120, 112]
abbrev kNbf : List UInt8 := [110, 98, 102]
abbrev kIat : List UInt8 := [105, 97, 116]

/-- Are all of these texts? -/
def allT (v : List Nd) (L : List Nat) : Bool := L.all fun i => decide ((v.getD i (nd0 0)).kind = 5)
/-- Is the claim at that place of the kind that its name wants? -/
def fitF (v : List Nd) (k : Nat) : Bool :=
  if (v.getD k (nd0 0)).key = kAud then (if (v.getD k (nd0 0)).kind = 6 then allT v (kidsF v (k : Int)) else decide ((v.getD k (nd0 0)).kind = 5))
  else if (v.getD k (nd0 0)).key = kIss ∨ (v.getD k (nd0 0)).key = kSub ∨ (v.getD k (nd0 0)).key = kJti then decide ((v.getD k (nd0 0)).kind = 5)
  else if (v.getD k (nd0 0)).key = kExp ∨ (v.getD k (nd0 0)).key = kNbf ∨ (v.getD k (nd0 0)).key = kIat then (v.getD k (nd0 0)).whole
  else true
/-- A text of that name. -/
def txF (v : List Nd) (k : List UInt8) : List UInt8 × Bool := if memF v 0 k < 0 then ([], false) else ((v.getD (memF v 0 k).toNat (nd0 0)).text, true)
/-- Texts of that name. -/
def tsF (v : List Nd) (k : List UInt8) : List (List UInt8) × Bool :=
  if memF v 0 k < 0 then ([], false)
  else if (v.getD (memF v 0 k).toNat (nd0 0)).kind = 5 then ([(v.getD (memF v 0 k).toNat (nd0 0)).text], true)
  else ((kidsF v (memF v 0 k)).map fun i => (v.getD i (nd0 0)).text, true)
/-- A time of that name. -/
def moF (v : List Nd) (k : List UInt8) : Tm := if memF v 0 k < 0 then tm0 else ⟨true, (v.getD (memF v 0 k).toNat (nd0 0)).int⟩
def saidF (v : List Nd) : Cm := ⟨v, (txF v kIss).1, (txF v kIss).2, (txF v kSub).1, (txF v kSub).2, (tsF v kAud).1, (tsF v kAud).2, (txF v kJti).1, (txF v kJti).2, moF v kExp, moF v kNbf, moF v kIat⟩
/-- What Parse answers. -/
def cparseF (t : List UInt8) : Cm × Nat :=
  if (parseF t).2.1 ≠ 0 then (cm0, (parseF t).2.1)
  else if ((parseF t).1.getD 0 (nd0 0)).kind ≠ 7 then (cm0, 130)
  else if (kidsF (parseF t).1 0).all (fitF (parseF t).1) then (saidF (parseF t).1, 0) else (cm0, 131)
/-- Is one of the names no member's? -/
def lackF (v : List Nd) (need : List (List UInt8)) : Bool := need.any fun k => decide (memF v 0 k < 0)
/-- What Check answers, of a well shaped value. -/
def checkF (v : List Nd) (iss : List UInt8) (hIss : Bool) (aud : List (List UInt8)) (hAud : Bool) (need : List (List UInt8)) (pi : List UInt8) (pHi : Bool) (pa : List UInt8) (pHa : Bool) : Nat :=
  if lackF v need = true then 137
  else if pHi = true ∧ (hIss = false ∨ iss ≠ pi) then 132
  else if pHa ≠ hAud then 133
  else if pHa = true ∧ pa ∉ aud then 133 else 0

end Go.Proofs.YthlfboaidhgnlaaGreatDoor
