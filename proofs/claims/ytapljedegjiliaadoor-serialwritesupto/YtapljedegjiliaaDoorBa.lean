import Derived.Test.YtapljedegjiliaaDoorCZ
namespace Go.Proofs.YtapljedegjiliaaDoor
open Go.RowKit

abbrev kPay : List UInt8 := [112, 97, 121, 108, 111, 97, 100]
abbrev kPro : List UInt8 := [112, 114, 111, 116, 101, 99, 116, 101, 100]
abbrev kSig : List UInt8 := [115, 105, 103, 110, 97, 116, 117, 114, 101]
abbrev kSgs : List UInt8 := [115, 105, 103, 110, 97, 116, 117, 114, 101, 115]

/-- A member's text without a dot, if it is one. -/
def partF (v : List Nd) (a : Int) (k : List UInt8) : List UInt8 × Bool :=
  if memF v a k < 0 then ([], false)
  else if (v.getD (memF v a k).toNat (nd0 0)).kind ≠ 5 then ([], false)
  else if 0 < (v.getD (memF v a k).toNat (nd0 0)).text.count 46 then ([], false)
  else ((v.getD (memF v a k).toNat (nd0 0)).text, true)
/-- The places of those that sign. -/
def signF (v : List Nd) : List Nat :=
  if (v.getD 0 (nd0 0)).kids = 3 then [0]
  else if memF v 0 kSgs < 0 ∨ (v.getD 0 (nd0 0)).kids ≠ 2 ∨ (v.getD (memF v 0 kSgs).toNat (nd0 0)).kind ≠ 6 ∨ 16 < (v.getD (memF v 0 kSgs).toNat (nd0 0)).kids then []
  else if (kidsF v (memF v 0 kSgs)).all (fun i => decide ((v.getD i (nd0 0)).kids = 2)) = true then kidsF v (memF v 0 kSgs) else []
def tokF (v : List Nd) (p : List UInt8) (i : Nat) : List UInt8 := (partF v i kPro).1 ++ 46 :: (p ++ 46 :: (partF v i kSig).1)
def hasF2 (v : List Nd) (i : Nat) : Bool := (partF v i kPro).2 && (partF v i kSig).2
/-- The tokens of a value, or none. -/
def toksF (v : List Nd) : List (List UInt8) × Bool :=
  if (partF v 0 kPay).2 = true ∧ (signF v).all (hasF2 v) = true ∧ signF v ≠ [] then ((signF v).map (tokF v (partF v 0 kPay).1), true) else ([], false)
/-- What Tokens answers. -/
def tokensF (t : List UInt8) : List (List UInt8) × Nat :=
  if (parseF t).2.1 ≠ 0 then ([], (parseF t).2.1)
  else if (toksF (parseF t).1).2 = true then ((toksF (parseF t).1).1, 0) else ([], 140)

end Go.Proofs.YtapljedegjiliaaDoor
