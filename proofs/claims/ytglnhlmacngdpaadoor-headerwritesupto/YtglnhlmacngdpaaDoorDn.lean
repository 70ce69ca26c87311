import Derived.Test.YtglnhlmacngdpaaDoorDm
import Derived.Deep.AppendLies
namespace Go.Proofs.YtglnhlmacngdpaaDoor
open Go.RowKit Go.Shelf

/-- The first node's name. -/
def keyed (S : List UInt8) : List Nd → List Nd
  | [] => []
  | n :: r => { n with key := S } :: r
/-- What is told of an item: the names behind it, its nodes. -/
def GotI (ob : Bool) (ns : List (List UInt8)) (x : Lx (List (List UInt8) × List Nd)) (v : Value) (B : Nat) (w : World) : Prop := match x with
  | .ok y q => ∃ lv S, v = gotV (q : Int) lv S 0 0 ∧ NO B w lv y.2 ∧ (ob = true → y.1 = ns ++ [S]) ∧ (ob = false → y.1 = ns)
  | .bad c b => ∃ a S, v = gotV a nilV S (c : Int) (b : Int)
def itA (ns : List (List UInt8)) : Lx (List Nd) → Lx (List (List UInt8) × List Nd)
  | .ok L q => .ok (ns, L) q
  | .bad c b => .bad c b
def itO (ns : List (List UInt8)) (S : List UInt8) : Lx (List Nd) → Lx (List (List UInt8) × List Nd)
  | .ok L q => .ok (ns ++ [S], keyed S L) q
  | .bad c b => .bad c b
def itQ (V : Nat → Lx (List Nd)) (t : List UInt8) (ns : List (List UInt8)) (p : Nat) : Lx (List UInt8) → Lx (List (List UInt8) × List Nd)
  | .bad c b => .bad c b
  | .ok S q => if ns.contains S then .bad 34 p else if bat t (skp t blanksS q) ≠ 58 then .bad 31 (skp t blanksS q) else itO ns S (V (skp t blanksS (skp t blanksS q + 1)))
def itD (V : Nat → Lx (List Nd)) (t : List UInt8) (ob : Bool) (ns : List (List UInt8)) (p : Nat) : Lx (List (List UInt8) × List Nd) :=
  if ob = false then itA ns (V p) else if bat t p ≠ 34 then .bad 31 p else itQ V t ns p (quoF t (t.length + 1) (p + 1) [])
end Go.Proofs.YtglnhlmacngdpaaDoor
