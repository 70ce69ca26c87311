import Derived.Test.YtglnhlmacngdpaaDoorDl
import Derived.Test.YtglnhlmacngdpaaDoorFa
import Derived.Deep.Onto
namespace Go.Proofs.YtglnhlmacngdpaaDoor
open Go.RowKit Go.Shelf

/-- A string as a value. -/
def qsG : Lx (List UInt8) → Lx (List Nd)
  | .ok S q => .ok [{ nd0 5 with text := S }] q
  | .bad c b => .bad c b
/-- A value, given its row. -/
def valD (RW : Bool → Lx (List Nd)) (t : List UInt8) (op p : Nat) : Lx (List Nd) :=
  if bat t p = 91 then (if op = 32 then .bad 11 p else RW false) else
  if bat t p = 123 then (if op = 32 then .bad 11 p else RW true) else
  if bat t p = 34 then qsG (quoF t (t.length + 1) (p + 1) []) else
  if bat t p = 45 ∨ (48 ≤ bat t p ∧ bat t p ≤ 57) then nuF t p else
  if bat t p = 110 then ltF t [110, 117, 108, 108] 1 p else
  if bat t p = 102 then ltF t [102, 97, 108, 115, 101] 2 p else
  if bat t p = 116 then ltF t [116, 114, 117, 101] 3 p else .bad 31 p
end Go.Proofs.YtglnhlmacngdpaaDoor
