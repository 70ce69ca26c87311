import Derived.Test.YtpfdaclmchcbiaaGreatDoorDZ
import Derived.Test.YtpfdaclmchcbiaaGreatDoorDcB
import Derived.Deep.CutRange
namespace Go.Proofs.YtpfdaclmchcbiaaGreatDoor
open Go.RowKit Go.Shelf

def nuG (t : List UInt8) (p : Nat) : Lx Unit → Lx (List Nd)
  | .ok _ q => .ok [numN (sgl t p q)] q
  | .bad c b => .bad c b
def nuF (t : List UInt8) (p : Nat) : Lx (List Nd) := nuG t p (numL t p)

end Go.Proofs.YtpfdaclmchcbiaaGreatDoor
