import Derived.Test.YtkfchdmlemcjhaaDoorOrk
import Derived.Test.YtkfchdmlemcjhaaDoorJZ
import Derived.Lib.Bytealg
import Derived.Deep.LoopGhost
namespace Go.Proofs.YtkfchdmlemcjhaaDoor
open Go.RowKit

/-- What a reader holds beside its text, place and fault. -/
structure X5 where
  aw : Value
  nodes : Value
  opn : Value
  key : Value
  met : Value

/-- The place behind a byte that was taken, or the same. -/
def stp (c : Bool) (p : Nat) : Nat := if c then p + 1 else p

def PB (b : Nat) : Value := .pointer (some ⟨b, 0, none⟩)

end Go.Proofs.YtkfchdmlemcjhaaDoor

namespace Go.Proofs.YtkfchdmlemcjhaaDoor
open Go.RowKit

end Go.Proofs.YtkfchdmlemcjhaaDoor

namespace Go.Proofs.YtkfchdmlemcjhaaDoor
open Go.RowKit

end Go.Proofs.YtkfchdmlemcjhaaDoor
