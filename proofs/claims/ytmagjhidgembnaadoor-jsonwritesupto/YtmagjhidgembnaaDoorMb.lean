import Derived.Test.YtmagjhidgembnaaDoorMa
import Derived.Test.YtmagjhidgembnaaDoorOrk
namespace Go.Proofs.YtmagjhidgembnaaDoor
open Go.RowKit Go.Shelf

/-- The marks behind the lists. -/
def mkN : Nd := ⟨0, [], [109, 97, 114, 107], false, 0, 0⟩
def mkT : List UInt8 := [109, 97, 114, 107]
end Go.Proofs.YtmagjhidgembnaaDoor
