import Derived.Test.YtjaopeenkbcjcaaGreatDoorJArg
import Derived.Test.YtjaopeenkbcjcaaGreatDoorCZ
namespace Go.Proofs.YtjaopeenkbcjcaaGreatDoor
open Go.ChangeShapes Go.WideShapes Go.ChangeAt Go.RowKit Go.Deep

instance : Inhabited (List UInt8) := ⟨[]⟩

end Go.Proofs.YtjaopeenkbcjcaaGreatDoor
