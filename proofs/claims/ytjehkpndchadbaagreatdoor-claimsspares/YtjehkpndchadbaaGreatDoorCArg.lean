import Derived.Test.YtjehkpndchadbaaGreatDoorJArg
import Derived.Test.YtjehkpndchadbaaGreatDoorCZ
namespace Go.Proofs.YtjehkpndchadbaaGreatDoor
open Go.ChangeShapes Go.WideShapes Go.ChangeAt Go.RowKit Go.Deep

instance : Inhabited (List UInt8) := ⟨[]⟩

end Go.Proofs.YtjehkpndchadbaaGreatDoor
