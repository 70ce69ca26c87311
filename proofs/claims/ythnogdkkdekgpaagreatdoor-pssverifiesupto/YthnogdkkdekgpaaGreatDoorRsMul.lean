import Derived.Test.YthnogdkkdekgpaaGreatDoorRsRM
namespace Go.Proofs.YthnogdkkdekgpaaGreatDoor
open Go.RowKit

end Go.Proofs.YthnogdkkdekgpaaGreatDoor
