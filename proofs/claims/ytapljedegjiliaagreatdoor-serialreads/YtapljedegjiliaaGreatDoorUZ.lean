import Derived.Test.YtapljedegjiliaaGreatDoorTY
import Derived.Test.YtapljedegjiliaaGreatDoorJZ
import Derived.Lib.AppendStr
namespace Go.Proofs.YtapljedegjiliaaGreatDoor
open Go.RowKit Go.Shelf

end Go.Proofs.YtapljedegjiliaaGreatDoor

namespace Go.Proofs.YtapljedegjiliaaGreatDoor
open Go.RowKit Go.Shelf

end Go.Proofs.YtapljedegjiliaaGreatDoor

namespace Go.Proofs.YtapljedegjiliaaGreatDoor
open Go.RowKit Go.Shelf

end Go.Proofs.YtapljedegjiliaaGreatDoor

namespace Go.Proofs.YtapljedegjiliaaGreatDoor
open Go.RowKit Go.Shelf

end Go.Proofs.YtapljedegjiliaaGreatDoor

namespace Go.Proofs.YtapljedegjiliaaGreatDoor
open Go.RowKit Go.Shelf

end Go.Proofs.YtapljedegjiliaaGreatDoor

namespace Go.Proofs.YtapljedegjiliaaGreatDoor
open Go.RowKit Go.Shelf

end Go.Proofs.YtapljedegjiliaaGreatDoor
