import Derived.Test.YtghfoppojdkhkaaGreatDoorCH
import Derived.Laws.ResultCell
namespace Go.Proofs.YtghfoppojdkhkaaGreatDoor
open Go.RowKit

set_option maxRecDepth 100000

end Go.Proofs.YtghfoppojdkhkaaGreatDoor
