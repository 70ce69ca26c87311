import Derived.Test.YtgkbbcoagnilgabDoorRows
import Derived.Ground.NamesProg
import Derived.Shelf.Lay
import Derived.Shelf.Strconv.Itoa0
namespace Go.Proofs
open Go.Shelf Go.Lib
shelf_lay Lays.n129 Nm 129 at Tryd as Tryd.laysLen64
end Go.Proofs
