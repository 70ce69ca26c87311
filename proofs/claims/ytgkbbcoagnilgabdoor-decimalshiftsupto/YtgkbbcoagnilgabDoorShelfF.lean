import Derived.Test.YtgkbbcoagnilgabDoorRows
import Derived.Ground.NamesProg
import Derived.Shelf.Lay
import Derived.Shelf.Strconv.Itoa4
namespace Go.Proofs
open Go.Shelf Go.Lib
shelf_lay LaysM.n173 Nm 173 at Tryd as Tryd.laysFormatInt
shelf_lay LaysM.n171 Nm 171 at Tryd as Tryd.laysItoa
end Go.Proofs
