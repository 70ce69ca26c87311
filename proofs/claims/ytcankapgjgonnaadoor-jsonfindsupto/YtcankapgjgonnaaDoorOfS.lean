import Derived.Test.YtcankapgjgonnaaDoorRows
import Derived.Ground.NamesProg
import Derived.Shelf.Lay
import Derived.Shelf.Strconv.Itoa4
namespace Go.Proofs
open Go.Shelf Go.Lib

shelf_lay LaysM.n171 Nm 171 at Tryd as Tryd.laysItoa
end Go.Proofs
