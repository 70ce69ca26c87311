import Derived.Test.YtccfcplhifbjlaaGreatDoorRows
import Derived.Ground.NamesProg
import Derived.Shelf.Lay
import Derived.Shelf.Strconv.Clone
namespace Go.Proofs
open Go.RowKit Go.Shelf Go.Lib
set_option maxRecDepth 100000
shelf_lay LaysM.n316 Nm 316 at Tryz as Tryz.laysClone
end Go.Proofs
