import Derived.Test.YtdhfjhdlimmjhaaGreatDoorRows
import Derived.Ground.NamesProg
import Derived.Shelf.Lay
import Derived.Shelf.Strconv.Clone
import Derived.Shelf.Unicode.ValidAny
import Derived.Shelf.Unicode.DecodeAny
import Derived.Shelf.Utf8.AppendRune
namespace Go.Proofs
open Go.RowKit Go.Shelf Go.Lib
shelf_lay LaysM.n316 Nm 316 at Tryz as Tryz.laysClone
shelf_lay Lays.n196 Nm 196 at Tryz as Tryz.laysValid -- 50
end Go.Proofs
