import Derived.Test.YtcdcfgkgighmhaaGreatDoorRows
import Derived.Ground.NamesProg
import Derived.Shelf.Lay
import Derived.Shelf.Strconv.Clone
import Derived.Shelf.Unicode.ValidAny
import Derived.Shelf.Unicode.DecodeAny
import Derived.Shelf.Utf8.AppendRune
namespace Go.Proofs
open Go.RowKit Go.Shelf Go.Lib
shelf_lay LaysM.n316 Nm 316 at Tryz as Tryz.laysClone
shelf_lay Lays.n197 Nm 197 at Tryz as Tryz.laysDec -- 93
shelf_lay Lays.n242 Nm 242 at Tryz as Tryz.laysApp -- 77
end Go.Proofs
