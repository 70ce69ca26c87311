import Derived.Test.YtfchdjlkndlleaaDoorRows
import Derived.Ground.NamesProg
import Derived.Shelf.Lay
import Derived.Shelf.Strconv.Clone
import Derived.Shelf.Unicode.ValidAny
import Derived.Shelf.Unicode.DecodeAny
import Derived.Shelf.Utf8.AppendRune
namespace Go.Proofs
open Go.RowKit Go.Shelf Go.Lib
shelf_lay LaysM.n316 Nm 316 at Tryd as Tryd.laysClone
shelf_lay Lays.n197 Nm 197 at Tryd as Tryd.laysDec
shelf_lay Lays.n242 Nm 242 at Tryd as Tryd.laysApp
end Go.Proofs
