import Derived.Test.YtjehkpndchadbaaGreatDoorRows
import Derived.Ground.NamesProg
import Derived.Shelf.Lay
import Derived.Shelf.Strconv.Clone
import Derived.Shelf.Unicode.ValidAny
import Derived.Shelf.Unicode.DecodeAny
import Derived.Shelf.Utf8.AppendRune
namespace Go.Proofs
open Go.RowKit Go.Shelf Go.Lib
shelf_lay LaysM.n316 Nm 316 at Tryz as Tryz.laysClone
shelf_lay Lays.n196 Nm 196 at Tryz as Tryz.laysValid -- 62
shelf_lay Lays.n197 Nm 197 at Tryz as Tryz.laysDec -- 65
shelf_lay Lays.n242 Nm 242 at Tryz as Tryz.laysApp -- 57
end Go.Proofs
