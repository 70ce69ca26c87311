import Derived.Test.YtbgooffhikchmaaRows
import Derived.Ground.NamesProg
import Derived.Shelf.Lay
import Derived.Shelf.Strconv.Clone
namespace Go.Proofs
open Go.RowKit Go.Shelf Go.Lib
shelf_lay LaysM.n316 Nm 316 at Try as Try.laysClone
end Go.Proofs
