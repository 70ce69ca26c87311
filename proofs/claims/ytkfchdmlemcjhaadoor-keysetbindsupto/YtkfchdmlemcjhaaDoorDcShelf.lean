import Derived.Test.YtkfchdmlemcjhaaDoorRows
import Derived.Ground.NamesProg
import Derived.Shelf.Lay
import Derived.Shelf.Strconv.ParseIntPublic10
import Derived.Shelf.Strconv.ErrVarParseInt
namespace Go.Proofs
open Go.RowKit Go.Shelf Go.Lib
shelf_lay LaysC.n174 Nm 174 at Tryd as Tryd.laysParseInt
end Go.Proofs
