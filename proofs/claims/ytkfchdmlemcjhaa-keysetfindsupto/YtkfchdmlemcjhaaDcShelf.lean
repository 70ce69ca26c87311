import Derived.Test.YtkfchdmlemcjhaaRows
import Derived.Ground.NamesProg
import Derived.Shelf.Lay
import Derived.Shelf.Strconv.ParseIntPublic10
import Derived.Shelf.Strconv.ErrVarParseInt
namespace Go.Proofs
open Go.RowKit Go.Shelf Go.Lib
end Go.Proofs
