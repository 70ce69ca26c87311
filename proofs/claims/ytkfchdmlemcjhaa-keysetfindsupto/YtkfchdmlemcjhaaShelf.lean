import Derived.Test.YtkfchdmlemcjhaaRows
import Derived.Ground.NamesProg
import Derived.Shelf.Lay
import Derived.Shelf.Strconv.Clone
import Derived.Shelf.Unicode.ValidAny
import Derived.Shelf.Unicode.DecodeAny
import Derived.Shelf.Utf8.AppendRune
namespace Go.Proofs
open Go.RowKit Go.Shelf Go.Lib
end Go.Proofs
