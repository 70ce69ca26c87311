import Derived.Test.YtgkbbcoagnilgaaRows
import Derived.Ground.NamesProg
import Derived.Shelf.Lay
import Derived.Shelf.Strconv.Itoa0
namespace Go.Proofs
open Go.Shelf Go.Lib
end Go.Proofs
