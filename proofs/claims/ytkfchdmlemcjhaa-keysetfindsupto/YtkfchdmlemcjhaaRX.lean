import Derived.Test.YtkfchdmlemcjhaaRY
import Derived.Test.YtkfchdmlemcjhaaShelf
namespace Go.Proofs.Ytkfchdmlemcjhaa
open Go.RowKit Go.Shelf

end Go.Proofs.Ytkfchdmlemcjhaa

namespace Go.Proofs.Ytkfchdmlemcjhaa
open Go.RowKit Go.Shelf

end Go.Proofs.Ytkfchdmlemcjhaa
