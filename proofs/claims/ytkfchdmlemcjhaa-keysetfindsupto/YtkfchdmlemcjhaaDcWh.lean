import Derived.Test.YtkfchdmlemcjhaaDcA
import Derived.Test.YtkfchdmlemcjhaaDcShelf
namespace Go.Proofs.Ytkfchdmlemcjhaa.Dec
open Go.RowKit Go.Shelf

end Go.Proofs.Ytkfchdmlemcjhaa.Dec