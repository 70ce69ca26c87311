import Derived.Test.YtjaopeenkbcjcaaDcA
import Derived.Test.YtjaopeenkbcjcaaDcShelf
namespace Go.Proofs.Ytjaopeenkbcjcaa.Dec
open Go.RowKit Go.Shelf

end Go.Proofs.Ytjaopeenkbcjcaa.Dec