import Derived.Test.YtjaopeenkbcjcaaRY
import Derived.Test.YtjaopeenkbcjcaaShelf
namespace Go.Proofs.Ytjaopeenkbcjcaa
open Go.RowKit Go.Shelf

end Go.Proofs.Ytjaopeenkbcjcaa

namespace Go.Proofs.Ytjaopeenkbcjcaa
open Go.RowKit Go.Shelf

end Go.Proofs.Ytjaopeenkbcjcaa
