import Derived.Test.YtjaopeenkbcjcaaRZ
import Derived.Laws.IdiomStrings
namespace Go.Proofs.Ytjaopeenkbcjcaa
open Go.RowKit Go.Shelf

end Go.Proofs.Ytjaopeenkbcjcaa

namespace Go.Proofs.Ytjaopeenkbcjcaa
open Go.RowKit Go.Shelf

end Go.Proofs.Ytjaopeenkbcjcaa
