import Derived.Test.YtjaopeenkbcjcaaRW
namespace Go.Proofs.Ytjaopeenkbcjcaa
open Go.RowKit Go.Shelf

end Go.Proofs.Ytjaopeenkbcjcaa
