import Derived.Test.YtjaopeenkbcjcaaWZ
namespace Go.Proofs.Ytjaopeenkbcjcaa
open Go.RowKit Go.Shelf

end Go.Proofs.Ytjaopeenkbcjcaa
