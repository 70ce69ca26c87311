import Derived.Test.YtjaopeenkbcjcaaDoorRW
namespace Go.Proofs.YtjaopeenkbcjcaaDoor
open Go.RowKit Go.Shelf

end Go.Proofs.YtjaopeenkbcjcaaDoor
