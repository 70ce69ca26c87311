import Derived.Test.YtjaopeenkbcjcaaDoorTY
import Derived.Test.YtjaopeenkbcjcaaDoorJZ
import Derived.Lib.AppendStr
namespace Go.Proofs.YtjaopeenkbcjcaaDoor
open Go.RowKit Go.Shelf

end Go.Proofs.YtjaopeenkbcjcaaDoor

namespace Go.Proofs.YtjaopeenkbcjcaaDoor
open Go.RowKit Go.Shelf

end Go.Proofs.YtjaopeenkbcjcaaDoor

namespace Go.Proofs.YtjaopeenkbcjcaaDoor
open Go.RowKit Go.Shelf

end Go.Proofs.YtjaopeenkbcjcaaDoor

namespace Go.Proofs.YtjaopeenkbcjcaaDoor
open Go.RowKit Go.Shelf

end Go.Proofs.YtjaopeenkbcjcaaDoor

namespace Go.Proofs.YtjaopeenkbcjcaaDoor
open Go.RowKit Go.Shelf

end Go.Proofs.YtjaopeenkbcjcaaDoor

namespace Go.Proofs.YtjaopeenkbcjcaaDoor
open Go.RowKit Go.Shelf

end Go.Proofs.YtjaopeenkbcjcaaDoor
