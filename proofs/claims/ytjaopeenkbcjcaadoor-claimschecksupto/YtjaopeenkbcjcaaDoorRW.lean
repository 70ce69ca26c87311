import Derived.Test.YtjaopeenkbcjcaaDoorRZ
import Derived.Laws.IdiomStrings
namespace Go.Proofs.YtjaopeenkbcjcaaDoor
open Go.RowKit Go.Shelf

end Go.Proofs.YtjaopeenkbcjcaaDoor

namespace Go.Proofs.YtjaopeenkbcjcaaDoor
open Go.RowKit Go.Shelf

end Go.Proofs.YtjaopeenkbcjcaaDoor
