import Derived.Test.YtjaopeenkbcjcaaTY
import Derived.Test.YtjaopeenkbcjcaaJZ
import Derived.Lib.AppendStr
namespace Go.Proofs.Ytjaopeenkbcjcaa
open Go.RowKit Go.Shelf

end Go.Proofs.Ytjaopeenkbcjcaa

namespace Go.Proofs.Ytjaopeenkbcjcaa
open Go.RowKit Go.Shelf

end Go.Proofs.Ytjaopeenkbcjcaa

namespace Go.Proofs.Ytjaopeenkbcjcaa
open Go.RowKit Go.Shelf

end Go.Proofs.Ytjaopeenkbcjcaa

namespace Go.Proofs.Ytjaopeenkbcjcaa
open Go.RowKit Go.Shelf

end Go.Proofs.Ytjaopeenkbcjcaa

namespace Go.Proofs.Ytjaopeenkbcjcaa
open Go.RowKit Go.Shelf

end Go.Proofs.Ytjaopeenkbcjcaa

namespace Go.Proofs.Ytjaopeenkbcjcaa
open Go.RowKit Go.Shelf

end Go.Proofs.Ytjaopeenkbcjcaa
