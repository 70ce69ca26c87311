import Derived.Test.YtgkbbcoagnilgaaCmp
namespace Go.Proofs.Ytgkbbcoagnilgaa
open Go.RowKit

end Go.Proofs.Ytgkbbcoagnilgaa
