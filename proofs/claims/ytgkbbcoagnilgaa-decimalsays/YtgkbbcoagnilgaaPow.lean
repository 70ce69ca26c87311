import Derived.Test.YtgkbbcoagnilgaaCut
namespace Go.Proofs.Ytgkbbcoagnilgaa
open Go.RowKit

end Go.Proofs.Ytgkbbcoagnilgaa
