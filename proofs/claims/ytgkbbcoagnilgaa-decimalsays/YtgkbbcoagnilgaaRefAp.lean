import Derived.Test.YtgkbbcoagnilgaaRefA
namespace Go.Proofs.Ytgkbbcoagnilgaa
open Go.RowKit

end Go.Proofs.Ytgkbbcoagnilgaa
