import Derived.Test.YtgkbbcoagnilgaaComp
import Derived.Test.YtgkbbcoagnilgaaRead
namespace Go.Proofs.Ytgkbbcoagnilgaa
open Go.RowKit

end Go.Proofs.Ytgkbbcoagnilgaa
