import Derived.Test.YthnogdkkdekgpaaDoorRsRM
namespace Go.Proofs.YthnogdkkdekgpaaDoor
open Go.RowKit

end Go.Proofs.YthnogdkkdekgpaaDoor
