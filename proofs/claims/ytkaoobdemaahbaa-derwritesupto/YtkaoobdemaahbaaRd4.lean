import Derived.Test.YtkaoobdemaahbaaRd3
namespace Go.Proofs.Ytkaoobdemaahbaa
open Go.RowKit

end Go.Proofs.Ytkaoobdemaahbaa
