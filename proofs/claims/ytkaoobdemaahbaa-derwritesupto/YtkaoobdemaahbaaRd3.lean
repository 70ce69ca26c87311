import Derived.Test.YtkaoobdemaahbaaRd2
namespace Go.Proofs.Ytkaoobdemaahbaa
open Go.RowKit

end Go.Proofs.Ytkaoobdemaahbaa
