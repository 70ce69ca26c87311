import Derived.Test.YtkaoobdemaahbaaRf6
namespace Go.Proofs.Ytkaoobdemaahbaa
open Go.RowKit

end Go.Proofs.Ytkaoobdemaahbaa
