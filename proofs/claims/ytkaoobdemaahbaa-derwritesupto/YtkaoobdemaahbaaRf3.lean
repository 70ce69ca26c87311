import Derived.Test.YtkaoobdemaahbaaRf2
namespace Go.Proofs.Ytkaoobdemaahbaa
open Go.RowKit

end Go.Proofs.Ytkaoobdemaahbaa
