import Derived.Test.YtglnhlmacngdpaaDoorRW
namespace Go.Proofs.YtglnhlmacngdpaaDoor
open Go.RowKit Go.Shelf

end Go.Proofs.YtglnhlmacngdpaaDoor
