import Derived.Test.YtapljedegjiliaaDoorRW
namespace Go.Proofs.YtapljedegjiliaaDoor
open Go.RowKit Go.Shelf

end Go.Proofs.YtapljedegjiliaaDoor
