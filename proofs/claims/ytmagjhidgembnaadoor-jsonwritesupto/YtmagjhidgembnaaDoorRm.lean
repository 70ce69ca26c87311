import Derived.Test.YtmagjhidgembnaaDoorRW
namespace Go.Proofs.YtmagjhidgembnaaDoor
open Go.RowKit Go.Shelf

end Go.Proofs.YtmagjhidgembnaaDoor
