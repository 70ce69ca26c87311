import Derived.Test.YtcankapgjgonnaaDoorRW
namespace Go.Proofs.YtcankapgjgonnaaDoor
open Go.RowKit Go.Shelf

end Go.Proofs.YtcankapgjgonnaaDoor
