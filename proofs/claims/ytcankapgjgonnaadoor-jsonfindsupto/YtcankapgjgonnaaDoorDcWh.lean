import Derived.Test.YtcankapgjgonnaaDoorDcA
import Derived.Test.YtcankapgjgonnaaDoorDcShelf
namespace Go.Proofs.YtcankapgjgonnaaDoor.Dec
open Go.RowKit Go.Shelf

end Go.Proofs.YtcankapgjgonnaaDoor.Dec