import Derived.Test.YtcankapgjgonnaaDoorRZ
import Derived.Laws.IdiomStrings
namespace Go.Proofs.YtcankapgjgonnaaDoor
open Go.RowKit Go.Shelf

end Go.Proofs.YtcankapgjgonnaaDoor

namespace Go.Proofs.YtcankapgjgonnaaDoor
open Go.RowKit Go.Shelf

end Go.Proofs.YtcankapgjgonnaaDoor
