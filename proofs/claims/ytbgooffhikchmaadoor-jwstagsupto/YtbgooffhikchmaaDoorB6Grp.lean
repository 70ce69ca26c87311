import Derived.Test.YtbgooffhikchmaaDoorB6Base
namespace Go.Proofs.YtbgooffhikchmaaDoor.B64
open Go.RowKit
set_option maxRecDepth 100000

end Go.Proofs.YtbgooffhikchmaaDoor.B64