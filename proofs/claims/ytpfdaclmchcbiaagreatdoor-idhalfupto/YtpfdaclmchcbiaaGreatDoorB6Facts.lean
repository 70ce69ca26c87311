import Derived.Test.YtpfdaclmchcbiaaGreatDoorB6Math
namespace Go.Proofs.YtpfdaclmchcbiaaGreatDoor.B64
open Go.RowKit
set_option maxRecDepth 100000

end Go.Proofs.YtpfdaclmchcbiaaGreatDoor.B64