import Derived.Test.YtpfdaclmchcbiaaGreatDoorTY
import Derived.Test.YtpfdaclmchcbiaaGreatDoorJZ
import Derived.Lib.AppendStr
namespace Go.Proofs.YtpfdaclmchcbiaaGreatDoor
open Go.RowKit Go.Shelf

theorem strC (l : List UInt8) : Lib.strCells ⟨l.toArray⟩ = l.map B := rfl

end Go.Proofs.YtpfdaclmchcbiaaGreatDoor

namespace Go.Proofs.YtpfdaclmchcbiaaGreatDoor
open Go.RowKit Go.Shelf

end Go.Proofs.YtpfdaclmchcbiaaGreatDoor

namespace Go.Proofs.YtpfdaclmchcbiaaGreatDoor
open Go.RowKit Go.Shelf

end Go.Proofs.YtpfdaclmchcbiaaGreatDoor

namespace Go.Proofs.YtpfdaclmchcbiaaGreatDoor
open Go.RowKit Go.Shelf

end Go.Proofs.YtpfdaclmchcbiaaGreatDoor

namespace Go.Proofs.YtpfdaclmchcbiaaGreatDoor
open Go.RowKit Go.Shelf

end Go.Proofs.YtpfdaclmchcbiaaGreatDoor

namespace Go.Proofs.YtpfdaclmchcbiaaGreatDoor
open Go.RowKit Go.Shelf

end Go.Proofs.YtpfdaclmchcbiaaGreatDoor
