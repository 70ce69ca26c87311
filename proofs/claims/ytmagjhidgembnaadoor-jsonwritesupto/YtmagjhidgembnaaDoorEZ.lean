import Derived.Test.YtmagjhidgembnaaDoorCZ
import Derived.Test.YtmagjhidgembnaaDoorTZ
import Derived.Test.YtmagjhidgembnaaDoorOrk
namespace Go.Proofs.YtmagjhidgembnaaDoor
open Go.RowKit Go.Shelf

theorem TR.drewN {w : World} {v : Value} {l : List (List UInt8)} {ao : Option Addr} {cap : Nat} (h : TR w v l ao cap) (n : Nat) : TR (w.drewN n) v l ao cap := ⟨h.val, h.cap, h.cell⟩
end Go.Proofs.YtmagjhidgembnaaDoor

namespace Go.Proofs.YtmagjhidgembnaaDoor
open Go.RowKit Go.Shelf

end Go.Proofs.YtmagjhidgembnaaDoor

namespace Go.Proofs.YtmagjhidgembnaaDoor
open Go.RowKit Go.Shelf

end Go.Proofs.YtmagjhidgembnaaDoor

namespace Go.Proofs.YtmagjhidgembnaaDoor
open Go.RowKit

end Go.Proofs.YtmagjhidgembnaaDoor
