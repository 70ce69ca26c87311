import Derived.Test.YtcankapgjgonnaaDoorCZ
import Derived.Test.YtcankapgjgonnaaDoorTZ
import Derived.Test.YtcankapgjgonnaaDoorOrk
namespace Go.Proofs.YtcankapgjgonnaaDoor
open Go.RowKit Go.Shelf

theorem TR.drewN {w : World} {v : Value} {l : List (List UInt8)} {ao : Option Addr} {cap : Nat} (h : TR w v l ao cap) (n : Nat) : TR (w.drewN n) v l ao cap := ⟨h.val, h.cap, h.cell⟩
end Go.Proofs.YtcankapgjgonnaaDoor

namespace Go.Proofs.YtcankapgjgonnaaDoor
open Go.RowKit Go.Shelf

end Go.Proofs.YtcankapgjgonnaaDoor

namespace Go.Proofs.YtcankapgjgonnaaDoor
open Go.RowKit Go.Shelf

end Go.Proofs.YtcankapgjgonnaaDoor

namespace Go.Proofs.YtcankapgjgonnaaDoor
open Go.RowKit

end Go.Proofs.YtcankapgjgonnaaDoor
