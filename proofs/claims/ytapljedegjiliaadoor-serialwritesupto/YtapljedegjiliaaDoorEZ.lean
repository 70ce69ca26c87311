import Derived.Test.YtapljedegjiliaaDoorCZ
import Derived.Test.YtapljedegjiliaaDoorTZ
import Derived.Test.YtapljedegjiliaaDoorOrk
namespace Go.Proofs.YtapljedegjiliaaDoor
open Go.RowKit Go.Shelf

theorem TR.drewN {w : World} {v : Value} {l : List (List UInt8)} {ao : Option Addr} {cap : Nat} (h : TR w v l ao cap) (n : Nat) : TR (w.drewN n) v l ao cap := ⟨h.val, h.cap, h.cell⟩
theorem takeT {l : List (List UInt8)} {k : Nat} (hk : k < l.length) : l.take (k + 1) = l.take k ++ [l.getD k []] := by
  rw [List.take_add_one, List.getElem?_eq_getElem hk]
  simp [List.getD_eq_getElem?_getD, hk]

end Go.Proofs.YtapljedegjiliaaDoor

namespace Go.Proofs.YtapljedegjiliaaDoor
open Go.RowKit Go.Shelf

end Go.Proofs.YtapljedegjiliaaDoor

namespace Go.Proofs.YtapljedegjiliaaDoor
open Go.RowKit Go.Shelf

end Go.Proofs.YtapljedegjiliaaDoor

namespace Go.Proofs.YtapljedegjiliaaDoor
open Go.RowKit

end Go.Proofs.YtapljedegjiliaaDoor
