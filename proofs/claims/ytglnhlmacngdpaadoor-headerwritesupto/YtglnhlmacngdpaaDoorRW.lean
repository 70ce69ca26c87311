import Derived.Test.YtglnhlmacngdpaaDoorRZ
import Derived.Laws.IdiomStrings
namespace Go.Proofs.YtglnhlmacngdpaaDoor
open Go.RowKit Go.Shelf

end Go.Proofs.YtglnhlmacngdpaaDoor

namespace Go.Proofs.YtglnhlmacngdpaaDoor
open Go.RowKit Go.Shelf

theorem conv_any (w : World) (a : Option Addr) (c : Nat) (l : List UInt8) (h : Rd w a l) : (convert 48 9 (.slice a l.length c)).run Tryd.prog w = .ok (.string ⟨l.toArray⟩) w := by
  rcases h with h | ⟨g, off, rfl, hg, hc⟩
  · subst h
    rw [run_convert_bytes_string w 48 9 5 a ([] : List UInt8).length c Tryd.underlying48 Tryd.underlying5 Tryd.underlying9]
    cases a <;> simp [Conv.bytesToString, loadCells] <;> rfl
  · refine run_convert_bytes_back w 48 9 5 ⟨g, off, none⟩ c l Tryd.underlying48 Tryd.underlying5 Tryd.underlying9 ?_
    intro j hj
    rw [Addr.add_mid, hc j hj, List.getD_eq_getElem?_getD, List.getElem?_eq_getElem hj]
    rfl

theorem infoU8 : (Tryd.prog.info? 5).map (fun i => (i.zero, i.size, i.bytes)) = some (some (.int .u8 0), 1, 1) := by kernel_rfl

end Go.Proofs.YtglnhlmacngdpaaDoor
