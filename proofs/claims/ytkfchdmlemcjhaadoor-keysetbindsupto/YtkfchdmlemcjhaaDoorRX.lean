import Derived.Test.YtkfchdmlemcjhaaDoorRY
import Derived.Test.YtkfchdmlemcjhaaDoorShelf
namespace Go.Proofs.YtkfchdmlemcjhaaDoor
open Go.RowKit Go.Shelf

theorem ext_sgl (t : List UInt8) (a b : Nat) : (⟨t.toArray⟩ : ByteArray).extract a b = ⟨(sgl t a b).toArray⟩ := by rw [Lib.extract_eq]; rfl
end Go.Proofs.YtkfchdmlemcjhaaDoor

namespace Go.Proofs.YtkfchdmlemcjhaaDoor
open Go.RowKit Go.Shelf

/-- The tables of unicode/utf8 stand. -/
def U8 (w : World) : Prop := Lib.Utf8Tabs 1 2 w

theorem U8.below {w w' : World} (h : U8 w) (hb : Below w.heap.size w w') : U8 w' := Utf8Tabs_below h hb
theorem U8.drewN {w : World} (h : U8 w) (n : Nat) : U8 (w.drewN n) := h

end Go.Proofs.YtkfchdmlemcjhaaDoor
