import Derived.Test.YtkfchdmlemcjhaaDoorRX
import Derived.Lib.SlBytesConst
namespace Go.Proofs.YtkfchdmlemcjhaaDoor
open Go.RowKit Go.Shelf

def smallS : List UInt8 := [48, 49, 50, 51, 52, 53, 54, 55, 56, 57, 97, 98, 99, 100, 101, 102]
def largeS : List UInt8 := [48, 49, 50, 51, 52, 53, 54, 55, 56, 57, 65, 66, 67, 68, 69, 70]
end Go.Proofs.YtkfchdmlemcjhaaDoor

namespace Go.Proofs.YtkfchdmlemcjhaaDoor
open Go.RowKit Go.Shelf

end Go.Proofs.YtkfchdmlemcjhaaDoor

namespace Go.Proofs.YtkfchdmlemcjhaaDoor
open Go.RowKit Go.Shelf

/-- The two signs that are ranged over. -/
def Two (w : World) (g : Nat) : Prop := w.cell? ⟨g, 0, none⟩ = some (.int .u8 92) ∧ w.cell? ⟨g, 1, none⟩ = some (.int .u8 117)
theorem Two.but {w w' : World} {g b : Nat} (h : Two w g) (hb : But w w' b) (hne : g ≠ b) : Two w' g :=
  ⟨cell_but h.1 fun hg => hb.block g hg hne, cell_but h.2 fun hg => hb.block g hg hne⟩

end Go.Proofs.YtkfchdmlemcjhaaDoor

namespace Go.Proofs.YtkfchdmlemcjhaaDoor
open Go.RowKit Go.Shelf

end Go.Proofs.YtkfchdmlemcjhaaDoor
