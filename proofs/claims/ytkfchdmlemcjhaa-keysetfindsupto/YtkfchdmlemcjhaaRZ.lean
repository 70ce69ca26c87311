import Derived.Test.YtkfchdmlemcjhaaRX
import Derived.Lib.SlBytesConst
namespace Go.Proofs.Ytkfchdmlemcjhaa
open Go.RowKit Go.Shelf

def smallS : List UInt8 := [48, 49, 50, 51, 52, 53, 54, 55, 56, 57, 97, 98, 99, 100, 101, 102]
def largeS : List UInt8 := [48, 49, 50, 51, 52, 53, 54, 55, 56, 57, 65, 66, 67, 68, 69, 70]
end Go.Proofs.Ytkfchdmlemcjhaa

namespace Go.Proofs.Ytkfchdmlemcjhaa
open Go.RowKit Go.Shelf

end Go.Proofs.Ytkfchdmlemcjhaa

namespace Go.Proofs.Ytkfchdmlemcjhaa
open Go.RowKit Go.Shelf

/-- The two signs that are ranged over. -/
def Two (w : World) (g : Nat) : Prop := w.cell? ⟨g, 0, none⟩ = some (.int .u8 92) ∧ w.cell? ⟨g, 1, none⟩ = some (.int .u8 117)
end Go.Proofs.Ytkfchdmlemcjhaa

namespace Go.Proofs.Ytkfchdmlemcjhaa
open Go.RowKit Go.Shelf

end Go.Proofs.Ytkfchdmlemcjhaa
