import Derived.Test.YtkfchdmlemcjhaaJZ
import Derived.Test.YtkfchdmlemcjhaaRW
import Derived.Lib.ValidLaws
namespace Go.Proofs.Ytkfchdmlemcjhaa
open Go.RowKit

end Go.Proofs.Ytkfchdmlemcjhaa

namespace Go.Proofs.Ytkfchdmlemcjhaa
open Go.RowKit
open Dec (isD nd digs rst cutF cutP cutL badW pcut pcut1 pcut2 pcut3 pcut4 isE isS skS)

/-- What may stand at a number's end. -/
def PE (x : List UInt8) : Prop := (cutP x).2.2.1 = [] ∧ (cutP x).2.2.2 = true ∧ ∀ c r, x = c :: r → isD c = false ∧ c ≠ 46
def PF (x : List UInt8) : Prop := (cutF x).2.2 = true ∧ PE (cutF x).2.1 ∧ ∀ c r, x = c :: r → isD c = false

end Go.Proofs.Ytkfchdmlemcjhaa
