import Derived.Test.YtgkbbcoagnilgaaLayM
import Derived.Test.YtgkbbcoagnilgaaLimb3
import Derived.Laws.NewBlocks
namespace Go.Proofs.Ytgkbbcoagnilgaa
open Go.RowKit

/-- The digit at a place, also where there is none. -/
def di (z : List UInt8) (i : Int) : Nat := if 0 ≤ i then dz z i.toNat else 0

theorem di_le (z : List UInt8) (hz : allD z) (i : Int) : di z i ≤ 9 := by
  unfold di
  split
  · exact dz_le z hz _
  · omega

end Go.Proofs.Ytgkbbcoagnilgaa
