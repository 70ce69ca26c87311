import Derived.Test.YtgkbbcoagnilgaaLayW
import Derived.Test.YtgkbbcoagnilgaaRound
import Derived.Test.YtgkbbcoagnilgaaComp4
namespace Go.Proofs.Ytgkbbcoagnilgaa
open Go.RowKit

theorem fxL (w : World) (xs : List Nat) (h : xs.length = 10) : ∀ x0 x1 x2 x3 x4 x5 x6 x7 x8 x9 : Nat, xs = [x0, x1, x2, x3, x4, x5, x6, x7, x8, x9] →
    Fx (w.alloc (.cells #[.int .u32 x0, .int .u32 x1, .int .u32 x2, .int .u32 x3, .int .u32 x4, .int .u32 x5, .int .u32 x6, .int .u32 x7, .int .u32 x8, .int .u32 x9] 27)) w.heap.size xs := by
  rintro x0 x1 x2 x3 x4 x5 x6 x7 x8 x9 rfl
  exact fx_laid w x0 x1 x2 x3 x4 x5 x6 x7 x8 x9

end Go.Proofs.Ytgkbbcoagnilgaa
