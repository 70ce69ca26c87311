import Derived.Test.YtgkbbcoagnilgaaBase
namespace Go.Proofs.Ytgkbbcoagnilgaa
open Go.RowKit

/-- How two whole numbers stand to each other. -/
def cmp3 (a b : Int) : Int := if a < b then -1 else if b < a then 1 else 0

/-- The sign of a number: of its minus and its digits. -/
def sgn (m : Bool) (z : List UInt8) : Int := if z = [] then 0 else if m then -1 else 1

end Go.Proofs.Ytgkbbcoagnilgaa
