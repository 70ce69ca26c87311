import Derived.Test.YtefpjjonmoofpaaNtWr
namespace Go.Proofs.Ytefpjjonmoofpaa
open Go.RowKit

/-- So many bits Shl takes. -/
def shk (k : Int) : Nat := if k < 0 then 0 else if k ≤ 131072 then k.toNat else 131072

end Go.Proofs.Ytefpjjonmoofpaa
