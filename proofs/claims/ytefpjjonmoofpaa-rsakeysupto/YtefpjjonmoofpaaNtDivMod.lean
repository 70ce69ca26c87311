import Derived.Test.YtefpjjonmoofpaaNtDiv
namespace Go.Proofs.Ytefpjjonmoofpaa
open Go.RowKit

end Go.Proofs.Ytefpjjonmoofpaa
