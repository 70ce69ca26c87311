import Derived.Test.YtefpjjonmoofpaaNtBase
namespace Go.Proofs.Ytefpjjonmoofpaa
open Go.RowKit

end Go.Proofs.Ytefpjjonmoofpaa
