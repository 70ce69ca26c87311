import Derived.Test.YtpfdaclmchcbiaaDoorB6Same
namespace Go.Proofs.YtpfdaclmchcbiaaDoor.B64
open Go.RowKit
set_option maxRecDepth 100000

theorem decU_w : decU [45, 95, 56] = (some [251, 255], 0, 0) := by decide +kernel
theorem decS_w : decS [43, 47, 56, 61] = (some [251, 255], 0, 0) := by decide +kernel
theorem encU_w : enc urlRow [251, 255] = [45, 95, 56] := by decide +kernel
theorem encS_w : enc stdRow [251, 255] ++ fill 2 = [43, 47, 56, 61] := by decide +kernel

end Go.Proofs.YtpfdaclmchcbiaaDoor.B64