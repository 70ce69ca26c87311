import Derived.Test.YtglnhlmacngdpaaDoorOrk
import Derived.Test.YtglnhlmacngdpaaDoorJZ
import Derived.Lib.Bytealg
import Derived.Deep.LoopGhost
namespace Go.Proofs.YtglnhlmacngdpaaDoor
open Go.RowKit

set_option maxRecDepth 100000 in
set_option maxHeartbeats 400000 in
theorem ixlite_any (row : ByteArray) (c : UInt8) (w : World) :
    Calls Tryd.prog 43 #[.string row, .int .u8 c.toNat] w fun e w' => e = .returned (.int .i64 (Lib.indexByte row.data.toList c)) ∧ w' = w := by
  go_enter Tryd.func43, Tryd.ntmps43
  go_wp2
  rw [run_callFunc_extern Tryd.func53 (by kernel_rfl) (by kernel_rfl) (by kernel_rfl) (e := Extern.BytealgIndexByte.indexByte) (by kernel_rfl), Lib.run_indexByteString]
  simp only [Result.andThen]
  rw [Oper.upon_value]
  go_wp2
  go_ret
  exact ⟨by simp, rfl⟩

set_option maxHeartbeats 400000 in
theorem indexByte_row (row : ByteArray) (c : UInt8) (w : World) : Calls Tryd.prog 37 #[.string row, .int .u8 c.toNat] w fun e w' => e = .returned (.int .i64 (Lib.indexByte row.data.toList c)) ∧ w' = w := by
  go_enter Tryd.func37, Tryd.ntmps37
  go_wp2_with fail
  refine (ixlite_any row c w).mono ?_
  rintro e w' ⟨rfl, rfl⟩
  go_wp2
  go_ret
  exact ⟨rfl, rfl⟩
theorem indexByte_any (l : List UInt8) (c : UInt8) (w : World) : Calls Tryd.prog 37 #[.string ⟨l.toArray⟩, .int .u8 c.toNat] w fun e w' => e = .returned (.int .i64 (Lib.indexByte l c)) ∧ w' = w := indexByte_row ⟨l.toArray⟩ c w

/-- What a reader holds beside its text, place and fault. -/
structure X5 where
  aw : Value
  nodes : Value
  opn : Value
  key : Value
  met : Value

/-- The place behind a byte that was taken, or the same. -/
def stp (c : Bool) (p : Nat) : Nat := if c then p + 1 else p

def PB (b : Nat) : Value := .pointer (some ⟨b, 0, none⟩)

end Go.Proofs.YtglnhlmacngdpaaDoor

namespace Go.Proofs.YtglnhlmacngdpaaDoor
open Go.RowKit

end Go.Proofs.YtglnhlmacngdpaaDoor

namespace Go.Proofs.YtglnhlmacngdpaaDoor
open Go.RowKit

end Go.Proofs.YtglnhlmacngdpaaDoor
