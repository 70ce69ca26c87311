import Derived.Test.YtbgooffhikchmaaDoorTa
namespace Go.Proofs.YtbgooffhikchmaaDoor
open Go.RowKit
set_option maxRecDepth 100000

def zI (i : Int) : Value := .int .i64 i
/-- The table's cells. -/
def rowsC : List Value := [zI 1, zI 1, zI 0, zI 1, zI 1, zI 2, zI 1, zI 0, zI 2, zI 1, zI 3, zI 1, zI 0, zI 3, zI 1, zI 4, zI 2, zI 0, zI 1, zI 2, zI 5, zI 2, zI 0, zI 2, zI 2, zI 6, zI 2, zI 0, zI 3, zI 2, zI 7, zI 2, zI 0, zI 1, zI 3, zI 8, zI 2, zI 0, zI 2, zI 3, zI 9, zI 2, zI 0, zI 3, zI 3, zI 10, zI 3, zI 1, zI 1, zI 4, zI 11, zI 3, zI 2, zI 2, zI 4, zI 12, zI 4, zI 3, zI 0, zI 5]
def rwC (a b c d e : Int) : List Value := [zI a, zI b, zI c, zI d, zI e]
def rwV (a b c d e : Int) : Value := .agg #[zI a, zI b, zI c, zI d, zI e]

set_option maxRecDepth 100000 in
set_option maxHeartbeats 4000000 in
theorem rrows_any (w : World) : Calls Tryd.prog 19 #[] w fun e w' => e = .returned (.slice (some ⟨w.heap.size, 0, none⟩) 12 12) ∧ (∀ (j : Nat) v, rowsC[j]? = some v → w'.cell? ⟨w.heap.size, j, none⟩ = some v) ∧ Below w.heap.size w w' := by
  go_enter Tryd.func19, Tryd.ntmps19
  go_wp2
  go_ret
  have hb := alloc_bl w rowsC 38
  refine ⟨rfl, fun j v hv => ?_, alloc_below w _⟩
  obtain ⟨hj, e⟩ := List.getElem?_eq_some_iff.1 hv
  rw [← e]
  exact hb.cell j hj

end Go.Proofs.YtbgooffhikchmaaDoor
