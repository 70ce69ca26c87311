import Derived.Test.YthnogdkkdekgpaaDoorRsRM
import Derived.Test.YthnogdkkdekgpaaDoorShZ7
import Derived.Test.YthnogdkkdekgpaaDoorNtZ7
import Derived.Lib.AppendZeros
namespace Go.Proofs.YthnogdkkdekgpaaDoor
open Go.RowKit

/-- append(nil, make(n)): so many noughts. -/
theorem append_made (w : World) (n : Nat) (h0 : 0 < n) (hn : n ≤ 100000000) :
    ∃ (cap : Nat) (cs : Array Value), n ≤ cap ∧ cap ≤ maxLen ∧ cs.size = cap ∧ (Builtin.append_ #[23, 3] 23 #[.slice none 0 0, .int .i64 (n : Int)]).run Tryd.prog w = .ok (.slice (some ⟨w.heap.size, 0, none⟩) n cap) (w.drew.alloc (.cells cs 5)) := by
  obtain ⟨i, hi, hz, hsize, hby⟩ := info_parts infoB
  have hn0 : n ≠ 0 := by omega
  have h63' : ¬ (9223372036854775807 < (n : Int)) := by omega
  have h48' : ¬ (281474976710656 < Builtin.nextslicecap n 0) := by rw [nextslicecap_zero h0]; omega
  have hw : IntKind.i64.wrap (n : Int) = (n : Int) := by rw [IntKind.wrap_i64]; omega
  have hu : Tryd.prog.underlying 3 = some (.int .i64) := Tryd.underlying3
  have hneg : ¬ ((n : Int) < 0) := by omega
  have hbig : ¬ (281474976710656 < (n : Int)) := by omega
  have hge := grownCap_ge w n 0 5
  refine ⟨grownCap w n 0 5, Builtin.zeroCells (Value.int IntKind.u8 0).cells n ++ Builtin.zeroCells (Value.int IntKind.u8 0).cells (grownCap w n 0 5 - n), by simpa using hge, ?_, ?_, ?_⟩
  · exact grownCap_le_maxLen w n 0 _ (by unfold maxLen; omega)
  · rw [Array.size_append]
    simp [Builtin.zeroCells, Value.cells]
    omega
  · simp [Builtin.append_, run_underlying Tryd.underlying23, run_underlying hu, sizeOf, typeInfo, zeroValue, hi, hz, hsize, hby, Builtin.lenOf, hn0, h63', h48', Question.forced, run_firstCells_none, newRow, grownCap, hw, hneg, hbig, asInt, asIntOf]

theorem Sha.Pts.below {w w' : World} {pa : Option Addr} {ps : List Sha.Prt} (h : Sha.Pts w pa ps) (hb : Below w.heap.size w w') : Sha.Pts w' pa ps := by
  obtain ⟨h1, h2⟩ := h
  refine ⟨?_, fun p hp => ⟨Sha.Rd.below (h2 p hp).1 hb (Nat.le_refl _), (h2 p hp).2⟩⟩
  rcases h1 with h1 | ⟨g, off, e, hc⟩
  · exact .inl h1
  · exact .inr ⟨g, off, e, fun j hj => cell_but (hc j hj) fun hg => hb.block g hg⟩

end Go.Proofs.YthnogdkkdekgpaaDoor
