import Derived.Test.YtefpjjonmoofpaaNtFromU
import Derived.Test.YtefpjjonmoofpaaNtFromB
import Derived.Test.YtefpjjonmoofpaaNtSame
namespace Go.Proofs.Ytefpjjonmoofpaa
open Go.RowKit

theorem bl_aa : bl (18446744073709551615 * 18446744073709551615) = 128 := by decide +kernel
theorem dg_32 : dg Bs 4294967296 = [0, 1] := by
  rw [dg_pos Bs_two (by decide), show 4294967296 % Bs = 0 from by decide, show 4294967296 / Bs = 1 from by decide, dg_pos Bs_two (by decide), show 1 % Bs = 1 from by decide, show 1 / Bs = 0 from by decide, dg_zero]
theorem bv_five : bv [1, 0, 0, 0, 0] = 4294967296 := by decide
theorem dg_len64 {v : Nat} (h : v < 18446744073709551616) : (dg Bs v).length ≤ 2 := dg_len Bs_two 2 v (by rw [show Bs ^ 2 = 18446744073709551616 from by decide]; exact h)
theorem Ow.two {w : World} {base : Nat} {v : Value} {a b : Nat} (h : Ow w base v [a, b]) : ∃ g cap : Nat, v = .slice (some ⟨g, 0, none⟩) 2 cap ∧ w.cell? ⟨g, 0, none⟩ = some (.int .u32 (a : Int)) ∧ w.cell? ⟨g, 1, none⟩ = some (.int .u32 (b : Int)) := by
  rcases h.2 with ⟨_, h0⟩ | ⟨g, cap, cur, rfl, r⟩
  · simp at h0
  · exact ⟨g, cap, rfl, World.ownsRow.cellAt h 0 (by simp), World.ownsRow.cellAt h 1 (by simp)⟩
theorem Ow.none {w : World} {base : Nat} {v : Value} (h : Ow w base v []) : ∃ (a : Option Addr) (cap : Nat), v = .slice a 0 cap := by
  rcases h.2 with ⟨h0, _⟩ | ⟨g, cap, cur, e, r⟩
  · exact ⟨_, _, h0⟩
  · exact ⟨_, _, e⟩
theorem cell_below {w w' : World} {g o n : Nat} {v : Value} (h : w.cell? ⟨g, o, none⟩ = some v) (hb : Below n w w') (hn : w.heap.size ≤ n) : w'.cell? ⟨g, o, none⟩ = some v := cell_but h fun hg => hb.block _ (by omega)

end Go.Proofs.Ytefpjjonmoofpaa
