import Derived.Test.YtefpjjonmoofpaaDoorShAbc
import Derived.Lib.SlBytesConst
namespace Go.Proofs.YtefpjjonmoofpaaDoor.Sha
open Go.RowKit
set_option maxRecDepth 100000

theorem alloc_last (w : World) (o : Obj) : (w.alloc o).heap[w.heap.size]? = some o := by unfold World.alloc; simp
theorem alloc_size (w : World) (o : Obj) : (w.alloc o).heap.size = w.heap.size + 1 := by unfold World.alloc; simp

/-- A list of one part, both new. -/
theorem abc_pts (w : World) (t1 t2 : TypeId) (W : World) (hW : W = (w.alloc (.cells #[.int .u8 97, .int .u8 98, .int .u8 99] t1 (3, 4))).alloc (.cells #[.slice (some ⟨w.heap.size, 0, none⟩) 3 3] t2)) :
    Below w.heap.size w W ∧ Pts W (some ⟨w.heap.size + 1, 0, none⟩) [⟨some ⟨w.heap.size, 0, none⟩, 3, [97, 98, 99]⟩] := by
  obtain ⟨w1, hw1⟩ : ∃ w1, w1 = w.alloc (.cells #[.int .u8 97, .int .u8 98, .int .u8 99] t1 (3, 4)) := ⟨_, rfl⟩
  rw [← hw1] at hW
  have h1 : Below w.heap.size w w1 := by rw [hw1]; exact alloc_below _ _
  have h2 : Below w1.heap.size w1 W := by rw [hW]; exact alloc_below _ _
  have e1 : w1.heap.size = w.heap.size + 1 := by rw [hw1]; exact alloc_size _ _
  have a1 : W.heap[w.heap.size]? = some (.cells #[.int .u8 97, .int .u8 98, .int .u8 99] t1 (3, 4)) := by
    rw [h2.block _ (by omega), hw1]
    exact alloc_last _ _
  have a2 : W.heap[w.heap.size + 1]? = some (.cells #[.slice (some ⟨w.heap.size, 0, none⟩) 3 3] t2) := by
    rw [← e1, hW]
    exact alloc_last _ _
  refine ⟨h1.trans (h2.mono (by omega)), .inr ⟨_, 0, rfl, fun j hj => ?_⟩, fun p hp => ?_⟩
  · have : j = 0 := by simpa using hj
    subst this
    unfold World.cell?
    simp [a2, prV]
  · obtain rfl := List.mem_singleton.1 hp
    refine ⟨.inr ⟨w.heap.size, 0, rfl, (Array.getElem?_eq_some_iff.1 a1).1, fun j hj => ?_⟩, by simp, by simp⟩
    have hj2 : j = 0 ∨ j = 1 ∨ j = 2 := by have : j < 3 := by simpa using hj
                                           omega
    unfold World.cell?
    rcases hj2 with rfl | rfl | rfl <;> simp [a1, B]

theorem own_cell {w : World} {B0 : Nat} {a : Option Addr} {l : List UInt8} (h : Own w B0 a l) (hl : 0 < l.length) : ∃ g, a = some ⟨g, 0, none⟩ ∧ B0 ≤ g ∧ Cl w g (l.map B) := by
  rcases h with ⟨_, h⟩ | h
  · subst h; simp at hl
  · obtain ⟨g, e, hg, hc⟩ := h
    exact ⟨g, e, hg, hc.cl⟩
theorem own_bl {w : World} {B0 : Nat} {a : Option Addr} {l : List UInt8} (h : Own w B0 a l) (hl : 0 < l.length) : ∃ g, a = some ⟨g, 0, none⟩ ∧ B0 ≤ g ∧ Bl 5 w g (l.map B) := by
  rcases h with ⟨_, h⟩ | h
  · subst h; simp at hl
  · exact h

end Go.Proofs.YtefpjjonmoofpaaDoor.Sha