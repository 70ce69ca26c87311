import Derived.Test.YtbgooffhikchmaaDoorShHm5
namespace Go.Proofs.YtbgooffhikchmaaDoor.Sha
open Go.RowKit
set_option maxRecDepth 100000

theorem fill_end (l : List UInt8) (N k : Nat) (hk : k ≤ N) (h : l.length ≤ k ∨ N ≤ k) : (List.range k).map (fun i => l.getD i 0) ++ List.replicate (N - k) 0 = (List.range N).map (fun i => l.getD i 0) := by
  rcases h with h | h
  · apply List.ext_getElem
    · simp; omega
    · intro j h1 h2
      rcases Nat.lt_or_ge j k with hj | hj
      · rw [List.getElem_append_left (by simpa using hj)]
        simp
      · rw [List.getElem_append_right (by simpa using hj)]
        simp [List.getElem?_eq_none (show l.length ≤ j by omega)]
  · obtain rfl : k = N := by omega
    simp

set_option maxRecDepth 100000 in
theorem jefe : tagF 1 [74, 101, 102, 101] [119, 104, 97, 116, 32, 100, 111, 32, 121, 97, 32, 119, 97, 110, 116, 32, 102, 111, 114, 32, 110, 111, 116, 104, 105, 110, 103, 63] = [91, 220, 193, 70, 191, 96, 117, 78, 106, 4, 36, 38, 8, 149, 117, 199, 90, 0, 63, 8, 157, 39, 57, 131, 157, 236, 88, 185, 100, 236, 56, 67] := by decide +kernel

/-- A constant's bytes. -/
theorem const_rd (w : World) (l : List UInt8) (t : TypeId) (fz : Nat × Nat) : Rd (w.alloc (.cells (l.map B).toArray t fz)) (some ⟨w.heap.size, 0, none⟩) l := by
  have a1 := alloc_last w (.cells (l.map B).toArray t fz)
  refine .inr ⟨w.heap.size, 0, rfl, by rw [alloc_size]; omega, fun j hj => ?_⟩
  generalize w.alloc _ = W at a1 ⊢
  unfold World.cell?
  simp [a1, hj]
theorem jd (w W : World) (t : TypeId) (f1 f2 : Nat × Nat) (hW : W = (w.alloc (.cells #[.int .u8 74, .int .u8 101, .int .u8 102, .int .u8 101] t f1)).alloc (.cells #[.int .u8 119, .int .u8 104, .int .u8 97, .int .u8 116, .int .u8 32, .int .u8 100, .int .u8 111, .int .u8 32, .int .u8 121, .int .u8 97, .int .u8 32, .int .u8 119, .int .u8 97, .int .u8 110, .int .u8 116, .int .u8 32, .int .u8 102, .int .u8 111, .int .u8 114, .int .u8 32, .int .u8 110, .int .u8 111, .int .u8 116, .int .u8 104, .int .u8 105, .int .u8 110, .int .u8 103, .int .u8 63] t f2)) :
    Below w.heap.size w W ∧ Rd W (some ⟨w.heap.size, 0, none⟩) [74, 101, 102, 101] ∧ Rd W (some ⟨w.heap.size + 1, 0, none⟩) [119, 104, 97, 116, 32, 100, 111, 32, 121, 97, 32, 119, 97, 110, 116, 32, 102, 111, 114, 32, 110, 111, 116, 104, 105, 110, 103, 63] := by
  have e1 : (#[.int .u8 74, .int .u8 101, .int .u8 102, .int .u8 101] : Array Value) = (([74, 101, 102, 101] : List UInt8).map B).toArray := rfl
  have e2 : (#[.int .u8 119, .int .u8 104, .int .u8 97, .int .u8 116, .int .u8 32, .int .u8 100, .int .u8 111, .int .u8 32, .int .u8 121, .int .u8 97, .int .u8 32, .int .u8 119, .int .u8 97, .int .u8 110, .int .u8 116, .int .u8 32, .int .u8 102, .int .u8 111, .int .u8 114, .int .u8 32, .int .u8 110, .int .u8 111, .int .u8 116, .int .u8 104, .int .u8 105, .int .u8 110, .int .u8 103, .int .u8 63] : Array Value) = (([119, 104, 97, 116, 32, 100, 111, 32, 121, 97, 32, 119, 97, 110, 116, 32, 102, 111, 114, 32, 110, 111, 116, 104, 105, 110, 103, 63] : List UInt8).map B).toArray := rfl
  rw [e1, e2] at hW
  obtain ⟨w1, hw1⟩ : ∃ w1, w1 = w.alloc (.cells (([74, 101, 102, 101] : List UInt8).map B).toArray t f1) := ⟨_, rfl⟩
  rw [← hw1] at hW
  have h1 : Below w.heap.size w w1 := by rw [hw1]; exact alloc_below _ _
  have h2 : Below w1.heap.size w1 W := by rw [hW]; exact alloc_below _ _
  have s1 : w1.heap.size = w.heap.size + 1 := by rw [hw1]; exact alloc_size _ _
  refine ⟨h1.trans (h2.mono (by omega)), ?_, ?_⟩
  · have := const_rd w [74, 101, 102, 101] t f1
    rw [← hw1] at this
    exact this.below h2 (Nat.le_refl _)
  · have := const_rd w1 [119, 104, 97, 116, 32, 100, 111, 32, 121, 97, 32, 119, 97, 110, 116, 32, 102, 111, 114, 32, 110, 111, 116, 104, 105, 110, 103, 63] t f2
    rw [← hW, s1] at this
    exact this

end Go.Proofs.YtbgooffhikchmaaDoor.Sha