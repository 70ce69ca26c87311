import Derived.Test.YtkfchdmlemcjhaaDoorWZ
namespace Go.Proofs.YtkfchdmlemcjhaaDoor
open Go.RowKit Go.Shelf

theorem Ch.step {v : List Nd} {L : List Nat} {j i e : Nat} (h : Ch v i (L.drop j) e) (hj : j < L.length) : L.getD j 0 = i ∧ Ch v (bhN v i) (L.drop (j + 1)) e := by
  rw [List.drop_eq_getElem_cons hj] at h
  refine ⟨?_, h.2⟩
  rw [← h.1]
  simp [List.getD_eq_getElem?_getD, hj]
theorem Ch.stop {v : List Nd} {L : List Nat} {j i e : Nat} (h : Ch v i (L.drop j) e) (hj : L.length ≤ j) : i = e := by
  rw [List.drop_eq_nil_of_le hj] at h
  exact h

end Go.Proofs.YtkfchdmlemcjhaaDoor
