import Derived.Test.YtkaiecpdkieedaaGreatDoorWZ
namespace Go.Proofs.YtkaiecpdkieedaaGreatDoor
open Go.RowKit Go.Shelf

theorem below_drew1 {n : Nat} {w w' : World} (h : Below n w w') : Below n w w'.drew := below_drewN h 1
theorem kidsF_out (l : List Nd) : kidsF l (l.length : Int) = [] := by unfold kidsF; rw [if_neg (by omega)]
theorem behindF_in {l : List Nd} {i : Nat} (h : i < l.length) : behindF l (i : Int) = (bhN l i : Int) := by unfold behindF; rw [if_pos ⟨by omega, by omega⟩, Int.toNat_natCast]
theorem behindF_neg (l : List Nd) : behindF l (-1) = -1 := by unfold behindF; rw [if_neg (by omega)]
theorem behindF_out (l : List Nd) : behindF l (l.length : Int) = -1 := by unfold behindF; rw [if_neg (by omega)]
theorem memF_neg (l : List Nd) (k : List UInt8) : memF l (-1) k = -1 := by unfold memF; rw [if_neg (by omega)]
theorem Ch.step {v : List Nd} {L : List Nat} {j i e : Nat} (h : Ch v i (L.drop j) e) (hj : j < L.length) : L.getD j 0 = i ∧ Ch v (bhN v i) (L.drop (j + 1)) e := by
  rw [List.drop_eq_getElem_cons hj] at h
  refine ⟨?_, h.2⟩
  rw [← h.1]
  simp [List.getD_eq_getElem?_getD, hj]
theorem Ch.stop {v : List Nd} {L : List Nat} {j i e : Nat} (h : Ch v i (L.drop j) e) (hj : L.length ≤ j) : i = e := by
  rw [List.drop_eq_nil_of_le hj] at h
  exact h

/-- The nodes of a part. -/
theorem part_cells {l : List Nd} {k m : Nat} (h : k + m ≤ l.length) (j : Nat) (u : Value) (hu : (nCs ((l.drop k).take m))[j]? = some u) : (nCs l)[k * 6 + j]? = some u := by
  have e : l = l.take k ++ ((l.drop k).take m ++ (l.drop k).drop m) := by rw [List.take_append_drop, List.take_append_drop]
  rw [e, nCs_append, nCs_append, List.getElem?_append_right (by rw [nCs_length, List.length_take]; omega), nCs_length, List.length_take, show k * 6 + j - min k l.length * 6 = j by rw [Nat.min_eq_left (by omega)]; omega]
  rw [List.getElem?_append_left (List.getElem?_eq_some_iff.1 hu).1]
  exact hu
theorem part_head {l : List Nd} {k m : Nat} (h : k + m ≤ l.length) (hm : 0 < m) : (l.drop k).take m = l.getD k (nd0 0) :: (l.drop (k + 1)).take (m - 1) := by
  rw [dropN (by omega)]
  obtain ⟨m, rfl⟩ : ∃ m', m = m' + 1 := ⟨m - 1, by omega⟩
  rfl
theorem nCs_one' (l : List Nd) : ∀ u ∈ nCs l, u.oneCell' = true := by
  intro u hu
  unfold nCs at hu
  obtain ⟨n, _, hn⟩ := List.mem_flatMap.1 hu
  simp [nC] at hn
  rcases hn with rfl | rfl | rfl | rfl | rfl | rfl <;> rfl

end Go.Proofs.YtkaiecpdkieedaaGreatDoor
