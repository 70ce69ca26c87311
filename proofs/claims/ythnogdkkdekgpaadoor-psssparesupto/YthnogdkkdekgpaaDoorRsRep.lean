import Derived.Test.YthnogdkkdekgpaaDoorRsMul
import Derived.Test.YthnogdkkdekgpaaDoorShZ6
import Derived.Lib.MakeNoZero
import Derived.Lib.SlBuf
namespace Go.Proofs.YthnogdkkdekgpaaDoor
open Go.RowKit

theorem Cl.rep {w : World} {h k : Nat} {x : UInt8} {r : List Value} (hc : Cl w h (List.replicate k (B x) ++ r)) (j : Nat) (hj : j < k) : w.cell? ⟨h, j, none⟩ = some (B x) := by
  rw [hc.cell j (by simp; omega), List.getElem_append_left (by simp; omega), List.getElem_replicate]
theorem below_cells {B0 b : Nat} (hb : B0 ≤ b) : ∀ (xs : List Value) (o : Nat) (w w' : World), Below B0 w w' → Below B0 w (w'.setCells b o xs)
  | [], _, _, _, h => h
  | v :: r, o, w, w', h => below_cells hb r (o + 1) w (w'.setCell ⟨b, o, none⟩ v) (h.setCell (by exact hb) v)
/-- More of the buffer is filled out of itself. -/
theorem rep_copy (w : World) (h N k m d : Nat) (x : UInt8) (r : List Value) (hc : Cl w h (List.replicate k (B x) ++ r)) (hm : Nat.min k d = m) (hd : m ≤ r.length) :
    (∀ q, (Builtin.copy_ #[23, 23] 3 #[.slice (some ⟨h, k, none⟩) d d, .slice (some ⟨h, 0, none⟩) k N]).run Tryd.prog (w.drewN q) = .ok (goInt m) ((w.setCells h k (List.replicate m (B x))).drewN q)) ∧
      Cl (w.setCells h k (List.replicate m (B x))) h (List.replicate (k + m) (B x) ++ r.drop m) := by
  have hmk : m ≤ k := by rw [← hm]; exact Nat.min_le_left _ _
  constructor
  · intro q
    have h1 := run_copy_cells (P := Tryd.prog) (w.drewN q) 23 23 3 5 h k d d ⟨h, 0, none⟩ k N (List.replicate m (B x)) Tryd.underlying23 (by kernel_rfl) (by rw [List.length_replicate]; exact hm.symm) (fun j v hj => by
          obtain ⟨hj1, hj2⟩ := List.getElem?_eq_some_iff.1 hj
          have hj3 : j < m := by simpa using hj1
          rw [Addr.add_mid, Nat.zero_add]
          show w.cell? _ = _
          rw [hc.rep j (by omega), ← hj2, List.getElem_replicate]) (fun j hj => by
          rw [List.length_replicate] at hj
          show (w.cell? _).isSome = true
          rw [hc.cell (k + j) (by simp; omega)]
          rfl) (fun j _ => hc.frozen _) (fun v hv => by rw [List.eq_of_mem_replicate hv]; rfl)
    rw [List.length_replicate, Sha.setCells_drewN] at h1
    exact h1
  · have h1 := Sha.Cl.cells (List.replicate m (B x)) k w _ hc (by simp; omega)
    unfold Sha.spl at h1
    rw [List.length_replicate, List.take_append_of_le_length (by simp), List.take_of_length_le (by simp), ← List.drop_drop, List.drop_left' (List.length_replicate (n := k)), List.replicate_append_replicate] at h1
    exact h1

end Go.Proofs.YthnogdkkdekgpaaDoor
