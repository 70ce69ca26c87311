import Derived.Test.YthnogdkkdekgpaaDoorPM
import Derived.Test.YthnogdkkdekgpaaDoorRsLent
namespace Go.Proofs.YthnogdkkdekgpaaDoor
open Go.RowKit

theorem Rd.dropP {w : World} {g off : Nat} {l : List UInt8} (h : Rd w (some ⟨g, off, none⟩) l) (k : Nat) : Rd w (some ⟨g, off + k, none⟩) (l.drop k) := by
  rcases h with h | ⟨g', o', e, hg, hc⟩
  · exact .inl (by rw [h]; simp)
  · cases e
    refine .inr ⟨g, off + k, rfl, hg, fun j hj => ?_⟩
    rw [List.length_drop] at hj
    rw [Nat.add_assoc, hc (k + j) (by omega)]
    simp [List.getD_eq_getElem?_getD]
theorem Rd.takeP {w : World} {ao : Option Addr} {l : List UInt8} (h : Rd w ao l) (k : Nat) : Rd w ao (l.take k) := by
  rcases h with h | ⟨g', o', e, hg, hc⟩
  · exact .inl (by rw [h]; simp)
  · refine .inr ⟨g', o', e, hg, fun j hj => ?_⟩
    rw [List.length_take] at hj
    rw [hc j (by omega)]
    rw [List.getD_eq_getElem?_getD, List.getD_eq_getElem?_getD, List.getElem?_take, if_pos (by omega)]
/-- A row of bytes that is not empty, as a slice. -/
theorem OBb.sliceP {B0 : Nat} {w ws : World} {v : Value} {l : List UInt8} (h : OBb B0 w ws v l) (hl : 0 < l.length) : ∃ g cap, v = .slice (some ⟨g, 0, none⟩) l.length cap ∧ B0 ≤ g ∧ l.length ≤ cap ∧ cap ≤ maxLen ∧ Rd ws (some ⟨g, 0, none⟩) l := by
  have h2 := h.own.nb
  rcases h.own.2 with ⟨_, h0⟩ | ⟨g, cap, cur, e, hg, _, hn, hm, _⟩
  · omega
  · obtain ⟨a, c, e2, _, hr⟩ := h2
    rw [e] at e2
    injection e2 with e3
    subst e3
    exact ⟨g, cap, e, hg, hn, hm, hr⟩

/-- copy of bytes that can be read, into a row of one's own, as many as fit. -/
theorem copyB (w : World) (g o N dc c : Nat) (ao : Option Addr) (l : List UInt8) (vs : List Value) (hb : Bl 5 w g vs) (hx : Rd w ao l) (hN : o + N ≤ vs.length) :
    ∃ w1, (∀ q, (Builtin.copy_ #[23, 23] 3 #[.slice (some ⟨g, o, none⟩) N dc, .slice ao l.length c]).run Tryd.prog (w.drewN q) = .ok (goInt (Nat.min l.length N)) (w1.drewN q)) ∧ Bl 5 w1 g (spl vs o ((l.take N).map B)) ∧ But w w1 g := by
  have hl : ((l.take N).map B).length = Nat.min l.length N := by rw [List.length_map, List.length_take]; exact Nat.min_comm _ _
  by_cases h0 : Nat.min l.length N = 0
  · refine ⟨w, fun q => ?_, ?_, But.refl _ _⟩
    · rw [h0]; exact run_copy_none (w.drewN q) 23 23 3 5 _ _ _ _ _ _ Tryd.underlying23 (by kernel_rfl) h0
    · have : (l.take N).map B = [] := List.eq_nil_of_length_eq_zero (by rw [hl]; exact h0)
      rw [this, spl_nil]
      exact hb
  · rcases hx with h1 | ⟨b, off, rfl, hbs, hc⟩
    · subst h1; exact absurd (show Nat.min ([] : List UInt8).length N = 0 from Nat.zero_min _) h0
    · have hle : Nat.min l.length N ≤ N := Nat.min_le_right _ _
      have hle2 : Nat.min l.length N ≤ l.length := Nat.min_le_left _ _
      refine ⟨w.setCells g o ((l.take N).map B), fun q => ?_, Bl.cells _ _ _ _ hb (by rw [hl]; omega), But.cells _ _ _ _ (But.refl _ _)⟩
      have h1 := run_copy_cells (P := Tryd.prog) (w.drewN q) 23 23 3 5 g o N dc ⟨b, off, none⟩ l.length c ((l.take N).map B) Tryd.underlying23 (by kernel_rfl) hl (fun j v hj => by
            obtain ⟨hj1, hj2⟩ := List.getElem?_eq_some_iff.1 hj
            have hj3 : j < l.length := by rw [hl] at hj1; omega
            rw [Addr.add_mid]
            show w.cell? _ = _
            rw [hc j hj3, ← hj2, List.getElem_map, List.getD_eq_getElem?_getD, List.getElem?_eq_getElem hj3, List.getElem_take]
            rfl) (fun j hj => by
            rw [hl] at hj
            show (w.cell? _).isSome = true
            rw [hb.cell (o + j) (by omega)]
            rfl) (fun j _ => hb.frozen _) (oneB _)
      rw [hl, Sha.setCells_drewN] at h1
      exact h1

theorem spl_sum (F S : List UInt8) (n : Nat) (hc : F.length ≤ n) : spl ((F ++ List.replicate (n - F.length) 0).map B) F.length ((S.take (n - F.length)).map B) = ((F ++ S).take n ++ List.replicate (n - (F ++ S).length) 0).map B := by
  unfold spl
  rw [List.length_map, ← List.map_take, ← List.map_drop, ← List.map_append, ← List.map_append]
  congr 1
  have e1 : (F ++ List.replicate (n - F.length) (0 : UInt8)).take F.length = F := by simp
  have e2 : (F ++ S).take n = F ++ S.take (n - F.length) := by rw [List.take_append, List.take_of_length_le hc]
  have e3 : (F ++ List.replicate (n - F.length) (0 : UInt8)).drop (F.length + (S.take (n - F.length)).length) = List.replicate (n - (F ++ S).length) 0 := by
    rw [List.drop_append, List.drop_of_length_le (by omega), List.nil_append, List.drop_replicate]
    congr 1
    rw [List.length_take, List.length_append]
    omega
  rw [e1, e2, e3]
/-- What the mask's list holds behind k sums. -/
def mkL (h : Int) (seed : List UInt8) (n k : Nat) : List UInt8 := (flatM h seed k).take n ++ List.replicate (n - k * Sha.siz h) 0
theorem mkL_length (h : Int) (seed : List UInt8) (n k : Nat) : (mkL h seed n k).length = n := by
  unfold mkL
  rw [List.length_append, List.length_take, flatM_length, List.length_replicate]
  omega
theorem mkL_zero (h : Int) (seed : List UInt8) (n : Nat) : mkL h seed n 0 = List.replicate n 0 := by simp [mkL, flatM]
theorem mkL_full (h : Int) (seed : List UInt8) (n k : Nat) (hs : 0 < Sha.siz h) (hk : n ≤ k * Sha.siz h) : mkL h seed n k = maskF h seed n := by
  unfold mkL
  rw [Nat.sub_eq_zero_of_le hk, List.replicate_zero, List.append_nil, maskF_eq h seed n k hs hk]
theorem mkL_step (h : Int) (seed : List UInt8) (n k : Nat) (hk : k * Sha.siz h ≤ n) : spl ((mkL h seed n k).map B) (k * Sha.siz h) (((Sha.sumF h (seed ++ tobe 4 k)).take (n - k * Sha.siz h)).map B) = (mkL h seed n (k + 1)).map B := by
  have hl := flatM_length h seed k
  have := spl_sum (flatM h seed k) (Sha.sumF h (seed ++ tobe 4 k)) n (by rw [hl]; exact hk)
  rw [hl, ← flatM_succ, flatM_length] at this
  unfold mkL
  rw [List.take_of_length_le (by rw [hl]; exact hk)]
  exact this

end Go.Proofs.YthnogdkkdekgpaaDoor
