import Derived.Test.YtefpjjonmoofpaaDoorOneLaw
namespace Go.Proofs.YtefpjjonmoofpaaDoor
open Go.RowKit

theorem em_shape (h : Int) (m : List UInt8) (k z : Nat) (hk : k = 22 + Sha.siz h + z) : emV h m k = 0 :: 1 :: (List.replicate z 255 ++ (0 :: (info h ++ Sha.sumF h m))) := by
  unfold emV
  rw [show k - 22 - Sha.siz h = z by omega]
  simp
theorem get2 {α : Type} (a b d : α) (l : List α) (i : Nat) : (a :: b :: l).getD (i + 2) d = l.getD i d := rfl
theorem getR {α : Type} (l r : List α) (d : α) (i n : Nat) (hl : l.length = n) : (l ++ r).getD (n + i) d = r.getD i d := by
  rw [List.getD_eq_getElem?_getD, List.getD_eq_getElem?_getD, List.getElem?_append_right (by omega), hl, Nat.add_sub_cancel_left]
theorem em_ff (h : Int) (m : List UInt8) (k z i : Nat) (hk : k = 22 + Sha.siz h + z) (h1 : 2 ≤ i) (h2 : i < z + 2) : (emV h m k).getD i 0 = 255 := by
  obtain ⟨j, rfl⟩ : ∃ j, i = j + 2 := ⟨i - 2, by omega⟩
  rw [em_shape h m k z hk, get2, List.getD_eq_getElem?_getD, List.getElem?_append_left (by simp; omega), List.getElem?_replicate, if_pos (by omega)]
  rfl
theorem em_0 (h : Int) (m : List UInt8) (k z : Nat) (hk : k = 22 + Sha.siz h + z) : (emV h m k).getD 0 0 = 0 := by rw [em_shape h m k z hk]; rfl
theorem em_1 (h : Int) (m : List UInt8) (k z : Nat) (hk : k = 22 + Sha.siz h + z) : (emV h m k).getD 1 0 = 1 := by rw [em_shape h m k z hk]; rfl
theorem em_z (h : Int) (m : List UInt8) (k z : Nat) (hk : k = 22 + Sha.siz h + z) : (emV h m k).getD (z + 2) 0 = 0 := by
  have := getR (List.replicate z (255 : UInt8)) (0 :: (info h ++ Sha.sumF h m)) 0 0 z (by simp)
  rw [em_shape h m k z hk, get2]
  exact this
theorem em_info (h : Int) (m : List UInt8) (k z j : Nat) (hk : k = 22 + Sha.siz h + z) (hj : j < 19) : (emV h m k).getD (z + 1 + j + 2) 0 = (info h).getD j 0 := by
  have := getR (List.replicate z (255 : UInt8)) (0 :: (info h ++ Sha.sumF h m)) 0 (j + 1) z (by simp)
  rw [em_shape h m k z hk, get2, show z + 1 + j = z + (j + 1) by omega]
  refine this.trans ?_
  show (info h ++ Sha.sumF h m).getD j 0 = _
  rw [List.getD_eq_getElem?_getD, List.getElem?_append_left (by rw [info_length]; exact hj), List.getD_eq_getElem?_getD]
theorem info_1 {h : Int} (hh : Sha.isH h) : ((info h).getD 1 0).toNat = 17 + Sha.siz h := by rcases hh with rfl | rfl | rfl <;> rfl
theorem info_18 {h : Int} (hh : Sha.isH h) : ((info h).getD 18 0).toNat = Sha.siz h := by rcases hh with rfl | rfl | rfl <;> rfl
theorem em_drop (h : Int) (m : List UInt8) (k z : Nat) (hk : k = 22 + Sha.siz h + z) : (emV h m k).drop (z + 22) = Sha.sumF h m := by
  rw [em_shape h m k z hk]
  show List.drop (z + 20) (List.replicate z 255 ++ (0 :: (info h ++ Sha.sumF h m))) = _
  rw [show z + 20 = (List.replicate z (255 : UInt8)).length + 20 by simp, List.drop_length_add_append]
  show List.drop 19 (info h ++ Sha.sumF h m) = _
  rw [← info_length h, List.drop_left]
theorem em_more (h : Int) (m : List UInt8) (k z : Nat) (hk : k = 22 + Sha.siz h + z) : (emV h m (k + 1)).drop 3 = (emV h m k).drop 2 := by
  rw [em_shape h m k z hk, em_shape h m (k + 1) (z + 1) (by omega), List.replicate_succ]
  rfl
theorem Rd.drop {w : World} {g off : Nat} {l : List UInt8} (h : Rd w (some ⟨g, off, none⟩) l) (k : Nat) : Rd w (some ⟨g, off + k, none⟩) (l.drop k) := by
  rcases h with h | ⟨g', o', e, hg, hc⟩
  · exact .inl (by rw [h]; simp)
  · cases e
    refine .inr ⟨g, off + k, rfl, hg, fun j hj => ?_⟩
    rw [List.length_drop] at hj
    rw [Nat.add_assoc, hc (k + j) (by omega)]
    simp [List.getD_eq_getElem?_getD]
/-- A row of bytes that is not empty, as a slice. -/
theorem OBb.slice {B0 : Nat} {w ws : World} {v : Value} {l : List UInt8} (h : OBb B0 w ws v l) (hl : 0 < l.length) : ∃ g cap, v = .slice (some ⟨g, 0, none⟩) l.length cap ∧ B0 ≤ g ∧ l.length ≤ cap ∧ cap ≤ maxLen ∧ Rd ws (some ⟨g, 0, none⟩) l := by
  have h2 := h.own.nb
  rcases h.own.2 with ⟨_, h0⟩ | ⟨g, cap, cur, e, hg, _, hn, hm, _⟩
  · omega
  · obtain ⟨a, c, e2, _, hr⟩ := h2
    rw [e] at e2
    injection e2 with e3
    subst e3
    exact ⟨g, cap, e, hg, hn, hm, hr⟩
theorem OBb.empty {B0 : Nat} {w ws : World} {v : Value} (h : OBb B0 w ws v []) : ∃ a c, v = .slice a 0 c := by
  obtain ⟨a, c, e, _⟩ := h.own.nb
  exact ⟨a, c, e⟩

end Go.Proofs.YtefpjjonmoofpaaDoor
