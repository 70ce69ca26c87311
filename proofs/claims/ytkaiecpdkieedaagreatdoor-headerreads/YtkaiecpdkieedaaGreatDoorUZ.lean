import Derived.Test.YtkaiecpdkieedaaGreatDoorTY
import Derived.Test.YtkaiecpdkieedaaGreatDoorJZ
import Derived.Lib.AppendStr
namespace Go.Proofs.YtkaiecpdkieedaaGreatDoor
open Go.RowKit Go.Shelf

theorem strC (l : List UInt8) : Lib.strCells ⟨l.toArray⟩ = l.map B := rfl

end Go.Proofs.YtkaiecpdkieedaaGreatDoor

namespace Go.Proofs.YtkaiecpdkieedaaGreatDoor
open Go.RowKit Go.Shelf

theorem ext1 (l : List UInt8) (k : Nat) (hk : k < l.length) : (⟨l.toArray⟩ : ByteArray).extract k (k + 1) = ⟨#[l.getD k 0]⟩ := by
  rw [Lib.extract_eq]
  simp only [ByteArray.mk.injEq]
  have : List.take (k + 1 - k) (List.drop k l) = [l.getD k 0] := by
    rw [drop_at hk, show k + 1 - k = 1 by omega]
    rfl
  show (List.take (k + 1 - k) (List.drop k l)).toArray = _
  rw [this]
theorem and15 : ∀ X : Fin 256, bits .and .u8 ((X.val : Nat) : Int) 15 = ((X.val % 16 : Nat) : Int) := by decide +kernel

end Go.Proofs.YtkaiecpdkieedaaGreatDoor

namespace Go.Proofs.YtkaiecpdkieedaaGreatDoor
open Go.RowKit Go.Shelf

theorem sgl_next {l : List UInt8} {f k : Nat} (hf : f ≤ k) (hk : k < l.length) : sgl l f (k + 1) = sgl l f k ++ [l.getD k 0] := by
  unfold sgl
  rw [show k + 1 - f = (k - f) + 1 by omega, List.take_add_one, List.getElem?_drop, show f + (k - f) = k by omega, List.getElem?_eq_getElem hk]
  simp [List.getD_eq_getElem?_getD, hk]
theorem sgl_self (l : List UInt8) (k : Nat) : sgl l k k = [] := by unfold sgl; simp
theorem sgl_end (l : List UInt8) (f : Nat) : sgl l f l.length = l.drop f := by unfold sgl; rw [List.take_of_length_le (by simp)]
theorem take_next {l : List UInt8} {k : Nat} (hk : k < l.length) : l.take (k + 1) = l.take k ++ [l.getD k 0] := by
  rw [List.take_add_one, List.getElem?_eq_getElem hk]
  simp [List.getD_eq_getElem?_getD, hk]

end Go.Proofs.YtkaiecpdkieedaaGreatDoor

namespace Go.Proofs.YtkaiecpdkieedaaGreatDoor
open Go.RowKit Go.Shelf

theorem pk_end {v : List Nd} {sv : Nat → List (Nat × List UInt8) → Option (Nat × List (Nat × List UInt8))} {pv : Nat → List UInt8 × Nat} (hp : ∀ i m j m', sv i m = some (j, m') → (pv i).2 = j) (obj : Bool) : ∀ (f : Nat) (n : Int) (i : Nat) (m : List (Nat × List UInt8)) (j : Nat) (m' : List (Nat × List UInt8)) (first : Bool), skF sv f n i m = some (j, m') → (pkF pv v obj f first n i).2 = j
  | 0, n, i, m, j, m', first, h => by
    unfold skF at h
    split at h
    · cases h
    · cases h; rfl
  | f + 1, n, i, m, j, m', first, h => by
    unfold skF at h
    unfold pkF
    split at h
    · rename_i hn
      rw [if_pos hn]
      split at h
      · cases h
      · rename_i j1 m1 e
        show (pkF pv v obj f false (n - 1) (pv i).2).2 = j
        rw [hp _ _ _ _ e]
        exact pk_end hp obj f (n - 1) j1 m1 j m' false h
    · rename_i hn
      rw [if_neg hn]
      cases h; rfl

theorem svF_parts {v : List Nd} {f i : Nat} {a d : Int} {m : List (Nat × List UInt8)} {j : Nat} {m' : List (Nat × List UInt8)} (h : svF v (f + 1) i a d m = some (j, m')) : i < v.length ∧ wmF (v.getD i (nd0 0)) d = true ∧ ∃ m2, skF (fun j m => svF v f j (i : Int) (d + 1) m) (v.length + 1) (v.getD i (nd0 0)).kids (i + 1) m2 = some (j, m') := by
  unfold svF at h
  split at h
  · rename_i hi
    split at h
    · cases h
    · rename_i m2 e
      exact ⟨hi.1, hi.2, m2, h⟩
  · cases h
theorem wm_kind {n : Nd} {d : Int} (h : wmF n d = true) : (1 ≤ n.kind ∧ n.kind ≤ 7) ∧ (n.kind < 6 → n.kids = 0) := by
  unfold wmF at h
  split at h
  · have h2 : n.kids = 0 := congrArg Nd.kids (of_decide_eq_true h)
    omega
  · split at h
    · simp only [Bool.and_eq_true] at h
      have h2 : n.kids = 0 := congrArg Nd.kids (of_decide_eq_true h.2)
      omega
    · split at h
      · simp only [Bool.and_eq_true] at h
        have h2 : n.kids = 0 := congrArg Nd.kids (of_decide_eq_true h.2)
        omega
      · split at h
        · omega
        · cases h
theorem sk_zero {sv : Nat → List (Nat × List UInt8) → Option (Nat × List (Nat × List UInt8))} {f i j : Nat} {m m' : List (Nat × List UInt8)} (h : skF sv f 0 i m = some (j, m')) : j = i := by
  cases f <;> (unfold skF at h; rw [if_neg (by omega)] at h; cases h; rfl)

theorem prF_end {v : List Nd} : ∀ (f i : Nat) (a d : Int) (m : List (Nat × List UInt8)) (j : Nat) (m' : List (Nat × List UInt8)), svF v f i a d m = some (j, m') → (prF v f i).2 = j
  | 0, i, a, d, m, j, m', h => by unfold svF at h; cases h
  | f + 1, i, a, d, m, j, m', h => by
    obtain ⟨hi, hw, m2, hs⟩ := svF_parts h
    have hk := wm_kind hw
    have hleaf : (v.getD i (nd0 0)).kind < 6 → j = i + 1 := fun hlt => by
      rw [hk.2 hlt] at hs
      exact sk_zero hs
    have hin : ∀ obj, (pkF (prF v f) v obj (v.length + 1) true (v.getD i (nd0 0)).kids (i + 1)).2 = j := fun obj => pk_end (fun i2 m3 j2 m4 h2 => prF_end f i2 _ _ m3 j2 m4 h2) obj _ _ _ m2 j m' true hs
    unfold prF
    simp only
    split
    · exact (hleaf (by omega)).symm
    · split
      · exact (hleaf (by omega)).symm
      · split
        · exact (hleaf (by omega)).symm
        · split
          · exact (hleaf (by omega)).symm
          · split
            · exact (hleaf (by omega)).symm
            · split
              · exact hin false
              · split
                · exact hin true
                · omega

end Go.Proofs.YtkaiecpdkieedaaGreatDoor

namespace Go.Proofs.YtkaiecpdkieedaaGreatDoor
open Go.RowKit Go.Shelf

end Go.Proofs.YtkaiecpdkieedaaGreatDoor

namespace Go.Proofs.YtkaiecpdkieedaaGreatDoor
open Go.RowKit Go.Shelf

theorem own_rd {w : World} {base : Nat} {v : Value} {l : List UInt8} (h : w.ownsRow base 5 1 v l.length (l.map B)) : ∃ a c, v = .slice a l.length c ∧ Rd w a l := by
  obtain ⟨a, c, rfl, hc, hp⟩ := own_slice h
  refine ⟨a, c, rfl, ?_⟩
  rcases Nat.eq_zero_or_pos l.length with h0 | h0
  · exact .inl (List.eq_nil_of_length_eq_zero h0)
  · obtain ⟨g, rfl⟩ := hp h0
    refine .inr ⟨g, 0, rfl, (h.lt g rfl).2, fun j hj => ?_⟩
    rw [Nat.zero_add, (own_cell h j _ (by rw [List.getElem?_map, List.getElem?_eq_getElem hj]; rfl)).1, getD_eq _ _ hj]

theorem printF_bad {v : List Nd} (h : shapedF v = false) : printF v = ([], 31) := by unfold printF; rw [if_pos h]
theorem printF_large {v : List Nd} (h : shapedF v = true) (hl : 262144 < (prF v 33 0).1.length) : printF v = ([], 10) := by unfold printF; rw [if_neg (by rw [h]; decide), if_pos hl]
theorem printF_ok {v : List Nd} (h : shapedF v = true) (hl : (prF v 33 0).1.length ≤ 262144) : printF v = ((prF v 33 0).1, 0) := by unfold printF; rw [if_neg (by rw [h]; decide), if_neg (by omega)]
theorem shaped_sv {v : List Nd} (h : shapedF v = true) : ∃ m, svF v 33 0 (-1) 0 [] = some (v.length, m) := by
  unfold shapedF at h
  split at h
  · rename_i j m e
    have := of_decide_eq_true h
    subst this
    exact ⟨m, e⟩
  · cases h

end Go.Proofs.YtkaiecpdkieedaaGreatDoor
