import Derived.Test.YtcdcfgkgighmhaaGreatDoorGd
namespace Go.Proofs.YtcdcfgkgighmhaaGreatDoor
open Go.RowKit Go.MuLone
set_option maxRecDepth 100000

/-- The sets of a ring that was turned k times at one clock: the newest without an end, the others until til. -/
def oldL (til : Int) : Nat → List Ks
  | 0 => []
  | k + 1 => ⟨noneT, (k : Int) + 1, til, false⟩ :: oldL til k
def topL (til : Int) : Nat → List Ks
  | 0 => []
  | k + 1 => ⟨noneT, (k : Int) + 1, 0, true⟩ :: oldL til k
theorem oldL_len (til : Int) : ∀ k, (oldL til k).length = k
  | 0 => rfl
  | k + 1 => by simp [oldL, oldL_len til k]
theorem topL_len (til : Int) : ∀ k, (topL til k).length = k
  | 0 => rfl
  | k + 1 => by simp [topL, oldL_len til k]
theorem oldL_out {now til t2 : Int} (h : now < til) : ∀ k, outF now t2 (oldL til k) = oldL til k
  | 0 => rfl
  | k + 1 => by
    have ih := oldL_out h (t2 := t2) k
    unfold outF at ih ⊢
    simp only [oldL, List.map_cons, closeK, if_false, Bool.false_eq_true]
    rw [List.filter_cons_of_pos (by simp [liveK, h]), ih]
theorem topL_out {now til : Int} (h : now < til) (k : Nat) : outF now til (topL til k) = oldL til k := by
  cases k with
  | zero => rfl
  | succ k =>
    have ih := oldL_out h (t2 := til) k
    unfold outF at ih ⊢
    simp only [topL, oldL, List.map_cons, closeK, if_true]
    rw [List.filter_cons_of_pos (by simp [liveK, h]), ih]
theorem tilF_eq {now grace : Int} (h1 : now + grace ≤ 9223372036854775807) : tilF now grace = now + grace := by
  unfold tilF
  rw [if_neg (by omega)]
/-- Where a set of eight is dropped and the ring is turned again. -/
theorem erase_out {now til : Int} (h : now < til) (i : Nat) (hi : i < 8) : outF now til ((topL til 8).eraseIdx i) = (oldL til 8).eraseIdx i := by
  have hl : ∀ v t, liveK now ⟨noneT, v, til, t⟩ = true := fun v t => by simp [liveK, h]
  match i, hi with
  | 0, _ => simp [outF, topL, oldL, closeK, hl]
  | 1, _ => simp [outF, topL, oldL, closeK, hl]
  | 2, _ => simp [outF, topL, oldL, closeK, hl]
  | 3, _ => simp [outF, topL, oldL, closeK, hl]
  | 4, _ => simp [outF, topL, oldL, closeK, hl]
  | 5, _ => simp [outF, topL, oldL, closeK, hl]
  | 6, _ => simp [outF, topL, oldL, closeK, hl]
  | 7, _ => simp [outF, topL, oldL, closeK, hl]
theorem erase_again {now til : Int} (h : now < til) (i : Nat) (hi : i < 8) : outF now til (⟨noneT, 9, 0, true⟩ :: (oldL til 8).eraseIdx i) = ⟨noneT, 9, til, false⟩ :: (oldL til 8).eraseIdx i := by
  have hl : ∀ v t, liveK now ⟨noneT, v, til, t⟩ = true := fun v t => by simp [liveK, h]
  match i, hi with
  | 0, _ => simp [outF, oldL, closeK, hl]
  | 1, _ => simp [outF, oldL, closeK, hl]
  | 2, _ => simp [outF, oldL, closeK, hl]
  | 3, _ => simp [outF, oldL, closeK, hl]
  | 4, _ => simp [outF, oldL, closeK, hl]
  | 5, _ => simp [outF, oldL, closeK, hl]
  | 6, _ => simp [outF, oldL, closeK, hl]
  | 7, _ => simp [outF, oldL, closeK, hl]
theorem erase_len (til : Int) (i : Nat) (hi : i < 8) : ((oldL til 8).eraseIdx i).length = 7 := by
  rw [List.length_eraseIdx, oldL_len, if_pos hi]
theorem top_erase_len (til : Int) (i : Nat) (hi : i < 8) : ((topL til 8).eraseIdx i).length = 7 := by
  rw [List.length_eraseIdx, topL_len, if_pos hi]
theorem top_ver (til : Int) (i : Nat) (hi : i < 8) : ((topL til 8).getD i ks0).ver = 8 - (i : Int) := by
  match i, hi with
  | 0, _ => rfl
  | 1, _ => rfl
  | 2, _ => rfl
  | 3, _ => rfl
  | 4, _ => rfl
  | 5, _ => rfl
  | 6, _ => rfl
  | 7, _ => rfl
theorem top_erase_none (til : Int) (i : Nat) (hi : i < 8) : ∀ s ∈ (topL til 8).eraseIdx i, s.ver ≠ 8 - (i : Int) := by
  match i, hi with
  | 0, _ => simp [topL, oldL]
  | 1, _ => simp [topL, oldL]
  | 2, _ => simp [topL, oldL]
  | 3, _ => simp [topL, oldL]
  | 4, _ => simp [topL, oldL]
  | 5, _ => simp [topL, oldL]
  | 6, _ => simp [topL, oldL]
  | 7, _ => simp [topL, oldL]
theorem top_has (til d : Int) (h1 : 1 ≤ d) (h8 : d ≤ 8) : ∃ s ∈ topL til 8, s.ver = d := by
  have : d = 1 ∨ d = 2 ∨ d = 3 ∨ d = 4 ∨ d = 5 ∨ d = 6 ∨ d = 7 ∨ d = 8 := by omega
  rcases this with rfl | rfl | rfl | rfl | rfl | rfl | rfl | rfl <;> simp [topL, oldL]
theorem oldL_vers {now til : Int} (h : now < til) : ∀ k, (versF now (oldL til k)).length = k
  | 0 => rfl
  | k + 1 => by
    have ih := oldL_vers h k
    unfold versF at ih ⊢
    rw [oldL, List.filter_cons_of_pos (by simp [liveK, h])]
    simpa using ih
theorem oldL_gone {c til : Int} (h : til ≤ c) : ∀ k, versF c (oldL til k) = []
  | 0 => rfl
  | k + 1 => by
    have ih := oldL_gone h k
    unfold versF at ih ⊢
    rw [oldL, List.filter_cons_of_neg (by simp [liveK]; omega)]
    exact ih
theorem oldL_dead {c til t2 : Int} (h : til ≤ c) : ∀ k, outF c t2 (oldL til k) = []
  | 0 => rfl
  | k + 1 => by
    have ih := oldL_dead h (t2 := t2) k
    unfold outF at ih ⊢
    simp only [oldL, List.map_cons, closeK, if_false, Bool.false_eq_true]
    rw [List.filter_cons_of_neg (by simp [liveK]; omega), ih]
theorem vers_cons (c : Int) (s : Ks) (L : List Ks) : versF c (s :: L) = (if liveK c s then [s.ver] else []) ++ versF c L := by
  unfold versF
  by_cases h : liveK c s = true
  · rw [List.filter_cons_of_pos h, if_pos h]; rfl
  · rw [List.filter_cons_of_neg h, if_neg h]; rfl
theorem out_cons (c til : Int) (s : Ks) (L : List Ks) : outF c til (s :: L) = (if liveK c (closeK til s) then [closeK til s] else []) ++ outF c til L := by
  unfold outF
  rw [List.map_cons]
  by_cases h : liveK c (closeK til s) = true
  · rw [List.filter_cons_of_pos h, if_pos h]; rfl
  · rw [List.filter_cons_of_neg h, if_neg h]; rfl
theorem erase_vers {now til : Int} (h : now < til) (i : Nat) (hi : i < 8) : versF now (⟨noneT, 9, 0, true⟩ :: (oldL til 8).eraseIdx i) = 9 :: ((oldL til 8).eraseIdx i).map (·.ver) := by
  have hl : ∀ v t, liveK now ⟨noneT, v, til, t⟩ = true := fun v t => by simp [liveK, h]
  rw [vers_cons, if_pos (by simp [liveK])]
  match i, hi with
  | 0, _ => simp [versF, oldL, hl]
  | 1, _ => simp [versF, oldL, hl]
  | 2, _ => simp [versF, oldL, hl]
  | 3, _ => simp [versF, oldL, hl]
  | 4, _ => simp [versF, oldL, hl]
  | 5, _ => simp [versF, oldL, hl]
  | 6, _ => simp [versF, oldL, hl]
  | 7, _ => simp [versF, oldL, hl]

end Go.Proofs.YtcdcfgkgighmhaaGreatDoor
