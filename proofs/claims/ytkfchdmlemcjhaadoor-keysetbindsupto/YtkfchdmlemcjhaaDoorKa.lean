import Derived.Test.YtkfchdmlemcjhaaDoorBase
namespace Go.Proofs.YtkfchdmlemcjhaaDoor
open Go.RowKit

/-- The algorithms: name, type, curve. -/
def algT : List (List UInt8 × Int × List UInt8) := [([], 0, []), ([72, 83, 50, 53, 54], 1, []), ([72, 83, 51, 56, 52], 1, []), ([72, 83, 53, 49, 50], 1, []), ([82, 83, 50, 53, 54], 2, []), ([82, 83, 51, 56, 52], 2, []), ([82, 83, 53, 49, 50], 2, []), ([80, 83, 50, 53, 54], 2, []), ([80, 83, 51, 56, 52], 2, []), ([80, 83, 53, 49, 50], 2, []), ([69, 83, 50, 53, 54], 3, [80, 45, 50, 53, 54]), ([69, 83, 51, 56, 52], 3, [80, 45, 51, 56, 52]), ([69, 100, 68, 83, 65], 4, [69, 100, 50, 53, 53, 49, 57])]
def algN (k : Nat) : List UInt8 := (algT.getD k ([], 0, [])).1
def algK (k : Nat) : Int := (algT.getD k ([], 0, [])).2.1
def algC (k : Nat) : List UInt8 := (algT.getD k ([], 0, [])).2.2
/-- Their cells. -/
def algCs : List Value := algT.flatMap fun r => [.string ⟨r.1.toArray⟩, .int .i64 r.2.1, .string ⟨r.2.2.toArray⟩]
/-- The program's table stands. -/
def Alg (w : World) : Prop := w.rangeAt 0 0 algCs
theorem Alg.below {B : Nat} {w w' : World} (h : Alg w) (hb : Below B w w') (hB : 0 < B) : Alg w' := fun j v hv => cell_but (h j v hv) fun _ => hb.block _ hB

theorem alg_cell {w : World} (h : Alg w) {k : Nat} (hk : k < 13) : w.cell? ⟨0, k * 3, none⟩ = some (.string ⟨(algN k).toArray⟩) ∧ w.cell? ⟨0, k * 3 + 1, none⟩ = some (.int .i64 (algK k)) ∧ w.cell? ⟨0, k * 3 + 2, none⟩ = some (.string ⟨(algC k).toArray⟩) := by
  have e : ∀ j, j < 39 → ∃ v, algCs[j]? = some v := fun j hj => ⟨_, List.getElem?_eq_getElem (by show j < 39; exact hj)⟩
  have h0 : ∀ j v, algCs[j]? = some v → w.cell? ⟨0, j, none⟩ = some v := fun j v hv => by
    have := h j v hv
    rwa [Nat.zero_add] at this
  rcases (show k = 0 ∨ k = 1 ∨ k = 2 ∨ k = 3 ∨ k = 4 ∨ k = 5 ∨ k = 6 ∨ k = 7 ∨ k = 8 ∨ k = 9 ∨ k = 10 ∨ k = 11 ∨ k = 12 by omega) with rfl | rfl | rfl | rfl | rfl | rfl | rfl | rfl | rfl | rfl | rfl | rfl | rfl <;> exact ⟨h0 _ _ rfl, h0 _ _ rfl, h0 _ _ rfl⟩

/-- The number of a name. -/
def ofF (l : List UInt8) : Nat := ((List.range 13).find? fun k => decide (algN k = l)).getD 0
/-- The name of a number. -/
def nameF' (a : Int) : List UInt8 := if 0 ≤ a ∧ a < 13 then algN a.toNat else []
theorem alg_ne : ∀ k, k < 13 → 1 ≤ k → algN k ≠ [] := by decide

set_option maxRecDepth 100000 in
set_option maxHeartbeats 4000000 in
theorem kname_any (a : Int) (w : World) (hA : Alg w) : Calls Tryd.prog 11 #[.int .i64 a] w fun e w' => e = .returned (.string ⟨(nameF' a).toArray⟩) ∧ w' = w := by
  by_cases h : 0 ≤ a ∧ a < 13
  · obtain ⟨k, rfl⟩ : ∃ k : Nat, a = (k : Int) := ⟨a.toNat, by omega⟩
    have hk : k < 13 := by omega
    have hc := (alg_cell hA hk).1
    have HF : Hid (nameF' (k : Int) = algN k) := by show _ = _; unfold nameF'; rw [if_pos h, Int.toNat_natCast]
    have q0 : decide ((k : Int) < 0) = false := decide_eq_false (by omega)
    have q1 : decide ((k : Int) ≥ 13) = false := decide_eq_false (by omega)
    have q2 : (k : Int) < 13 := by omega
    generalize algN k = nk at hc HF
    clear h hA hk
    go_enter Tryd.func11, Tryd.ntmps11
    go_wp2
    go_ret
    rw [HF.out]
    exact ⟨rfl, rfl⟩
  · have HF : Hid (nameF' a = []) := by show _ = _; unfold nameF'; rw [if_neg h]
    rcases (show a < 0 ∨ 0 ≤ a by omega) with h1 | h1
    · have q0 : decide (a < 0) = true := decide_eq_true h1
      clear h hA h1
      go_enter Tryd.func11, Tryd.ntmps11
      go_wp2
      go_ret
      rw [HF.out]
      exact ⟨rfl, rfl⟩
    · have q0 : decide (a < 0) = false := decide_eq_false (by omega)
      have q1 : decide (a ≥ 13) = true := decide_eq_true (by omega)
      clear h hA
      go_enter Tryd.func11, Tryd.ntmps11
      go_wp2
      go_ret
      rw [HF.out]
      exact ⟨rfl, rfl⟩

/-- The document's names, as a list of its own. -/
def nmCs : List Value := (List.range 13).map fun k => .string ⟨(algN k).toArray⟩
set_option maxRecDepth 100000 in
theorem names_any (w : World) : Calls Tryd.prog 26 #[] w fun e w' => e = .returned (.slice (some ⟨w.heap.size, 0, none⟩) 13 13) ∧ w' = w.alloc (.cells nmCs.toArray 9) := by
  go_enter Tryd.func26, Tryd.ntmps26
  go_wp2
  go_ret
  exact ⟨rfl, rfl⟩
theorem nm_cell (w : World) {k : Nat} (hk : k < 13) : (w.alloc (.cells nmCs.toArray 9)).cell? ⟨w.heap.size, k, none⟩ = some (.string ⟨(algN k).toArray⟩) := by
  have h : Bl 9 (w.alloc (.cells nmCs.toArray 9)) w.heap.size nmCs := alloc_bl _ _ _
  have := h.cell k (by simpa [nmCs] using hk)
  rw [this]
  simp [nmCs]

set_option maxRecDepth 100000 in
set_option maxHeartbeats 4000000 in
theorem rname_any (a : Int) (w : World) : Calls Tryd.prog 18 #[.int .i64 a] w fun e w' => e = .returned (.string ⟨(nameF' a).toArray⟩) ∧ Below w.heap.size w w' := by
  have HS : Hid (∀ wq : World, Calls Tryd.prog 26 #[] wq fun e w' => e = .returned (.slice (some ⟨wq.heap.size, 0, none⟩) 13 13) ∧ w' = wq.alloc (.cells nmCs.toArray 9)) := names_any
  rcases (show a < 0 ∨ 0 ≤ a by omega) with h1 | h1
  · have HF : Hid (nameF' a = []) := by show _ = _; unfold nameF'; rw [if_neg (by omega)]
    have q0 : decide (a < 0) = true := decide_eq_true h1
    clear h1
    go_enter Tryd.func18, Tryd.ntmps18
    go_wp2
    go_ret
    rw [HF.out]
    exact ⟨rfl, Below.refl _ _⟩
  · have q0 : decide (a < 0) = false := decide_eq_false (by omega)
    have C0 := HS.out w
    have HB : Hid (Below w.heap.size w (w.alloc (.cells nmCs.toArray 9))) := alloc_below _ _
    generalize w.alloc (.cells nmCs.toArray 9) = w1 at C0 HB
    by_cases h : a < 13
    · obtain ⟨k, rfl⟩ : ∃ k : Nat, a = (k : Int) := ⟨a.toNat, by omega⟩
      have hk : k < 13 := by omega
      have HF : Hid (nameF' (k : Int) = algN k) := by show _ = _; unfold nameF'; rw [if_pos ⟨h1, h⟩, Int.toNat_natCast]
      have q1 : decide ((k : Int) ≥ 13) = false := decide_eq_false (by omega)
      have hc := nm_cell w1 hk
      have C1 := HS.out w1
      have HB2 : Hid (Below w.heap.size w (w1.alloc (.cells nmCs.toArray 9))) := HB.out.trans ((alloc_below _ _).mono HB.out.size)
      generalize w1.alloc (.cells nmCs.toArray 9) = w2 at C1 HB2 hc
      generalize algN k = nk at hc HF
      go_enter Tryd.func18, Tryd.ntmps18
      go_wp2_with fail
      refine C0.mono ?_
      clear C0
      rintro e w3 ⟨rfl, rfl⟩
      go_wp2_with fail
      refine C1.mono ?_
      clear C1
      rintro e w4 ⟨rfl, rfl⟩
      go_wp2
      go_ret
      rw [HF.out]
      exact ⟨rfl, HB2.out⟩
    · have HF : Hid (nameF' a = []) := by show _ = _; unfold nameF'; rw [if_neg (by omega)]
      have q1 : decide (a ≥ 13) = true := decide_eq_true (by omega)
      go_enter Tryd.func18, Tryd.ntmps18
      go_wp2_with fail
      refine C0.mono ?_
      clear C0
      rintro e w3 ⟨rfl, rfl⟩
      go_wp2
      go_ret
      rw [HF.out]
      exact ⟨rfl, HB.out⟩

end Go.Proofs.YtkfchdmlemcjhaaDoor
