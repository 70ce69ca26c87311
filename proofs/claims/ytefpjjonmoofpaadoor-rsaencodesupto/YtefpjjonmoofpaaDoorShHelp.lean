import Derived.Test.YtefpjjonmoofpaaDoorShZ7
namespace Go.Proofs.YtefpjjonmoofpaaDoor.Sha
open Go.RowKit
set_option maxRecDepth 100000

/-- What stands at the head of a block of bytes can be read. -/
theorem cl_head {w : World} {g : Nat} {l r : List UInt8} (h : Cl w g ((l ++ r).map B)) : Rd w (some ⟨g, 0, none⟩) l := by
  refine .inr ⟨g, 0, rfl, h.lt, fun j hj => ?_⟩
  rw [Nat.zero_add, h.cell j (by simp; omega), List.getElem_map, List.getElem_append_left hj, List.getD_eq_getElem?_getD, List.getElem?_eq_getElem hj]
  rfl

/-- copy of bytes that can be read, to the head of a block of one's own. -/
theorem copy_head (w : World) (g N c : Nat) (ao : Option Addr) (l r : List UInt8) (hcl : Cl w g (r.map B)) (hr : r.length = N) (hrd : Rd w ao l) (hlr : l.length ≤ N) :
    ∃ w1, (∀ q, (Builtin.copy_ #[23, 23] 3 #[.slice (some ⟨g, 0, none⟩) N N, .slice ao l.length c]).run Tryd.prog (w.drewN q) = .ok (goInt l.length) (w1.drewN q)) ∧ Cl w1 g ((l ++ r.drop l.length).map B) ∧ But w w1 g := by
  have hmin : Nat.min l.length N = l.length := Nat.min_eq_left hlr
  by_cases h0 : l = []
  · subst h0
    exact ⟨w, fun q => run_copy_none (w.drewN q) 23 23 3 5 _ _ _ _ _ _ Tryd.underlying23 (by kernel_rfl) hmin, by simpa using hcl, But.refl _ _⟩
  · rcases hrd with h1 | ⟨b, off, rfl, hb, hc⟩
    · exact absurd h1 h0
    · refine ⟨w.setCells g 0 (l.map B), fun q => ?_, ?_, But.cells _ _ _ _ (But.refl _ _)⟩
      · have h1 := run_copy_cells (P := Tryd.prog) (w.drewN q) 23 23 3 5 g 0 N N ⟨b, off, none⟩ l.length c (l.map B) Tryd.underlying23 (by kernel_rfl) (by rw [List.length_map]; exact hmin.symm) (fun j v hj => by
            obtain ⟨hj1, hj2⟩ := List.getElem?_eq_some_iff.1 hj
            have hj3 : j < l.length := by simpa using hj1
            rw [Addr.add_mid]
            show w.cell? _ = _
            rw [hc j hj3, ← hj2, List.getElem_map, List.getD_eq_getElem?_getD, List.getElem?_eq_getElem hj3]
            rfl) (fun j hj => by
            rw [List.length_map] at hj
            show (w.cell? _).isSome = true
            rw [hcl.cell (0 + j) (by rw [List.length_map]; omega)]
            rfl) (fun j _ => hcl.frozen _) (oneB l)
        rw [List.length_map, setCells_drewN] at h1
        exact h1
      · have h1 := Cl.cells (l.map B) 0 w _ hcl (by rw [List.length_map, List.length_map]; omega)
        unfold spl at h1
        rw [List.take_zero, List.nil_append, List.length_map, Nat.zero_add, ← List.map_drop, ← List.map_append] at h1
        exact h1

theorem take_iff {l1 l2 : List UInt8} {k : Nat} (h1 : k < l1.length) (h2 : k < l2.length) (h : l1.take k = l2.take k) : l1[k] = l2[k] ↔ l1.take (k + 1) = l2.take (k + 1) := by
  rw [List.take_succ_eq_append_getElem h1, List.take_succ_eq_append_getElem h2, h]
  constructor
  · intro e; rw [e]
  · intro e
    have := List.append_cancel_left e
    exact (List.cons.inj this).1

theorem ne_byte (x y : UInt8) : ((x.toNat : Int) != (y.toNat : Int)) = !decide (x = y) := by
  by_cases h : x = y
  · subst h; simp
  · have : x.toNat ≠ y.toNat := fun e => h (UInt8.toNat_inj.1 e)
    simp [h]; omega

/-- The place that a number picks among n. -/
def pk (x : Int) (n : Nat) : Nat := (x % (n : Int)).toNat
theorem pk_lt (x : Int) (n : Nat) (hn : 0 < n) : pk x n < n := by
  unfold pk
  have h1 := Int.emod_nonneg x (b := (n : Int)) (by omega)
  have h2 := Int.emod_lt_of_pos x (b := (n : Int)) (by omega)
  omega

end Go.Proofs.YtefpjjonmoofpaaDoor.Sha