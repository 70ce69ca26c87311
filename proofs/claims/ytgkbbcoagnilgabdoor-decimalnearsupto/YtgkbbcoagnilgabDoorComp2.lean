import Derived.Test.YtgkbbcoagnilgabDoorComp
import Derived.Test.YtgkbbcoagnilgabDoorRead
namespace Go.Proofs.YtgkbbcoagnilgabDoor
open Go.RowKit

set_option maxHeartbeats 400000 in
theorem sign_ex (m p : Bool) (z d : List UInt8) (o : Int) (w : World) :
    Calls Tryd.prog 28 #[.agg #[.bool m, .string ⟨z.toArray⟩, .int .i64 o, .bool p, .string ⟨d.toArray⟩]] w fun e w' => e = .returned (.int .i64 (sgn m z)) ∧ w' = w.alloc (boxN m z o p d) := by
  by_cases hz : z = []
  · have hz' : z.isEmpty = true := by subst hz; rfl
    have H : Hid (sgn m z = 0) := by show _ = _; unfold sgn; rw [if_pos hz]
    clear hz
    go_enter Tryd.func28, Tryd.ntmps28
    go_wp2
    go_ret
    rw [H.out]
    exact ⟨rfl, rfl⟩
  · have hz' : z.isEmpty = false := by simpa using hz
    cases m
    · have H : Hid (sgn false z = 1) := by show _ = _; unfold sgn; rw [if_neg hz]; rfl
      clear hz
      go_enter Tryd.func28, Tryd.ntmps28
      go_wp2
      go_ret
      rw [H.out]
      exact ⟨rfl, rfl⟩
    · have H : Hid (sgn true z = -1) := by show _ = _; unfold sgn; rw [if_neg hz]; rfl
      clear hz
      go_enter Tryd.func28, Tryd.ntmps28
      go_wp2
      go_ret
      rw [H.out]
      exact ⟨rfl, rfl⟩

set_option maxHeartbeats 1000000 in
theorem read_none (l : List UInt8) (w : World)
    (Hc : Hid (∀ w : World, Calls Tryd.prog 21 #[.string ⟨l.toArray⟩] w fun e w' => e = .returned (.tuple #[.agg #[.bool false, .string ⟨#[]⟩, .string ⟨#[]⟩, .bool false, .string ⟨#[]⟩], .bool false]) ∧ Below w.heap.size w w')) :
    Calls Tryd.prog 19 #[.string ⟨l.toArray⟩] w fun e w' => e = .returned (.tuple #[.agg #[.bool false, .string ⟨#[]⟩, .int .i64 0, .bool false, .string ⟨#[]⟩], .bool false]) ∧ Below w.heap.size w w' := by
  go_enter Tryd.func19, Tryd.ntmps19
  go_wp2_with fail
  refine (Hc.out _).mono ?_
  rintro e w2 ⟨rfl, hB⟩
  have c00 : w2.cell? ⟨w.heap.size, 0, none⟩ = some (.bool false) := (hB.cell (by go_simp)).trans (by go_simp)
  have c01 : w2.cell? ⟨w.heap.size, 1, none⟩ = some (.string ⟨#[]⟩) := (hB.cell (by go_simp)).trans (by go_simp)
  have c02 : w2.cell? ⟨w.heap.size, 2, none⟩ = some (.int .i64 0) := (hB.cell (by go_simp)).trans (by go_simp)
  have c03 : w2.cell? ⟨w.heap.size, 3, none⟩ = some (.bool false) := (hB.cell (by go_simp)).trans (by go_simp)
  have c04 : w2.cell? ⟨w.heap.size, 4, none⟩ = some (.string ⟨#[]⟩) := (hB.cell (by go_simp)).trans (by go_simp)
  have f00 : w2.frozen? ⟨w.heap.size, 0, none⟩ = false := (hB.frozen (by go_simp)).trans (by go_simp)
  have f01 : w2.frozen? ⟨w.heap.size, 1, none⟩ = false := (hB.frozen (by go_simp)).trans (by go_simp)
  have f02 : w2.frozen? ⟨w.heap.size, 2, none⟩ = false := (hB.frozen (by go_simp)).trans (by go_simp)
  have f03 : w2.frozen? ⟨w.heap.size, 3, none⟩ = false := (hB.frozen (by go_simp)).trans (by go_simp)
  have f04 : w2.frozen? ⟨w.heap.size, 4, none⟩ = false := (hB.frozen (by go_simp)).trans (by go_simp)
  have hs : w.heap.size + 1 ≤ w2.heap.size := by have := hB.size; simpa using this
  have hB2 : Below w.heap.size w w2 := by
    refine Below.trans ?_ (Below.mono hB (by simp <;> omega))
    (repeat' (first | with_reducible assumption | with_reducible exact Below.refl _ _ | with_reducible exact Nat.le_refl _ | with_reducible refine Below.setCell ?_ ?_ _ | with_reducible refine Below.alloc ?_ ?_ _ | with_reducible apply Below.drew | with_reducible apply below_drewN | omega | (simp; done) | (simp; omega)))
  clear hB
  have C00 : ∀ o, (w2.alloc o).cell? ⟨w.heap.size, 0, none⟩ = some (.bool false) := fun o => (World.cell?_alloc_lt _ _ _ (by show w.heap.size < _; omega)).trans c00
  have C01 : ∀ o, (w2.alloc o).cell? ⟨w.heap.size, 1, none⟩ = some (.string ⟨#[]⟩) := fun o => (World.cell?_alloc_lt _ _ _ (by show w.heap.size < _; omega)).trans c01
  have C02 : ∀ o, (w2.alloc o).cell? ⟨w.heap.size, 2, none⟩ = some (.int .i64 0) := fun o => (World.cell?_alloc_lt _ _ _ (by show w.heap.size < _; omega)).trans c02
  have C03 : ∀ o, (w2.alloc o).cell? ⟨w.heap.size, 3, none⟩ = some (.bool false) := fun o => (World.cell?_alloc_lt _ _ _ (by show w.heap.size < _; omega)).trans c03
  have C04 : ∀ o, (w2.alloc o).cell? ⟨w.heap.size, 4, none⟩ = some (.string ⟨#[]⟩) := fun o => (World.cell?_alloc_lt _ _ _ (by show w.heap.size < _; omega)).trans c04
  have F00 : ∀ o, (w2.alloc o).frozen? ⟨w.heap.size, 0, none⟩ = false := fun o => (World.frozen?_alloc_old _ _ _ (by show w.heap.size ≠ _; omega)).trans f00
  have F01 : ∀ o, (w2.alloc o).frozen? ⟨w.heap.size, 1, none⟩ = false := fun o => (World.frozen?_alloc_old _ _ _ (by show w.heap.size ≠ _; omega)).trans f01
  have F02 : ∀ o, (w2.alloc o).frozen? ⟨w.heap.size, 2, none⟩ = false := fun o => (World.frozen?_alloc_old _ _ _ (by show w.heap.size ≠ _; omega)).trans f02
  have F03 : ∀ o, (w2.alloc o).frozen? ⟨w.heap.size, 3, none⟩ = false := fun o => (World.frozen?_alloc_old _ _ _ (by show w.heap.size ≠ _; omega)).trans f03
  have F04 : ∀ o, (w2.alloc o).frozen? ⟨w.heap.size, 4, none⟩ = false := fun o => (World.frozen?_alloc_old _ _ _ (by show w.heap.size ≠ _; omega)).trans f04
  go_wp2
  (try simp only [Exit.inBlock, Exit.then])
  refine bodyPost_ret (v := .tuple #[.agg #[.bool false, .string ⟨#[]⟩, .int .i64 0, .bool false, .string ⟨#[]⟩], .bool false]) ?_ rfl ⟨rfl, ?_⟩
  · rw [results_cell_tmp rfl]; go_simp
  · (repeat' (first | with_reducible assumption | with_reducible exact Below.refl _ _ | with_reducible exact Nat.le_refl _ | with_reducible refine Below.setCell ?_ ?_ _ | with_reducible refine Below.alloc ?_ ?_ _ | with_reducible apply Below.drew | with_reducible apply below_drewN | omega | (simp; done) | (simp; omega)))

theorem read_any (l : List UInt8) (w : World) (hlen : l.length ≤ 281474976710656) :
    Calls Tryd.prog 19 #[.string ⟨l.toArray⟩] w fun e w' => e = .returned (.tuple #[nvals (pcut l), .bool (pcut l).isSome]) ∧ Below w.heap.size w w' := by
  have hc := fun w => cut_any l w hlen
  have hp := @pcut_len l
  rcases h : pcut l with _ | ⟨m, g, f, p, d⟩
  · rw [h] at hc
    exact read_none l w hc
  · rw [h] at hc
    have hs := hp h
    exact read_some l m p g f d (g ++ f) (tl (g ++ f)) (tr (tl (g ++ f))) w hlen hs hc (app_eq g f) (by rw [List.length_append]; omega) (tl_len _)
      (fun w => trimLeft_any (g ++ f) w (by rw [List.length_append]; omega)) (fun w => trimRight_any (tl (g ++ f)) w (by have := tl_len (g ++ f); rw [List.length_append] at this; omega))

end Go.Proofs.YtgkbbcoagnilgabDoor
