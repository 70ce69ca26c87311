import Derived.Test.YtgkbbcoagnilgabDoorTrim
namespace Go.Proofs.YtgkbbcoagnilgabDoor
open Go.RowKit

/-- What read answers. -/
def nvals : Option PartsM → Value
  | none => .agg #[.bool false, .string ⟨#[]⟩, .int .i64 0, .bool false, .string ⟨#[]⟩]
  | some (m, g, f, p, d) => .agg #[.bool m, .string ⟨(tr (tl (g ++ f))).toArray⟩, .int .i64 ((g.length : Int) - (((g ++ f).length : Int) - ((tl (g ++ f)).length : Int))), .bool p, .string ⟨d.toArray⟩]

theorem nd_sum (l : List UInt8) : (digs l).length + (rst l).length = l.length := by
  have := nd_le l
  rw [digs_length]; unfold rst; rw [List.length_drop]; omega

theorem cutF_sum (l : List UInt8) : (cutF l).1.length + (cutF l).2.1.length ≤ l.length := by
  unfold cutF
  split
  · have := nd_sum l.tail
    rw [List.length_tail] at this
    show (digs l.tail).length + (rst l.tail).length ≤ _
    omega
  · simp

theorem cutP_len (l : List UInt8) : (cutP l).2.1.length ≤ l.length := by
  unfold cutP
  split
  · have h1 := nd_len (skS l.tail)
    have h2 := skS_len l.tail
    rw [List.length_tail] at h2
    show (digs (skS l.tail)).length ≤ _
    omega
  · simp

theorem pcut_len {l : List UInt8} {m p : Bool} {g f d : List UInt8} (h : pcut l = some (m, g, f, p, d)) : g.length + f.length + d.length ≤ l.length := by
  unfold pcut pcut1 pcut2 pcut3 pcut4 at h
  have h0 := cutL_len l
  generalize cutL l = l1 at h h0
  have h1 := nd_sum l1
  have h2 := cutF_sum (rst l1)
  have h3 := cutP_len (cutF (rst l1)).2.1
  split at h
  · cases h
  split at h
  · cases h
  split at h
  · cases h
  split at h
  · cases h
    omega
  · cases h

theorem app_eq (g f : List UInt8) : (⟨g.toArray⟩ : ByteArray) ++ ⟨f.toArray⟩ = ⟨(g ++ f).toArray⟩ := by
  apply ByteArray.ext
  simp

set_option maxHeartbeats 2000000 in
theorem read_some (l : List UInt8) (m p : Bool) (g f d a t z : List UInt8) (w : World) (hlen : l.length ≤ 281474976710656) (hsum : g.length + f.length + d.length ≤ l.length)
    (Hc : Hid (∀ w : World, Calls Tryd.prog 21 #[.string ⟨l.toArray⟩] w fun e w' => e = .returned (.tuple #[.agg #[.bool m, .string ⟨g.toArray⟩, .string ⟨f.toArray⟩, .bool p, .string ⟨d.toArray⟩], .bool true]) ∧ Below w.heap.size w w'))
    (Ha : Hid ((⟨g.toArray⟩ : ByteArray) ++ ⟨f.toArray⟩ = ⟨a.toArray⟩)) (hal : a.length ≤ l.length) (htl : t.length ≤ a.length)
    (Ht : Hid (∀ w : World, Calls Tryd.prog 34 #[.string ⟨a.toArray⟩, .string ⟨#[48]⟩] w fun e w' => e = .returned (.string ⟨t.toArray⟩) ∧ w' = w))
    (Hz : Hid (∀ w : World, Calls Tryd.prog 35 #[.string ⟨t.toArray⟩, .string ⟨#[48]⟩] w fun e w' => e = .returned (.string ⟨z.toArray⟩) ∧ w' = w)) :
    Calls Tryd.prog 19 #[.string ⟨l.toArray⟩] w fun e w' => e = .returned (.tuple #[.agg #[.bool m, .string ⟨z.toArray⟩, .int .i64 ((g.length : Int) - ((a.length : Int) - (t.length : Int))), .bool p, .string ⟨d.toArray⟩], .bool true]) ∧ Below w.heap.size w w' := by
  have hw : IntKind.i64.wrap ((g.length : Int) - ((a.length : Int) - (t.length : Int))) = (g.length : Int) - ((a.length : Int) - (t.length : Int)) := by rw [IntKind.wrap_i64]; omega
  go_enter Tryd.func19, Tryd.ntmps19
  go_wp2_with fail
  refine (Hc.out _).mono ?_
  rintro e w2 ⟨rfl, hB⟩
  have c00 : w2.cell? ⟨w.heap.size, 0, none⟩ = some (.bool false) := (hB.cell (by go_simp)).trans (by go_simp)
  have c01 : w2.cell? ⟨w.heap.size, 1, none⟩ = some (.string ⟨#[]⟩) := (hB.cell (by go_simp)).trans (by go_simp)
  have c02 : w2.cell? ⟨w.heap.size, 2, none⟩ = some (.int .i64 0) := (hB.cell (by go_simp)).trans (by go_simp)
  have c03 : w2.cell? ⟨w.heap.size, 3, none⟩ = some (.bool false) := (hB.cell (by go_simp)).trans (by go_simp)
  have c04 : w2.cell? ⟨w.heap.size, 4, none⟩ = some (.string ⟨#[]⟩) := (hB.cell (by go_simp)).trans (by go_simp)
  have f00 : w2.frozen? ⟨w.heap.size, 0, none⟩ = false := (hB.frozen (by go_simp)).trans (by go_simp)
  have f01 : w2.frozen? ⟨w.heap.size, 1, none⟩ = false := (hB.frozen (by go_simp)).trans (by go_simp)
  have f02 : w2.frozen? ⟨w.heap.size, 2, none⟩ = false := (hB.frozen (by go_simp)).trans (by go_simp)
  have f03 : w2.frozen? ⟨w.heap.size, 3, none⟩ = false := (hB.frozen (by go_simp)).trans (by go_simp)
  have f04 : w2.frozen? ⟨w.heap.size, 4, none⟩ = false := (hB.frozen (by go_simp)).trans (by go_simp)
  have hs : w.heap.size + 1 ≤ w2.heap.size := by have := hB.size; simpa using this
  have hB2 : Below w.heap.size w w2 := by
    refine Below.trans ?_ (Below.mono hB (by simp <;> omega))
    (repeat' (first | with_reducible assumption | with_reducible exact Below.refl _ _ | with_reducible exact Nat.le_refl _ | with_reducible refine Below.setCell ?_ ?_ _ | with_reducible refine Below.alloc ?_ ?_ _ | with_reducible apply Below.drew | with_reducible apply below_drewN | omega | (simp; done) | (simp; omega)))
  clear hB
  have C00 : ∀ o, (w2.alloc o).cell? ⟨w.heap.size, 0, none⟩ = some (.bool false) := fun o => (World.cell?_alloc_lt _ _ _ (by show w.heap.size < _; omega)).trans c00
  have F00 : ∀ o, (w2.alloc o).frozen? ⟨w.heap.size, 0, none⟩ = false := fun o => (World.frozen?_alloc_old _ _ _ (by show w.heap.size ≠ _; omega)).trans f00
  have C01 : ∀ o, (w2.alloc o).cell? ⟨w.heap.size, 1, none⟩ = some (.string ⟨#[]⟩) := fun o => (World.cell?_alloc_lt _ _ _ (by show w.heap.size < _; omega)).trans c01
  have F01 : ∀ o, (w2.alloc o).frozen? ⟨w.heap.size, 1, none⟩ = false := fun o => (World.frozen?_alloc_old _ _ _ (by show w.heap.size ≠ _; omega)).trans f01
  have C02 : ∀ o, (w2.alloc o).cell? ⟨w.heap.size, 2, none⟩ = some (.int .i64 0) := fun o => (World.cell?_alloc_lt _ _ _ (by show w.heap.size < _; omega)).trans c02
  have F02 : ∀ o, (w2.alloc o).frozen? ⟨w.heap.size, 2, none⟩ = false := fun o => (World.frozen?_alloc_old _ _ _ (by show w.heap.size ≠ _; omega)).trans f02
  have C03 : ∀ o, (w2.alloc o).cell? ⟨w.heap.size, 3, none⟩ = some (.bool false) := fun o => (World.cell?_alloc_lt _ _ _ (by show w.heap.size < _; omega)).trans c03
  have F03 : ∀ o, (w2.alloc o).frozen? ⟨w.heap.size, 3, none⟩ = false := fun o => (World.frozen?_alloc_old _ _ _ (by show w.heap.size ≠ _; omega)).trans f03
  have C04 : ∀ o, (w2.alloc o).cell? ⟨w.heap.size, 4, none⟩ = some (.string ⟨#[]⟩) := fun o => (World.cell?_alloc_lt _ _ _ (by show w.heap.size < _; omega)).trans c04
  have F04 : ∀ o, (w2.alloc o).frozen? ⟨w.heap.size, 4, none⟩ = false := fun o => (World.frozen?_alloc_old _ _ _ (by show w.heap.size ≠ _; omega)).trans f04
  go_wp2_with fail
  rw [Ha.out]
  refine (Ht.out _).mono ?_
  rintro e w3 ⟨rfl, rfl⟩
  go_wp2_with fail
  go_region_with (go_at_call 35; refine (Hz.out _).mono ?_; rintro e w4 ⟨rfl, rfl⟩)
  all_goals go_wp2
  all_goals (try simp only [Exit.inBlock, Exit.then])
  all_goals refine bodyPost_ret (v := .tuple #[.agg #[.bool m, .string ⟨z.toArray⟩, .int .i64 ((g.length : Int) - ((a.length : Int) - (t.length : Int))), .bool p, .string ⟨d.toArray⟩], .bool true]) ?_ rfl ⟨rfl, ?_⟩
  all_goals first
    | (rw [results_cell_tmp rfl]; go_simp; done)
    | (repeat' (first | with_reducible assumption | with_reducible exact Below.refl _ _ | with_reducible exact Nat.le_refl _ | with_reducible refine Below.setCell ?_ ?_ _ | with_reducible refine Below.alloc ?_ ?_ _ | with_reducible apply Below.drew | with_reducible apply below_drewN | omega | (simp; done) | (simp; omega)))

end Go.Proofs.YtgkbbcoagnilgabDoor
