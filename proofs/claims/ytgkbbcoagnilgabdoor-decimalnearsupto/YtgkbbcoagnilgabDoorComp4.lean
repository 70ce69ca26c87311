import Derived.Test.YtgkbbcoagnilgabDoorComp3
namespace Go.Proofs.YtgkbbcoagnilgabDoor
open Go.RowKit

set_option maxHeartbeats 1000000 in
theorem compare_noneA (a b : List UInt8) (mx px my py : Bool) (zx dx zy dy : List UInt8) (ox oy : Int) (okb : Bool) (w : World)
    (Ha : Hid (∀ w : World, Calls Tryd.prog 19 #[.string ⟨a.toArray⟩] w fun e w' => e = .returned (.tuple #[.agg #[.bool mx, .string ⟨zx.toArray⟩, .int .i64 ox, .bool px, .string ⟨dx.toArray⟩], .bool false]) ∧ Below w.heap.size w w'))
    (Hb : Hid (∀ w : World, Calls Tryd.prog 19 #[.string ⟨b.toArray⟩] w fun e w' => e = .returned (.tuple #[.agg #[.bool my, .string ⟨zy.toArray⟩, .int .i64 oy, .bool py, .string ⟨dy.toArray⟩], .bool okb]) ∧ Below w.heap.size w w')) :
    Calls Tryd.prog 16 #[.string ⟨a.toArray⟩, .string ⟨b.toArray⟩] w fun e w' => e = .returned (.tuple #[.int .i64 0, .int .i64 30]) ∧ Below w.heap.size w w' := by
  go_enter Tryd.func16, Tryd.ntmps16
  go_wp2_with fail
  refine (Ha.out _).mono ?_
  rintro e w2 ⟨rfl, hB2⟩
  go_wp2_with fail
  refine (Hb.out _).mono ?_
  rintro e w3 ⟨rfl, hB3⟩
  have h1 : w.heap.size ≤ w2.heap.size := hB2.size
  have h2 : w2.heap.size + 1 ≤ w3.heap.size := by have := hB3.size; simpa using this
  have hL : Below w.heap.size w w3 := by
    refine Below.trans hB2 (Below.trans ?_ (Below.mono hB3 (by simp; omega)))
    (repeat' (first | with_reducible assumption | with_reducible exact Below.refl _ _ | with_reducible exact Nat.le_refl _ | with_reducible refine Below.setCell ?_ ?_ _ | with_reducible refine Below.alloc ?_ ?_ _ | with_reducible apply Below.drew | with_reducible apply below_drewN | omega | (simp; done) | (simp; omega)))
  clear hB2 hB3
  go_wp2
  go_ret2
  refine ⟨rfl, ?_⟩
  (repeat' (first | with_reducible assumption | with_reducible exact Below.refl _ _ | with_reducible exact Nat.le_refl _ | with_reducible refine Below.setCell ?_ ?_ _ | with_reducible refine Below.alloc ?_ ?_ _ | with_reducible apply Below.drew | with_reducible apply below_drewN | omega | (simp; done) | (simp; omega)))

set_option maxHeartbeats 1000000 in
theorem compare_noneB (a b : List UInt8) (mx px my py : Bool) (zx dx zy dy : List UInt8) (ox oy : Int)  (w : World)
    (Ha : Hid (∀ w : World, Calls Tryd.prog 19 #[.string ⟨a.toArray⟩] w fun e w' => e = .returned (.tuple #[.agg #[.bool mx, .string ⟨zx.toArray⟩, .int .i64 ox, .bool px, .string ⟨dx.toArray⟩], .bool true]) ∧ Below w.heap.size w w'))
    (Hb : Hid (∀ w : World, Calls Tryd.prog 19 #[.string ⟨b.toArray⟩] w fun e w' => e = .returned (.tuple #[.agg #[.bool my, .string ⟨zy.toArray⟩, .int .i64 oy, .bool py, .string ⟨dy.toArray⟩], .bool false]) ∧ Below w.heap.size w w')) :
    Calls Tryd.prog 16 #[.string ⟨a.toArray⟩, .string ⟨b.toArray⟩] w fun e w' => e = .returned (.tuple #[.int .i64 0, .int .i64 30]) ∧ Below w.heap.size w w' := by
  go_enter Tryd.func16, Tryd.ntmps16
  go_wp2_with fail
  refine (Ha.out _).mono ?_
  rintro e w2 ⟨rfl, hB2⟩
  go_wp2_with fail
  refine (Hb.out _).mono ?_
  rintro e w3 ⟨rfl, hB3⟩
  have h1 : w.heap.size ≤ w2.heap.size := hB2.size
  have h2 : w2.heap.size + 1 ≤ w3.heap.size := by have := hB3.size; simpa using this
  have hL : Below w.heap.size w w3 := by
    refine Below.trans hB2 (Below.trans ?_ (Below.mono hB3 (by simp; omega)))
    (repeat' (first | with_reducible assumption | with_reducible exact Below.refl _ _ | with_reducible exact Nat.le_refl _ | with_reducible refine Below.setCell ?_ ?_ _ | with_reducible refine Below.alloc ?_ ?_ _ | with_reducible apply Below.drew | with_reducible apply below_drewN | omega | (simp; done) | (simp; omega)))
  clear hB2 hB3
  go_wp2
  go_ret2
  refine ⟨rfl, ?_⟩
  (repeat' (first | with_reducible assumption | with_reducible exact Below.refl _ _ | with_reducible exact Nat.le_refl _ | with_reducible refine Below.setCell ?_ ?_ _ | with_reducible refine Below.alloc ?_ ?_ _ | with_reducible apply Below.drew | with_reducible apply below_drewN | omega | (simp; done) | (simp; omega)))

theorem oof_bd (x : PartsM) (L : Nat) (h : x.2.1.length + x.2.2.1.length ≤ L) : -(L : Int) ≤ oof x ∧ oof x ≤ L := by
  have h1 := tl_len (x.2.1 ++ x.2.2.1)
  rw [List.length_append] at h1
  unfold oof
  rw [List.length_append]
  omega

theorem compare_any (a b : List UInt8) (w : World) (hla : a.length ≤ 1099511627776) (hlb : b.length ≤ 1099511627776) :
    Calls Tryd.prog 16 #[.string ⟨a.toArray⟩, .string ⟨b.toArray⟩] w fun e w' => e = .returned (.tuple #[.int .i64 (cmpV (pcut a) (pcut b)).1, .int .i64 (cmpV (pcut a) (pcut b)).2]) ∧ Below w.heap.size w w' := by
  have ra := fun w => read_any a w (by omega)
  have rb := fun w => read_any b w (by omega)
  have la := @pcut_len a
  have lb := @pcut_len b
  have da := @pcut_digs a
  have db := @pcut_digs b
  rcases ha : pcut a with _ | ⟨mx, gx, fx, px, dx⟩
  · rw [ha] at ra
    rcases hb : pcut b with _ | ⟨my, gy, fy, py, dy⟩
    · rw [hb] at rb
      exact compare_noneA a b false false false false [] [] [] [] 0 0 false w ra rb
    · rw [hb] at rb
      exact compare_noneA a b false false my py [] [] (tr (tl (gy ++ fy))) dy 0 _ true w ra rb
  · rw [ha] at ra
    rcases hb : pcut b with _ | ⟨my, gy, fy, py, dy⟩
    · rw [hb] at rb
      exact compare_noneB a b mx px false false (tr (tl (gx ++ fx))) dx [] [] _ 0 w ra rb
    · rw [hb] at rb
      have h1 := la ha
      have h2 := lb hb
      have o1 := oof_bd (mx, gx, fx, px, dx) a.length (by show gx.length + fx.length ≤ _; omega)
      have o2 := oof_bd (my, gy, fy, py, dy) b.length (by show gy.length + fy.length ≤ _; omega)
      exact compare_some a b mx px my py (tr (tl (gx ++ fx))) dx (tr (tl (gy ++ fy))) dy (oof (mx, gx, fx, px, dx)) (oof (my, gy, fy, py, dy)) w ra rb
        (fun w => compareSizes_any mx px my py _ dx _ dy _ _ w (da ha).2.2 (db hb).2.2 (by omega) (by omega) (by omega) (by omega) (by omega) (by omega))

end Go.Proofs.YtgkbbcoagnilgabDoor
