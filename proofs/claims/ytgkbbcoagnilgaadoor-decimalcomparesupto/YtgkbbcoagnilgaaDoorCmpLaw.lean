import Derived.Test.YtgkbbcoagnilgaaDoorCmpM
import Derived.Test.YtgkbbcoagnilgaaDoorRefCm
namespace Go.Proofs.YtgkbbcoagnilgaaDoor
open Go.RowKit

theorem rcompare_any (a b : List UInt8) (w : World) (hla : a.length ≤ 268435456) (hlb : b.length ≤ 268435456) :
    Calls Tryd.prog 13 #[.string ⟨a.toArray⟩, .string ⟨b.toArray⟩] w fun e w' => e = .returned (.tuple #[.int .i64 (cmpV (pcut a) (pcut b)).1, .int .i64 (cmpV (pcut a) (pcut b)).2]) ∧ Below w.heap.size w w' := by
  rcases ha : pcut a with _ | ⟨mx, gx, fx, px, dx⟩
  · exact rcompare_noneA a b (pcut b).isSome w (fun w => rread_none ha w (by omega)) (fun w => rread_some_or b w (by omega))
  · have ra := fun w => rread_some_or a w (by omega)
    rw [ha] at ra
    rcases hb : pcut b with _ | ⟨my, gy, fy, py, dy⟩
    · exact rcompare_noneB a b w ra (fun w => rread_none hb w (by omega))
    · have h1 := pcut_len ha
      have h2 := pcut_len hb
      have d1 := pcut_digs ha
      have d2 := pcut_digs hb
      have o1 := oof_bd (mx, gx, fx, px, dx) a.length (by show gx.length + fx.length ≤ _; omega)
      have o2 := oof_bd (my, gy, fy, py, dy) b.length (by show gy.length + fy.length ≤ _; omega)
      have t1 := tl_len dx
      have t2 := tl_len dy
      have z1 : (tr (tl (gx ++ fx))).length ≤ 281474976710656 := by
        have e1 := tl_len (gx ++ fx)
        have e2 := tl_len (tl (gx ++ fx)).reverse
        unfold tr
        rw [List.length_reverse] at e2 ⊢
        rw [List.length_append] at e1
        omega
      have z2 : (tr (tl (gy ++ fy))).length ≤ 281474976710656 := by
        have e1 := tl_len (gy ++ fy)
        have e2 := tl_len (tl (gy ++ fy)).reverse
        unfold tr
        rw [List.length_reverse] at e2 ⊢
        rw [List.length_append] at e1
        omega
      have hS := sizeV_bd (tr (tl (gx ++ fx))) (tr (tl (gy ++ fy))) (apL (sd px (tl dx)) (sd py (tl dy)) (oof (mx, gx, fx, px, dx) - oof (my, gy, fy, py, dy)) (max (tl dx).length (tl dy).length) 0)
      have hm := rcompare_some a b mx px (fx.isEmpty && dx.isEmpty) my py (fy.isEmpty && dy.isEmpty) (tr (tl (gx ++ fx))) (tr (tl (gy ++ fy))) (tl dx) (tl dy) gx gy (oof (mx, gx, fx, px, dx)) (oof (my, gy, fy, py, dy)) _ w hS.1 hS.2
        (fun w => rread_some ha w (by omega)) (fun w => rread_some hb w (by omega))
        (fun da db ea eb ca1 cb1 ca cb W e1 e2 e3 e4 => size_any mx px _ my py _ da db ea eb ca1 cb1 ca cb _ _ _ _ (tl dx) (tl dy) gx gy W (allD_tl d1.2.2) (allD_tl d2.2.2) e1 e2 e3 e4 (by omega) (by omega) z1 z2 (by omega) (by omega) (by omega) (by omega))
      refine hm.mono ?_
      rintro e w' ⟨rfl, hB⟩
      refine ⟨?_, hB⟩
      have hc := cmp_same mx my px py (tr (tl (gx ++ fx))) dx (tr (tl (gy ++ fy))) dy (oof (mx, gx, fx, px, dx)) (oof (my, gy, fy, py, dy)) d1.2.2 d2.2.2 (by omega) (by omega)
      show _ = Ending.returned (.tuple #[.int .i64 (cmpP (mx, gx, fx, px, dx) (my, gy, fy, py, dy)), .int .i64 0])
      have e : cmpP (mx, gx, fx, px, dx) (my, gy, fy, py, dy) = _ := hc
      rw [e]
      rfl

set_option maxHeartbeats 1000000 in
theorem compares_law (a b : List UInt8) (w : World) (hla : a.length ≤ 1048576) (hlb : b.length ≤ 1048576) :
    Calls Tryd.prog 4 #[.string ⟨a.toArray⟩, .string ⟨b.toArray⟩] w fun e w' => e = .returned (.bool true) ∧ Below w.heap.size w w' := by
  have H1 : Hid (∀ w, Calls Tryd.prog 12 #[.string ⟨a.toArray⟩, .string ⟨b.toArray⟩] w fun e w' => e = .returned (.tuple #[.int .i64 (cmpV (pcut a) (pcut b)).1, .int .i64 (cmpV (pcut a) (pcut b)).2]) ∧ Below w.heap.size w w') := fun w => compare_any a b w (by omega) (by omega)
  have H2 : Hid (∀ w, Calls Tryd.prog 13 #[.string ⟨a.toArray⟩, .string ⟨b.toArray⟩] w fun e w' => e = .returned (.tuple #[.int .i64 (cmpV (pcut a) (pcut b)).1, .int .i64 (cmpV (pcut a) (pcut b)).2]) ∧ Below w.heap.size w w') := fun w => rcompare_any a b w (by omega) (by omega)
  generalize (cmpV (pcut a) (pcut b)).1 = c at H1 H2
  generalize (cmpV (pcut a) (pcut b)).2 = d at H1 H2
  have q1 : (c == c) = true := by simp
  have q2 : (d == d) = true := by simp
  go_enter Tryd.func4, Tryd.ntmps4
  go_wp2_with fail
  refine (H1.out _).mono ?_
  rintro e w2 ⟨rfl, hB2⟩
  go_wp2_with fail
  refine (H2.out _).mono ?_
  rintro e w3 ⟨rfl, hB3⟩
  go_wp2
  go_ret
  exact ⟨rfl, Below.trans hB2 (Below.mono hB3 hB2.size)⟩

end Go.Proofs.YtgkbbcoagnilgaaDoor
