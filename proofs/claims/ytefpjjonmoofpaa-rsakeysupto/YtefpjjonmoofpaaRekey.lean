import Derived.Test.YtefpjjonmoofpaaLent
namespace Go.Proofs.Ytefpjjonmoofpaa
open Go.RowKit

theorem key_r1 : keyC (List.replicate 256 255) [3] = 0 := by decide +kernel
theorem key_r2 : keyC (List.replicate 256 255) [2] = 90 := by decide +kernel
theorem key_r3 : keyC (List.replicate 256 255) [5] = 0 := by decide +kernel
theorem key_r4 : keyC ((List.replicate 256 255).set 0 0) [5] = 90 := by decide +kernel

theorem Bl.rdb' {t : TypeId} {w : World} {b : Nat} {xs : List UInt8} (h : Bl t w b (xs.map B)) : Rd w (some ⟨b, 0, none⟩) xs := h.rdb
/-- 256 bytes, the first k of them ff. -/
def ffs (k : Nat) : List UInt8 := List.replicate k (255 : UInt8) ++ List.replicate (256 - k) 0
theorem ffs_length (k : Nat) (hk : k ≤ 256) : (ffs k).length = 256 := by unfold ffs; rw [List.length_append, List.length_replicate, List.length_replicate]; omega
theorem ffs_full : ffs 256 = List.replicate 256 255 := by unfold ffs; rw [Nat.sub_self, List.replicate_zero, List.append_nil]
theorem ffs_set (k : Nat) (hk : k < 256) : ((ffs k).map B).set k (B 255) = (ffs (k + 1)).map B := by
  unfold ffs
  rw [← List.map_set, List.set_append_right _ _ (by simp), List.length_replicate, Nat.sub_self, show 256 - k = (256 - (k + 1)) + 1 by omega, List.replicate_succ, List.set_cons_zero, List.replicate_succ' (n := k), List.append_assoc]
  rfl

theorem key_bl (gn ge : Nat) (W : World) (ln le : List UInt8) (h1 : ln.length = 256) (h2 : le.length = 1) (b1 : Bl 5 W gn (ln.map B)) (b2 : Bl 5 W ge (le.map B)) :
    Calls Try.prog 5 #[.slice (some ⟨gn, 0, none⟩) 256 256, .slice (some ⟨ge, 0, none⟩) 1 1] W fun x w' => x = .returned (.int .i64 (keyC ln le)) ∧ w' = W := by
  have := key_any (some ⟨gn, 0, none⟩) (some ⟨ge, 0, none⟩) 256 1 ln le W b1.rdb b2.rdb (by omega) (by omega)
  rwa [h1, h2] at this

set_option maxRecDepth 100000 in
set_option maxHeartbeats 2000000 in
theorem rekeyed_any (w : World) : Calls Try.prog 9 #[] w fun e w' => e = .returned (.bool true) ∧ Below w.heap.size w w' := by
  obtain ⟨wm, hmk0, hb0, hbel0⟩ := madeB w 256 (by omega)
  have hmk : (Instr.makeSlice 22 (.int .i64 256) (.int .i64 256)).run Try.prog w = .ok (.slice (some ⟨w.heap.size, 0, none⟩) 256 256) wm := hmk0
  have HB0 : Hid (Bl 5 wm w.heap.size ((ffs 0).map B)) := hb0
  have HW0 : Hid (Below w.heap.size w wm) := hbel0
  clear hmk0 hb0 hbel0
  go_enter Try.func9, Try.ntmps9
  go_wp2
  clear hmk
  go_loopw [2] (fun s wr => ∃ k : Nat, s = .int .i64 (k : Int) ∧ k ≤ 256 ∧ Hid (Bl 5 wr w.heap.size ((ffs k).map B)) ∧ Hid (Below w.heap.size w wr)) (fun s _ => 256 - (intOf s).toNat)
  case atStart => exact ⟨0, rfl, by omega, HB0, HW0⟩
  case round =>
    clear HB0 HW0
    obtain ⟨k, rfl, hk, HB, HW⟩ := hrel
    by_cases hlt : k < 256
    · have gf := HB.out.frozen k
      obtain ⟨old, gc⟩ : ∃ v, wr.cell? ⟨w.heap.size, k, none⟩ = some v := ⟨_, HB.out.cell k (by rw [List.length_map, ffs_length k hk]; exact hlt)⟩
      have HB2 : Hid (Bl 5 (wr.setCell ⟨w.heap.size, k, none⟩ (.int .u8 255)) w.heap.size ((ffs (k + 1)).map B)) := by
        have := HB.out.set k (B 255)
        rw [ffs_set k hlt] at this
        exact this
      go_wp2
      exact ⟨⟨k + 1, by go_num, by omega, HB2, HW.out.setCell (Nat.le_refl _) _⟩, by simp [intOf]; omega⟩
    · obtain rfl : k = 256 := by omega
      have b1 : Bl 5 wr w.heap.size ((ffs 256).map B) := HB.out
      have hlt1 := b1.lt
      obtain ⟨ge, hge⟩ : ∃ ge, ge = wr.heap.size := ⟨_, rfl⟩
      have hbel := HW.out
      obtain ⟨gn, hgn⟩ : ∃ gn, gn = w.heap.size := ⟨_, rfl⟩
      rw [← hgn] at b1 hlt1
      have hne : gn ≠ ge := by omega
      have W1n : Bl 5 (wr.alloc (.cells #[.int .u8 3] 5)) gn ((ffs 256).map B) := b1.below (alloc_below wr _) (by omega)
      have W1e : Bl 5 (wr.alloc (.cells #[.int .u8 3] 5)) ge (([3] : List UInt8).map B) := by rw [hge]; exact alloc_bl wr (([3] : List UInt8).map B) 5
      have W1b : Below w.heap.size w (wr.alloc (.cells #[.int .u8 3] 5)) := hbel.trans ((alloc_below wr _).mono hbel.size)
      generalize hW1 : wr.alloc (.cells #[.int .u8 3] 5) = W1 at W1n W1e W1b
      have C1 := key_bl gn ge W1 _ _ (ffs_length 256 (by omega)) rfl W1n W1e
      have c1 := W1e.cell 0 (by simp)
      have f1 := W1e.frozen 0
      have W2e : Bl 5 (W1.setCell ⟨ge, 0, none⟩ (.int .u8 2)) ge (([2] : List UInt8).map B) := W1e.set 0 (B 2)
      have W2n := W1n.but ((But.refl W1 ge).set 0 (.int .u8 2)) hne
      have W2b : Below w.heap.size w (W1.setCell ⟨ge, 0, none⟩ (.int .u8 2)) := W1b.setCell (by show w.heap.size ≤ ge; omega) _
      generalize hW2 : W1.setCell ⟨ge, 0, none⟩ (.int .u8 2) = W2 at W2n W2e W2b
      have C2 := key_bl gn ge W2 _ _ (ffs_length 256 (by omega)) rfl W2n W2e
      have c2 := W2e.cell 0 (by simp)
      have f2 := W2e.frozen 0
      have W3e : Bl 5 (W2.setCell ⟨ge, 0, none⟩ (.int .u8 5)) ge (([5] : List UInt8).map B) := W2e.set 0 (B 5)
      have W3n := W2n.but ((But.refl W2 ge).set 0 (.int .u8 5)) hne
      have W3b : Below w.heap.size w (W2.setCell ⟨ge, 0, none⟩ (.int .u8 5)) := W2b.setCell (by show w.heap.size ≤ ge; omega) _
      generalize hW3 : W2.setCell ⟨ge, 0, none⟩ (.int .u8 5) = W3 at W3n W3e W3b
      have C3 := key_bl gn ge W3 _ _ (ffs_length 256 (by omega)) rfl W3n W3e
      have c3 := W3n.cell 0 (by rw [List.length_map, ffs_length 256 (by omega)]; omega)
      have f3 := W3n.frozen 0
      have W4n : Bl 5 (W3.setCell ⟨gn, 0, none⟩ (.int .u8 0)) gn (((ffs 256).set 0 0).map B) := by have := W3n.set 0 (B 0); rwa [← List.map_set] at this
      have W4e := W3e.but ((But.refl W3 gn).set 0 (.int .u8 0)) (fun e => hne e.symm)
      have W4b : Below w.heap.size w (W3.setCell ⟨gn, 0, none⟩ (.int .u8 0)) := W3b.setCell (by show w.heap.size ≤ gn; omega) _
      generalize hW4 : W3.setCell ⟨gn, 0, none⟩ (.int .u8 0) = W4 at W4n W4e W4b
      have C4 := key_bl gn ge W4 _ _ (by rw [List.length_set]; exact ffs_length 256 (by omega)) rfl W4n W4e
      rw [ffs_full, key_r1] at C1
      rw [ffs_full, key_r2] at C2
      rw [ffs_full, key_r3] at C3
      rw [ffs_full, key_r4] at C4
      have HZ : Hid (Below w.heap.size w W4) := W4b
      have o1 : ∃ v, W1.cell? ⟨ge, 0, none⟩ = some v := ⟨_, c1⟩
      have o2 : ∃ v, W2.cell? ⟨ge, 0, none⟩ = some v := ⟨_, c2⟩
      have o3 : ∃ v, W3.cell? ⟨gn, 0, none⟩ = some v := ⟨_, c3⟩
      clear c1 c2 c3
      obtain ⟨v1, o1⟩ := o1
      obtain ⟨v2, o2⟩ := o2
      obtain ⟨v3, o3⟩ := o3
      clear HB HW hk hlt b1 hbel W1n W1e W1b W2n W2e W2b W3n W3e W3b W4n W4e W4b hne hlt1
      rw [← hgn]
      have e1 : Hid (wr.alloc (.cells #[.int .u8 3] 5) = W1) := hW1
      have e2 : Hid (W1.setCell ⟨ge, 0, none⟩ (.int .u8 2) = W2) := hW2
      have e3 : Hid (W2.setCell ⟨ge, 0, none⟩ (.int .u8 5) = W3) := hW3
      have e4 : Hid (W3.setCell ⟨gn, 0, none⟩ (.int .u8 0) = W4) := hW4
      have eg : Hid (ge = wr.heap.size) := hge
      clear hgn hW1 hW2 hW3 hW4 hge
      go_wp2_with fail
      rw [e1.out, ← eg.out]
      refine C1.mono ?_
      rintro x w' ⟨rfl, rfl⟩
      clear C1
      go_wp2_with fail
      rw [e2.out]
      refine C2.mono ?_
      rintro x w' ⟨rfl, rfl⟩
      clear C2
      go_wp2_with fail
      rw [e3.out]
      refine C3.mono ?_
      rintro x w' ⟨rfl, rfl⟩
      clear C3
      go_wp2_with fail
      rw [e4.out]
      refine C4.mono ?_
      rintro x w' ⟨rfl, rfl⟩
      clear C4
      go_wp2
      go_ret
      exact ⟨rfl, HZ.out⟩

end Go.Proofs.Ytefpjjonmoofpaa
