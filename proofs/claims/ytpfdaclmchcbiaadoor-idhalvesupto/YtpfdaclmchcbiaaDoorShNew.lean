import Derived.Test.YtpfdaclmchcbiaaDoorShStat
namespace Go.Proofs.YtpfdaclmchcbiaaDoor.Sha
open Go.RowKit
set_option maxRecDepth 100000

/-- A state's cells behind its hash. -/
def stR (ch : List Int) (ct : Nat) (tl : List UInt8) : List Value := ch.map V ++ (.int .u64 (ct : Int) :: tl.map B)

theorem zero138 : ∃ Z : List Value, Z = stR (List.replicate 8 0) 0 Z128 ∧ ∀ w, (zeroValue 46).run Tryd.prog w = .ok (.agg (.int .i64 0 :: Z).toArray) w :=
  ⟨_, rfl, zero_run (by kernel_rfl)⟩

theorem descState : ∃ d, Tryd.prog.underlying 46 = some d ∧ d.isRow = true := ⟨_, Tryd.underlying46, rfl⟩

theorem oneS (h : Int) (ch : List Int) (ct : Nat) (tl : List UInt8) : ∀ v ∈ stV h ch ct tl, v.oneCell' = true := by
  intro v hv
  unfold stV at hv
  rcases List.mem_cons.1 hv with rfl | hv
  · rfl
  rcases List.mem_append.1 hv with hv | hv
  · obtain ⟨c, _, rfl⟩ := List.mem_map.1 hv
    rfl
  rcases List.mem_cons.1 hv with rfl | hv
  · rfl
  · exact oneB _ v hv

set_option maxRecDepth 100000 in
set_option maxHeartbeats 1000000 in
theorem new_1 (w : World) (T : Tb w) :
    Calls Tryd.prog 12 #[.int .i64 1] w fun e w' => e = .returned (.pointer (some ⟨w.heap.size, 0, none⟩)) ∧ Sta w' w.heap.size 1 [] ∧ Below w.heap.size w w' := by
  have HT : Hid (Tb w) := T
  obtain ⟨Z, hZ, hz⟩ := zero138
  have hA : Hid (Cl (w.alloc (.cells (.int .i64 1 :: Z : List Value).toArray 46)) w.heap.size (stV 1 ((st0 1).take 0 ++ (List.replicate 8 (0 : Int)).drop 0) 0 Z128)) := by rw [hZ]; exact alloc_cl _ _ _
  have hB : Hid (Below w.heap.size w (w.alloc (.cells (.int .i64 1 :: Z : List Value).toArray 46))) := alloc_below _ _
  have hg : 7 ≤ w.heap.size := by
    rcases Nat.lt_or_ge 6 w.heap.size with h1 | h1
    · exact h1
    · exfalso
      have := T.k 0 (by omega)
      unfold World.cell? at this
      simp [Array.getElem?_eq_none h1] at this
  clear T hZ
  go_enter Tryd.func12, Tryd.ntmps12
  go_wp2
  generalize w.alloc (.cells (.int .i64 1 :: Z : List Value).toArray 46) = w0 at hA hB ⊢
  generalize hg0 : w.heap.size = g at *
  clear hz
  go_loopw [8] (fun s ws => ∃ k : Nat, s = .int .i64 (k : Int) ∧ k ≤ 8 ∧ Hid (Cl ws g (stV 1 ((st0 1).take k ++ (List.replicate 8 (0 : Int)).drop k) 0 Z128)) ∧ Hid (Below g w ws)) (fun s _ => 8 - (intOf s).toNat)
  case atStart => exact ⟨0, rfl, by omega, hA, hB⟩
  case round =>
    obtain ⟨k, rfl, hk, hcl, hbel⟩ := hrel
    by_cases hlt : k < 8
    · have gS := (HT.out.below (hg0 ▸ hbel.out)).s k (by omega)
      unfold V at gS
      have hll : ((st0 1).take k ++ (List.replicate 8 (0 : Int)).drop k).length = 8 := by simp [st0_length]; omega
      have gf := hcl.out.frozen (1 + k)
      have gc := stV_chain hcl.out k (by omega)
      generalize ((st0 1).take k ++ (List.replicate 8 (0 : Int)).drop k)[k] = old at gc
      unfold V at gc
      have Hy : Hid (True → (st0 1).getD k 0 = SQ.getD k 0 / 4294967296) := fun _ => by simp [st0, hlt]
      generalize SQ.getD (k) 0 = x at *
      clear hA hB
      go_wp2
      refine wp_region_tail 9 (by kernel_rfl) (by kernel_rfl) ?_
      simp only [List.take_succ_cons, List.take_zero, List.drop_succ_cons, List.drop_zero]
      repeat (first | go_big_quiet_skip | (go_big_quiet_want; go_big_quiet_op; go_big_quiet_on))
      refine wpQuiet_nil ?_
      go_wp2
      refine ⟨⟨k + 1, by go_num, by omega, ?_, below_drewN (hbel.out.setCell (Nat.le_refl _) _) _⟩, by simp [intOf]; omega⟩
      have h1 := hcl.out.set (1 + k) (V (x / 4294967296))
      rw [stV_setchain _ _ _ _ _ _ (by omega), ← Hy.out trivial, mix_set _ _ _ (by rw [st0_length]; exact hlt) (by simp; omega), Hy.out trivial] at h1
      exact h1
    · obtain rfl : k = 8 := by omega
      go_wp2
      subst hg0
      go_ret
      refine ⟨rfl, ?_, hbel.out⟩
      have h1 := hcl.out
      rw [List.take_of_length_le (by rw [st0_length]; omega), List.drop_of_length_le (by simp), List.append_nil] at h1
      exact h1

set_option maxRecDepth 100000 in
set_option maxHeartbeats 1000000 in
theorem new_2 (w : World) (T : Tb w) :
    Calls Tryd.prog 12 #[.int .i64 2] w fun e w' => e = .returned (.pointer (some ⟨w.heap.size, 0, none⟩)) ∧ Sta w' w.heap.size 2 [] ∧ Below w.heap.size w w' := by
  have HT : Hid (Tb w) := T
  obtain ⟨Z, hZ, hz⟩ := zero138
  have hA : Hid (Cl (w.alloc (.cells (.int .i64 2 :: Z : List Value).toArray 46)) w.heap.size (stV 2 ((st0 2).take 0 ++ (List.replicate 8 (0 : Int)).drop 0) 0 Z128)) := by rw [hZ]; exact alloc_cl _ _ _
  have hB : Hid (Below w.heap.size w (w.alloc (.cells (.int .i64 2 :: Z : List Value).toArray 46))) := alloc_below _ _
  have hg : 7 ≤ w.heap.size := by
    rcases Nat.lt_or_ge 6 w.heap.size with h1 | h1
    · exact h1
    · exfalso
      have := T.k 0 (by omega)
      unfold World.cell? at this
      simp [Array.getElem?_eq_none h1] at this
  clear T hZ
  go_enter Tryd.func12, Tryd.ntmps12
  go_wp2
  generalize w.alloc (.cells (.int .i64 2 :: Z : List Value).toArray 46) = w0 at hA hB ⊢
  generalize hg0 : w.heap.size = g at *
  clear hz
  go_loopw [8] (fun s ws => ∃ k : Nat, s = .int .i64 (k : Int) ∧ k ≤ 8 ∧ Hid (Cl ws g (stV 2 ((st0 2).take k ++ (List.replicate 8 (0 : Int)).drop k) 0 Z128)) ∧ Hid (Below g w ws)) (fun s _ => 8 - (intOf s).toNat)
  case atStart => exact ⟨0, rfl, by omega, hA, hB⟩
  case round =>
    obtain ⟨k, rfl, hk, hcl, hbel⟩ := hrel
    by_cases hlt : k < 8
    · have gS := (HT.out.below (hg0 ▸ hbel.out)).s (k + 8) (by omega)
      unfold V at gS
      have hll : ((st0 2).take k ++ (List.replicate 8 (0 : Int)).drop k).length = 8 := by simp [st0_length]; omega
      have gf := hcl.out.frozen (1 + k)
      have gc := stV_chain hcl.out k (by omega)
      generalize ((st0 2).take k ++ (List.replicate 8 (0 : Int)).drop k)[k] = old at gc
      unfold V at gc
      have Hy : Hid (True → (st0 2).getD k 0 = SQ.getD (k + 8) 0) := fun _ => by simp [st0, hlt]
      generalize SQ.getD (k + 8) 0 = x at *
      clear hA hB
      go_wp2
      refine wp_region_tail 9 (by kernel_rfl) (by kernel_rfl) ?_
      simp only [List.take_succ_cons, List.take_zero, List.drop_succ_cons, List.drop_zero]
      repeat (first | go_big_quiet_skip | (go_big_quiet_want; go_big_quiet_op; go_big_quiet_on))
      refine wpQuiet_nil ?_
      go_wp2
      refine ⟨⟨k + 1, by go_num, by omega, ?_, below_drewN (hbel.out.setCell (Nat.le_refl _) _) _⟩, by simp [intOf]; omega⟩
      have h1 := hcl.out.set (1 + k) (V (x))
      rw [stV_setchain _ _ _ _ _ _ (by omega), ← Hy.out trivial, mix_set _ _ _ (by rw [st0_length]; exact hlt) (by simp; omega), Hy.out trivial] at h1
      exact h1
    · obtain rfl : k = 8 := by omega
      go_wp2
      subst hg0
      go_ret
      refine ⟨rfl, ?_, hbel.out⟩
      have h1 := hcl.out
      rw [List.take_of_length_le (by rw [st0_length]; omega), List.drop_of_length_le (by simp), List.append_nil] at h1
      exact h1

set_option maxRecDepth 100000 in
set_option maxHeartbeats 1000000 in
theorem new_3 (w : World) (T : Tb w) :
    Calls Tryd.prog 12 #[.int .i64 3] w fun e w' => e = .returned (.pointer (some ⟨w.heap.size, 0, none⟩)) ∧ Sta w' w.heap.size 3 [] ∧ Below w.heap.size w w' := by
  have HT : Hid (Tb w) := T
  obtain ⟨Z, hZ, hz⟩ := zero138
  have hA : Hid (Cl (w.alloc (.cells (.int .i64 3 :: Z : List Value).toArray 46)) w.heap.size (stV 3 ((st0 3).take 0 ++ (List.replicate 8 (0 : Int)).drop 0) 0 Z128)) := by rw [hZ]; exact alloc_cl _ _ _
  have hB : Hid (Below w.heap.size w (w.alloc (.cells (.int .i64 3 :: Z : List Value).toArray 46))) := alloc_below _ _
  have hg : 7 ≤ w.heap.size := by
    rcases Nat.lt_or_ge 6 w.heap.size with h1 | h1
    · exact h1
    · exfalso
      have := T.k 0 (by omega)
      unfold World.cell? at this
      simp [Array.getElem?_eq_none h1] at this
  clear T hZ
  go_enter Tryd.func12, Tryd.ntmps12
  go_wp2
  generalize w.alloc (.cells (.int .i64 3 :: Z : List Value).toArray 46) = w0 at hA hB ⊢
  generalize hg0 : w.heap.size = g at *
  clear hz
  go_loopw [8] (fun s ws => ∃ k : Nat, s = .int .i64 (k : Int) ∧ k ≤ 8 ∧ Hid (Cl ws g (stV 3 ((st0 3).take k ++ (List.replicate 8 (0 : Int)).drop k) 0 Z128)) ∧ Hid (Below g w ws)) (fun s _ => 8 - (intOf s).toNat)
  case atStart => exact ⟨0, rfl, by omega, hA, hB⟩
  case round =>
    obtain ⟨k, rfl, hk, hcl, hbel⟩ := hrel
    by_cases hlt : k < 8
    · have gS := (HT.out.below (hg0 ▸ hbel.out)).s k (by omega)
      unfold V at gS
      have hll : ((st0 3).take k ++ (List.replicate 8 (0 : Int)).drop k).length = 8 := by simp [st0_length]; omega
      have gf := hcl.out.frozen (1 + k)
      have gc := stV_chain hcl.out k (by omega)
      generalize ((st0 3).take k ++ (List.replicate 8 (0 : Int)).drop k)[k] = old at gc
      unfold V at gc
      have Hy : Hid (True → (st0 3).getD k 0 = SQ.getD k 0) := fun _ => by simp [st0, hlt]
      generalize SQ.getD (k) 0 = x at *
      clear hA hB
      go_wp2
      refine wp_region_tail 8 (by kernel_rfl) (by kernel_rfl) ?_
      simp only [List.take_succ_cons, List.take_zero, List.drop_succ_cons, List.drop_zero]
      repeat (first | go_big_quiet_skip | (go_big_quiet_want; go_big_quiet_op; go_big_quiet_on))
      refine wpQuiet_nil ?_
      go_wp2
      refine ⟨⟨k + 1, by go_num, by omega, ?_, below_drewN (hbel.out.setCell (Nat.le_refl _) _) _⟩, by simp [intOf]; omega⟩
      have h1 := hcl.out.set (1 + k) (V (x))
      rw [stV_setchain _ _ _ _ _ _ (by omega), ← Hy.out trivial, mix_set _ _ _ (by rw [st0_length]; exact hlt) (by simp; omega), Hy.out trivial] at h1
      exact h1
    · obtain rfl : k = 8 := by omega
      go_wp2
      subst hg0
      go_ret
      refine ⟨rfl, ?_, hbel.out⟩
      have h1 := hcl.out
      rw [List.take_of_length_le (by rw [st0_length]; omega), List.drop_of_length_le (by simp), List.append_nil] at h1
      exact h1

theorem new_any (h : Int) (w : World) (hh : isH h) (T : Tb w) :
    Calls Tryd.prog 12 #[.int .i64 h] w fun e w' => e = .returned (.pointer (some ⟨w.heap.size, 0, none⟩)) ∧ Sta w' w.heap.size h [] ∧ Below w.heap.size w w' := by
  rcases hh with rfl | rfl | rfl
  · exact new_1 w T
  · exact new_2 w T
  · exact new_3 w T

set_option maxRecDepth 100000 in
set_option maxHeartbeats 1000000 in
theorem new_none (h : Int) (w : World) (hh : ¬ isH h) :
    Calls Tryd.prog 12 #[.int .i64 h] w fun e w' => e = .returned (.pointer none) ∧ Below w.heap.size w w' := by
  obtain ⟨Z, hZ, hz⟩ := zero138
  have h1 : h ≠ 1 := fun e => hh (.inl e)
  have h2 : h ≠ 2 := fun e => hh (.inr (.inl e))
  have h3 : h ≠ 3 := fun e => hh (.inr (.inr e))
  have hB : Hid (Below w.heap.size w (w.alloc (.cells (.int .i64 h :: Z : List Value).toArray 46))) := alloc_below _ _
  clear hh hZ
  go_enter Tryd.func12, Tryd.ntmps12
  go_wp2
  generalize w.alloc (.cells (.int .i64 h :: Z : List Value).toArray 46) = w0 at hB ⊢
  generalize hg0 : w.heap.size = g at *
  clear hz
  go_loopw [8] (fun s ws => s = .int .i64 0 ∧ Hid (Below g w ws)) (fun s _ => 8 - (intOf s).toNat)
  case atStart => exact ⟨rfl, hB⟩
  case round =>
    obtain ⟨rfl, hbel⟩ := hrel
    go_wp2
    subst hg0
    go_ret
    exact ⟨rfl, hbel.out⟩

end Go.Proofs.YtpfdaclmchcbiaaDoor.Sha