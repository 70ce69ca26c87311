import Derived.Test.YtccfcplhifbjlaaGreatDoorShStat
namespace Go.Proofs.YtccfcplhifbjlaaGreatDoor.Sha
open Go.RowKit
set_option maxRecDepth 100000

/-- A state's cells behind its hash. -/
def stR (ch : List Int) (ct : Nat) (tl : List UInt8) : List Value := ch.map V ++ (.int .u64 (ct : Int) :: tl.map B)

theorem zero138 : ∃ Z : List Value, Z = stR (List.replicate 8 0) 0 Z128 ∧ ∀ w, (zeroValue 195).run Tryz.prog w = .ok (.agg (.int .i64 0 :: Z).toArray) w :=
  ⟨_, rfl, zero_run (by kernel_rfl)⟩

theorem descState : ∃ d, Tryz.prog.underlying 195 = some d ∧ d.isRow = true := ⟨_, Tryz.underlying195, rfl⟩

theorem oneS (h : Int) (ch : List Int) (ct : Nat) (tl : List UInt8) : ∀ v ∈ stV h ch ct tl, v.oneCell' = true := by
  intro v hv
  unfold stV at hv
  rcases List.mem_cons.1 hv with rfl | hv
  · rfl
  rcases List.mem_append.1 hv with hv | hv
  · obtain ⟨c, _, rfl⟩ := List.mem_map.1 hv
    rfl
  rcases List.mem_cons.1 hv with rfl | hv
  · rfl
  · exact oneB _ v hv

set_option maxRecDepth 100000 in
set_option maxHeartbeats 1000000 in
theorem copy_any (b : Nat) (h : Int) (m : List UInt8) (w : World) (H : Sta w b h m) (hh : isH h) :
    Calls Tryz.prog 261 #[.pointer (some ⟨b, 0, none⟩)] w fun e w' => e = .returned (.pointer (some ⟨w.heap.size, 0, none⟩)) ∧ Sta w' w.heap.size h m ∧ Below w.heap.size w w' := by
  have HH : Hid (Sta w b h m) := H
  obtain ⟨Z, hZ, hz⟩ := zero138
  have HZ : Hid (True → Z = stR (List.replicate 8 0) 0 Z128) := fun _ => hZ
  obtain ⟨S, hS⟩ : ∃ S, S = stV h (cF h m) m.length (tF h m) := ⟨_, rfl⟩
  have hSl : S.length = 138 := by rw [hS, stV_length, cF_length, tF_length hh]
  have HR : Hid (w.rangeAt b 0 S) := fun j v hj => by
    obtain ⟨hj1, hj2⟩ := List.getElem?_eq_some_iff.1 hj
    have := HH.out
    unfold Sta at this
    rw [← hS] at this
    rw [Nat.zero_add, this.cell j hj1, hj2]
  have HI : Hid ((Tryz.prog.info? 195).map (·.size) = some S.length) := by
    show _ = _
    rw [hSl]; kernel_rfl
  have HS : Hid (True → S = stV h (cF h m) m.length (tF h m)) := fun _ => hS
  obtain ⟨d, hu, hd⟩ := descState
  have Hu : Hid (Tryz.prog.underlying 195 = some d) := hu
  have Hd : Hid (d.isRow = true) := hd
  have HO : Hid (S.toArray.all (·.oneCell') = true) := by
    show _ = _
    rw [hS]
    exact all_oneCell_toArray (oneS _ _ _ _)
  have hA : Hid (Cl (w.alloc (.cells (.int .i64 0 :: Z : List Value).toArray 195)) w.heap.size (.int .i64 0 :: Z)) := alloc_cl _ _ _
  have hB : Hid (Below w.heap.size w (w.alloc (.cells (.int .i64 0 :: Z : List Value).toArray 195))) := alloc_below _ _
  have hZl : (.int .i64 0 :: Z : List Value).length = 138 := by rw [hZ]; simp [stR, Z128]
  have hth : Hid ((w.alloc (.cells (.int .i64 0 :: Z : List Value).toArray 195)).there w.heap.size 0 S.toArray.size) := hA.out.there 0 _ (by rw [hZl, List.size_toArray, hSl]; omega)
  have hI2 : Hid ((Tryz.prog.info? 195).map (·.size) = some S.toArray.size) := HI
  have hsl : Hid (True → S.length = 138) := fun _ => hSl
  have hzl : Hid (True → (.int .i64 0 :: Z : List Value).length = 138) := fun _ => hZl
  clear H hZ hS hSl hZl hu hd
  go_enter Tryz.func261, Tryz.ntmps261
  go_wp2_with (first | refine wpList_load_mid rfl 195 _ rfl b 0 rfl S d HR.out Hu.out Hd.out HI.out ?_ | refine wpList_store_mid rfl 195 _ _ rfl w.heap.size 0 S.toArray rfl rfl hth.out hI2.out HO.out ?_)
  go_ret
  have hc := Cl.cells S 0 _ _ hA.out (by rw [hzl.out trivial, hsl.out trivial]; omega)
  have e : spl (.int .i64 0 :: Z) 0 S = S := by
    unfold spl
    rw [List.take_zero, List.nil_append, List.drop_of_length_le (by rw [hzl.out trivial, hsl.out trivial]; omega), List.append_nil]
  rw [e, HS.out trivial] at hc
  refine ⟨rfl, ?_, ?_⟩
  · unfold Sta
    simpa [HS.out trivial] using hc
  · exact hB.out.trans ((But.cells S 0 _ _ (But.refl _ _)).below hB.out.size (Nat.le_refl _))

set_option maxRecDepth 100000 in
set_option maxHeartbeats 1000000 in
theorem new_1 (w : World) (T : Tb w) :
    Calls Tryz.prog 110 #[.int .i64 1] w fun e w' => e = .returned (.pointer (some ⟨w.heap.size, 0, none⟩)) ∧ Sta w' w.heap.size 1 [] ∧ Below w.heap.size w w' := by
  have HT : Hid (Tb w) := T
  obtain ⟨Z, hZ, hz⟩ := zero138
  have hA : Hid (Cl (w.alloc (.cells (.int .i64 1 :: Z : List Value).toArray 195)) w.heap.size (stV 1 ((st0 1).take 0 ++ (List.replicate 8 (0 : Int)).drop 0) 0 Z128)) := by rw [hZ]; exact alloc_cl _ _ _
  have hB : Hid (Below w.heap.size w (w.alloc (.cells (.int .i64 1 :: Z : List Value).toArray 195))) := alloc_below _ _
  have hg : 15 ≤ w.heap.size := by
    rcases Nat.lt_or_ge 14 w.heap.size with h1 | h1
    · exact h1
    · exfalso
      have := T.k 0 (by omega)
      unfold World.cell? at this
      simp [Array.getElem?_eq_none h1] at this
  clear T hZ
  go_enter Tryz.func110, Tryz.ntmps110
  go_wp2
  generalize w.alloc (.cells (.int .i64 1 :: Z : List Value).toArray 195) = w0 at hA hB ⊢
  generalize hg0 : w.heap.size = g at *
  clear hz
  go_loopw [8] (fun s ws => ∃ k : Nat, s = .int .i64 (k : Int) ∧ k ≤ 8 ∧ Hid (Cl ws g (stV 1 ((st0 1).take k ++ (List.replicate 8 (0 : Int)).drop k) 0 Z128)) ∧ Hid (Below g w ws)) (fun s _ => 8 - (intOf s).toNat)
  case atStart => exact ⟨0, rfl, by omega, hA, hB⟩
  case round =>
    obtain ⟨k, rfl, hk, hcl, hbel⟩ := hrel
    by_cases hlt : k < 8
    · have gS := (HT.out.below (hg0 ▸ hbel.out)).s k (by omega)
      unfold V at gS
      have hll : ((st0 1).take k ++ (List.replicate 8 (0 : Int)).drop k).length = 8 := by simp [st0_length]; omega
      have gf := hcl.out.frozen (1 + k)
      have gc := stV_chain hcl.out k (by omega)
      generalize ((st0 1).take k ++ (List.replicate 8 (0 : Int)).drop k)[k] = old at gc
      unfold V at gc
      have Hy : Hid (True → (st0 1).getD k 0 = SQ.getD k 0 / 4294967296) := fun _ => by simp [st0, hlt]
      generalize SQ.getD (k) 0 = x at *
      clear hA hB
      go_wp2
      refine wp_region_tail 9 (by kernel_rfl) (by kernel_rfl) ?_
      simp only [List.take_succ_cons, List.take_zero, List.drop_succ_cons, List.drop_zero]
      repeat (first | go_big_quiet_skip | (go_big_quiet_want; go_big_quiet_op; go_big_quiet_on))
      refine wpQuiet_nil ?_
      go_wp2
      refine ⟨⟨k + 1, by go_num, by omega, ?_, below_drewN (hbel.out.setCell (Nat.le_refl _) _) _⟩, by simp [intOf]; omega⟩
      have h1 := hcl.out.set (1 + k) (V (x / 4294967296))
      rw [stV_setchain _ _ _ _ _ _ (by omega), ← Hy.out trivial, mix_set _ _ _ (by rw [st0_length]; exact hlt) (by simp; omega), Hy.out trivial] at h1
      exact h1
    · obtain rfl : k = 8 := by omega
      go_wp2
      subst hg0
      go_ret
      refine ⟨rfl, ?_, hbel.out⟩
      have h1 := hcl.out
      rw [List.take_of_length_le (by rw [st0_length]; omega), List.drop_of_length_le (by simp), List.append_nil] at h1
      exact h1

set_option maxRecDepth 100000 in
set_option maxHeartbeats 1000000 in
theorem new_2 (w : World) (T : Tb w) :
    Calls Tryz.prog 110 #[.int .i64 2] w fun e w' => e = .returned (.pointer (some ⟨w.heap.size, 0, none⟩)) ∧ Sta w' w.heap.size 2 [] ∧ Below w.heap.size w w' := by
  have HT : Hid (Tb w) := T
  obtain ⟨Z, hZ, hz⟩ := zero138
  have hA : Hid (Cl (w.alloc (.cells (.int .i64 2 :: Z : List Value).toArray 195)) w.heap.size (stV 2 ((st0 2).take 0 ++ (List.replicate 8 (0 : Int)).drop 0) 0 Z128)) := by rw [hZ]; exact alloc_cl _ _ _
  have hB : Hid (Below w.heap.size w (w.alloc (.cells (.int .i64 2 :: Z : List Value).toArray 195))) := alloc_below _ _
  have hg : 15 ≤ w.heap.size := by
    rcases Nat.lt_or_ge 14 w.heap.size with h1 | h1
    · exact h1
    · exfalso
      have := T.k 0 (by omega)
      unfold World.cell? at this
      simp [Array.getElem?_eq_none h1] at this
  clear T hZ
  go_enter Tryz.func110, Tryz.ntmps110
  go_wp2
  generalize w.alloc (.cells (.int .i64 2 :: Z : List Value).toArray 195) = w0 at hA hB ⊢
  generalize hg0 : w.heap.size = g at *
  clear hz
  go_loopw [8] (fun s ws => ∃ k : Nat, s = .int .i64 (k : Int) ∧ k ≤ 8 ∧ Hid (Cl ws g (stV 2 ((st0 2).take k ++ (List.replicate 8 (0 : Int)).drop k) 0 Z128)) ∧ Hid (Below g w ws)) (fun s _ => 8 - (intOf s).toNat)
  case atStart => exact ⟨0, rfl, by omega, hA, hB⟩
  case round =>
    obtain ⟨k, rfl, hk, hcl, hbel⟩ := hrel
    by_cases hlt : k < 8
    · have gS := (HT.out.below (hg0 ▸ hbel.out)).s (k + 8) (by omega)
      unfold V at gS
      have hll : ((st0 2).take k ++ (List.replicate 8 (0 : Int)).drop k).length = 8 := by simp [st0_length]; omega
      have gf := hcl.out.frozen (1 + k)
      have gc := stV_chain hcl.out k (by omega)
      generalize ((st0 2).take k ++ (List.replicate 8 (0 : Int)).drop k)[k] = old at gc
      unfold V at gc
      have Hy : Hid (True → (st0 2).getD k 0 = SQ.getD (k + 8) 0) := fun _ => by simp [st0, hlt]
      generalize SQ.getD (k + 8) 0 = x at *
      clear hA hB
      go_wp2
      refine wp_region_tail 9 (by kernel_rfl) (by kernel_rfl) ?_
      simp only [List.take_succ_cons, List.take_zero, List.drop_succ_cons, List.drop_zero]
      repeat (first | go_big_quiet_skip | (go_big_quiet_want; go_big_quiet_op; go_big_quiet_on))
      refine wpQuiet_nil ?_
      go_wp2
      refine ⟨⟨k + 1, by go_num, by omega, ?_, below_drewN (hbel.out.setCell (Nat.le_refl _) _) _⟩, by simp [intOf]; omega⟩
      have h1 := hcl.out.set (1 + k) (V (x))
      rw [stV_setchain _ _ _ _ _ _ (by omega), ← Hy.out trivial, mix_set _ _ _ (by rw [st0_length]; exact hlt) (by simp; omega), Hy.out trivial] at h1
      exact h1
    · obtain rfl : k = 8 := by omega
      go_wp2
      subst hg0
      go_ret
      refine ⟨rfl, ?_, hbel.out⟩
      have h1 := hcl.out
      rw [List.take_of_length_le (by rw [st0_length]; omega), List.drop_of_length_le (by simp), List.append_nil] at h1
      exact h1

set_option maxRecDepth 100000 in
set_option maxHeartbeats 1000000 in
theorem new_3 (w : World) (T : Tb w) :
    Calls Tryz.prog 110 #[.int .i64 3] w fun e w' => e = .returned (.pointer (some ⟨w.heap.size, 0, none⟩)) ∧ Sta w' w.heap.size 3 [] ∧ Below w.heap.size w w' := by
  have HT : Hid (Tb w) := T
  obtain ⟨Z, hZ, hz⟩ := zero138
  have hA : Hid (Cl (w.alloc (.cells (.int .i64 3 :: Z : List Value).toArray 195)) w.heap.size (stV 3 ((st0 3).take 0 ++ (List.replicate 8 (0 : Int)).drop 0) 0 Z128)) := by rw [hZ]; exact alloc_cl _ _ _
  have hB : Hid (Below w.heap.size w (w.alloc (.cells (.int .i64 3 :: Z : List Value).toArray 195))) := alloc_below _ _
  have hg : 15 ≤ w.heap.size := by
    rcases Nat.lt_or_ge 14 w.heap.size with h1 | h1
    · exact h1
    · exfalso
      have := T.k 0 (by omega)
      unfold World.cell? at this
      simp [Array.getElem?_eq_none h1] at this
  clear T hZ
  go_enter Tryz.func110, Tryz.ntmps110
  go_wp2
  generalize w.alloc (.cells (.int .i64 3 :: Z : List Value).toArray 195) = w0 at hA hB ⊢
  generalize hg0 : w.heap.size = g at *
  clear hz
  go_loopw [8] (fun s ws => ∃ k : Nat, s = .int .i64 (k : Int) ∧ k ≤ 8 ∧ Hid (Cl ws g (stV 3 ((st0 3).take k ++ (List.replicate 8 (0 : Int)).drop k) 0 Z128)) ∧ Hid (Below g w ws)) (fun s _ => 8 - (intOf s).toNat)
  case atStart => exact ⟨0, rfl, by omega, hA, hB⟩
  case round =>
    obtain ⟨k, rfl, hk, hcl, hbel⟩ := hrel
    by_cases hlt : k < 8
    · have gS := (HT.out.below (hg0 ▸ hbel.out)).s k (by omega)
      unfold V at gS
      have hll : ((st0 3).take k ++ (List.replicate 8 (0 : Int)).drop k).length = 8 := by simp [st0_length]; omega
      have gf := hcl.out.frozen (1 + k)
      have gc := stV_chain hcl.out k (by omega)
      generalize ((st0 3).take k ++ (List.replicate 8 (0 : Int)).drop k)[k] = old at gc
      unfold V at gc
      have Hy : Hid (True → (st0 3).getD k 0 = SQ.getD k 0) := fun _ => by simp [st0, hlt]
      generalize SQ.getD (k) 0 = x at *
      clear hA hB
      go_wp2
      refine wp_region_tail 8 (by kernel_rfl) (by kernel_rfl) ?_
      simp only [List.take_succ_cons, List.take_zero, List.drop_succ_cons, List.drop_zero]
      repeat (first | go_big_quiet_skip | (go_big_quiet_want; go_big_quiet_op; go_big_quiet_on))
      refine wpQuiet_nil ?_
      go_wp2
      refine ⟨⟨k + 1, by go_num, by omega, ?_, below_drewN (hbel.out.setCell (Nat.le_refl _) _) _⟩, by simp [intOf]; omega⟩
      have h1 := hcl.out.set (1 + k) (V (x))
      rw [stV_setchain _ _ _ _ _ _ (by omega), ← Hy.out trivial, mix_set _ _ _ (by rw [st0_length]; exact hlt) (by simp; omega), Hy.out trivial] at h1
      exact h1
    · obtain rfl : k = 8 := by omega
      go_wp2
      subst hg0
      go_ret
      refine ⟨rfl, ?_, hbel.out⟩
      have h1 := hcl.out
      rw [List.take_of_length_le (by rw [st0_length]; omega), List.drop_of_length_le (by simp), List.append_nil] at h1
      exact h1

theorem new_any (h : Int) (w : World) (hh : isH h) (T : Tb w) :
    Calls Tryz.prog 110 #[.int .i64 h] w fun e w' => e = .returned (.pointer (some ⟨w.heap.size, 0, none⟩)) ∧ Sta w' w.heap.size h [] ∧ Below w.heap.size w w' := by
  rcases hh with rfl | rfl | rfl
  · exact new_1 w T
  · exact new_2 w T
  · exact new_3 w T

set_option maxRecDepth 100000 in
set_option maxHeartbeats 1000000 in
theorem new_none (h : Int) (w : World) (hh : ¬ isH h) :
    Calls Tryz.prog 110 #[.int .i64 h] w fun e w' => e = .returned (.pointer none) ∧ Below w.heap.size w w' := by
  obtain ⟨Z, hZ, hz⟩ := zero138
  have h1 : h ≠ 1 := fun e => hh (.inl e)
  have h2 : h ≠ 2 := fun e => hh (.inr (.inl e))
  have h3 : h ≠ 3 := fun e => hh (.inr (.inr e))
  have hB : Hid (Below w.heap.size w (w.alloc (.cells (.int .i64 h :: Z : List Value).toArray 195))) := alloc_below _ _
  clear hh hZ
  go_enter Tryz.func110, Tryz.ntmps110
  go_wp2
  generalize w.alloc (.cells (.int .i64 h :: Z : List Value).toArray 195) = w0 at hB ⊢
  generalize hg0 : w.heap.size = g at *
  clear hz
  go_loopw [8] (fun s ws => s = .int .i64 0 ∧ Hid (Below g w ws)) (fun s _ => 8 - (intOf s).toNat)
  case atStart => exact ⟨rfl, hB⟩
  case round =>
    obtain ⟨rfl, hbel⟩ := hrel
    go_wp2
    subst hg0
    go_ret
    exact ⟨rfl, hbel.out⟩

end Go.Proofs.YtccfcplhifbjlaaGreatDoor.Sha