import Derived.Test.YtccfcplhifbjlaaGreatDoorIf
import Derived.Test.YtccfcplhifbjlaaGreatDoorOrk
import Derived.Deep.RegionWith
namespace Go.Proofs.YtccfcplhifbjlaaGreatDoor
open Go.RowKit
set_option maxRecDepth 100000

set_option maxHeartbeats 4000000 in
/-- Check under a secret that is too short or too long. -/
theorem check_no1 (a : Int) (ak az : Option Addr) (ck cs n m : Nat) (data : List UInt8) (w : World) (ha : a = 1 ∨ a = 2 ∨ a = 3) (hq : n < 32 ∨ 4096 < n) :
    Calls Tryz.prog 13 #[.int .i64 a, kV ak n ck, .string ⟨data.toArray⟩, .slice az m cs] w fun e w' => e = .returned (.int .i64 90) ∧ Below w.heap.size w w' := by
  have C1 := family_hs a
  have C2 : Hid (∀ w, Calls Tryz.prog 12 #[.int .i64 a, kV ak n ck] w fun e w' => e = .returned (.bool true) ∧ Below w.heap.size w w') := fun w => fits_hs a ak n ck w ha
  have C4 := Sha.size_any a
  obtain ⟨c, q90, C3⟩ : ∃ c : Int, (c != 0) = true ∧ Hid (∀ w, Calls Tryz.prog 23 #[kV ak n ck] w fun e w' => e = .returned (.int .i64 c) ∧ Below w.heap.size w w') := ⟨90, rfl, fun w => spcheck_no ak n ck w hq⟩
  unfold kV at C2 C3 ⊢
  clear hq
  go_enter Tryz.func13, Tryz.ntmps13
  go_wp2_with fail
  refine (C1 _ ha).mono ?_
  rintro e w1 ⟨rfl, rfl⟩
  go_wp2_with fail
  refine (C2.out _).mono ?_
  rintro e w2 ⟨rfl, B2⟩
  obtain ⟨b0, hb0⟩ : ∃ b0, w.heap.size = b0 := ⟨_, rfl⟩
  have HK2 : Hid (Bl 32 w2 b0 (kC ak n ck)) := by
    rw [← hb0]
    exact (alloc_bl w (kC ak n ck) 32).below B2 (by rw [alloc_size]; omega)
  have HB2 : Hid (Below w.heap.size w w2) := (alloc_below w _).trans (B2.mono (by rw [alloc_size]; omega))
  clear B2
  rw [hb0]
  have c0 : w2.cell? ⟨b0, 0, none⟩ = some (.int .i64 1) := HK2.out.cell 0 (by simp [kC])
  have c1 : w2.cell? ⟨b0, 1, none⟩ = some (.int .i64 0) := HK2.out.cell 1 (by simp [kC])
  have c2 : w2.cell? ⟨b0, 2, none⟩ = some (.slice ak n ck) := HK2.out.cell 2 (by simp [kC])
  have c3 : w2.cell? ⟨b0, 3, none⟩ = some (.slice none 0 0) := HK2.out.cell 3 (by simp [kC])
  have c4 : w2.cell? ⟨b0, 4, none⟩ = some (.slice none 0 0) := HK2.out.cell 4 (by simp [kC])
  have c5 : w2.cell? ⟨b0, 5, none⟩ = some (.slice none 0 0) := HK2.out.cell 5 (by simp [kC])
  have c6 : w2.cell? ⟨b0, 6, none⟩ = some (.slice none 0 0) := HK2.out.cell 6 (by simp [kC])
  go_wp2_with fail
  refine wp_region_K 15 (fun _ => True) (by kernel_rfl) ?_
  refine wpAnyK_step 0 rfl (by kernel_rfl) (fun K hK => ?_)
  go_simp
  refine hK.out _ _ (fun _ => trivial) ?_
  clear hK K
  try simp only [Act.put, List.setIfInBounds_toArray, List.set_cons_zero, List.set_cons_succ]
  refine wpAnyK_step 1 rfl (by kernel_rfl) (fun K hK => ?_)
  go_simp
  refine (C3.out _).mono ?_
  rintro e w3 ⟨rfl, B3⟩
  have HB3 : Hid (Below w.heap.size w w3) := (below_drewN HB2.out 1).trans (B3.mono (show w.heap.size ≤ w2.heap.size from HB2.out.size))
  clear B3
  dsimp only
  refine hK.out _ _ (fun _ => trivial) ?_
  clear hK K
  try simp only [Act.put, List.setIfInBounds_toArray, List.set_cons_zero, List.set_cons_succ]
  refine wpAnyK_take0 2 (v := .bool true) rfl (by kernel_rfl) (fun _ _ _ h => h) (Or.inl ⟨by rfl, ?hy2⟩) (fun _ => trivial) ?_
  case hy2 => (intro w hSw; go_simp; try with_reducible rfl)
  try simp only [Act.put, List.setIfInBounds_toArray, List.set_cons_zero, List.set_cons_succ]
  refine wpAnyK_take0 3 (v := .bool true) rfl (by kernel_rfl) (fun _ _ _ h => h) (Or.inl ⟨by rfl, ?hy3⟩) (fun _ => trivial) ?_
  case hy3 => (intro w hSw; go_simp; try with_reducible rfl)
  try simp only [Act.put, List.setIfInBounds_toArray, List.set_cons_zero, List.set_cons_succ]
  refine wpAnyK_take0 4 (v := undef) rfl (by kernel_rfl) (fun _ _ _ h => h) (Or.inr ⟨by rfl, rfl⟩) (fun _ => trivial) ?_
  try simp only [Act.put, List.setIfInBounds_toArray, List.set_cons_zero, List.set_cons_succ]
  refine wpAnyK_take0 5 (v := undef) rfl (by kernel_rfl) (fun _ _ _ h => h) (Or.inr ⟨by rfl, rfl⟩) (fun _ => trivial) ?_
  try simp only [Act.put, List.setIfInBounds_toArray, List.set_cons_zero, List.set_cons_succ]
  refine wpAnyK_take0 6 (v := undef) rfl (by kernel_rfl) (fun _ _ _ h => h) (Or.inr ⟨by rfl, rfl⟩) (fun _ => trivial) ?_
  try simp only [Act.put, List.setIfInBounds_toArray, List.set_cons_zero, List.set_cons_succ]
  refine wpAnyK_take0 7 (v := undef) rfl (by kernel_rfl) (fun _ _ _ h => h) (Or.inr ⟨by rfl, rfl⟩) (fun _ => trivial) ?_
  try simp only [Act.put, List.setIfInBounds_toArray, List.set_cons_zero, List.set_cons_succ]
  refine wpAnyK_take0 8 (v := undef) rfl (by kernel_rfl) (fun _ _ _ h => h) (Or.inr ⟨by rfl, rfl⟩) (fun _ => trivial) ?_
  try simp only [Act.put, List.setIfInBounds_toArray, List.set_cons_zero, List.set_cons_succ]
  refine wpAnyK_take0 9 (v := undef) rfl (by kernel_rfl) (fun _ _ _ h => h) (Or.inr ⟨by rfl, rfl⟩) (fun _ => trivial) ?_
  try simp only [Act.put, List.setIfInBounds_toArray, List.set_cons_zero, List.set_cons_succ]
  refine wpAnyK_take0 10 (v := undef) rfl (by kernel_rfl) (fun _ _ _ h => h) (Or.inr ⟨by rfl, rfl⟩) (fun _ => trivial) ?_
  try simp only [Act.put, List.setIfInBounds_toArray, List.set_cons_zero, List.set_cons_succ]
  refine wpAnyK_take0 11 (v := undef) rfl (by kernel_rfl) (fun _ _ _ h => h) (Or.inr ⟨by rfl, rfl⟩) (fun _ => trivial) ?_
  try simp only [Act.put, List.setIfInBounds_toArray, List.set_cons_zero, List.set_cons_succ]
  refine wpAnyK_take0 12 (v := undef) rfl (by kernel_rfl) (fun _ _ _ h => h) (Or.inr ⟨by rfl, rfl⟩) (fun _ => trivial) ?_
  try simp only [Act.put, List.setIfInBounds_toArray, List.set_cons_zero, List.set_cons_succ]
  refine wpAnyK_take0 13 (v := undef) rfl (by kernel_rfl) (fun _ _ _ h => h) (Or.inr ⟨by rfl, rfl⟩) (fun _ => trivial) ?_
  try simp only [Act.put, List.setIfInBounds_toArray, List.set_cons_zero, List.set_cons_succ]
  refine wpAnyK_take0 14 (v := .bool true) rfl (by kernel_rfl) (fun _ _ _ h => h) (Or.inl ⟨by rfl, ?hy14⟩) (fun _ => trivial) ?_
  case hy14 => (intro w hSw; go_simp; try with_reducible rfl)
  try simp only [Act.put, List.setIfInBounds_toArray, List.set_cons_zero, List.set_cons_succ]
  refine wpAnyK_done (by kernel_rfl) ?_ _
  clear c0 c1 c2 c3 c4 c5 c6 HK2 HB2 C1 C2 C3 C4
  go_wp2
  go_ret
  exact ⟨rfl, by first | exact HB3.out | (rw [← hb0]; exact HB3.out)⟩

set_option maxHeartbeats 4000000 in
/-- Check under a secret that is too short or too long. -/
theorem check_no2 (a : Int) (ak az : Option Addr) (ck cs n m : Nat) (data : List UInt8) (w : World) (ha : a = 1 ∨ a = 2 ∨ a = 3) (h1 : 32 ≤ n) (h2 : n ≤ 4096) (h3 : n < Sha.siz a) :
    Calls Tryz.prog 13 #[.int .i64 a, kV ak n ck, .string ⟨data.toArray⟩, .slice az m cs] w fun e w' => e = .returned (.int .i64 90) ∧ Below w.heap.size w w' := by
  have C1 := family_hs a
  have C2 : Hid (∀ w, Calls Tryz.prog 12 #[.int .i64 a, kV ak n ck] w fun e w' => e = .returned (.bool true) ∧ Below w.heap.size w w') := fun w => fits_hs a ak n ck w ha
  have C4 := Sha.size_any a
  have C3 : Hid (∀ w, Calls Tryz.prog 23 #[kV ak n ck] w fun e w' => e = .returned (.int .i64 0) ∧ Below w.heap.size w w') := fun w => spcheck_ok ak n ck w (by omega) (by omega)
  have d1 : decide ((n : Int) < (Sha.siz a : Int)) = true := decide_eq_true (by omega)
  unfold kV at C2 C3 ⊢
  have d1b : decide (n < Sha.siz a) = true := decide_eq_true h3
  go_enter Tryz.func13, Tryz.ntmps13
  go_wp2_with fail
  refine (C1 _ ha).mono ?_
  rintro e w1 ⟨rfl, rfl⟩
  go_wp2_with fail
  refine (C2.out _).mono ?_
  rintro e w2 ⟨rfl, B2⟩
  obtain ⟨b0, hb0⟩ : ∃ b0, w.heap.size = b0 := ⟨_, rfl⟩
  have HK2 : Hid (Bl 32 w2 b0 (kC ak n ck)) := by
    rw [← hb0]
    exact (alloc_bl w (kC ak n ck) 32).below B2 (by rw [alloc_size]; omega)
  have HB2 : Hid (Below w.heap.size w w2) := (alloc_below w _).trans (B2.mono (by rw [alloc_size]; omega))
  clear B2
  rw [hb0]
  have c0 : w2.cell? ⟨b0, 0, none⟩ = some (.int .i64 1) := HK2.out.cell 0 (by simp [kC])
  have c1 : w2.cell? ⟨b0, 1, none⟩ = some (.int .i64 0) := HK2.out.cell 1 (by simp [kC])
  have c2 : w2.cell? ⟨b0, 2, none⟩ = some (.slice ak n ck) := HK2.out.cell 2 (by simp [kC])
  have c3 : w2.cell? ⟨b0, 3, none⟩ = some (.slice none 0 0) := HK2.out.cell 3 (by simp [kC])
  have c4 : w2.cell? ⟨b0, 4, none⟩ = some (.slice none 0 0) := HK2.out.cell 4 (by simp [kC])
  have c5 : w2.cell? ⟨b0, 5, none⟩ = some (.slice none 0 0) := HK2.out.cell 5 (by simp [kC])
  have c6 : w2.cell? ⟨b0, 6, none⟩ = some (.slice none 0 0) := HK2.out.cell 6 (by simp [kC])
  go_wp2_with fail
  go_region_with (first
    | (go_at_call 23; refine (C3.out _).mono ?_; rintro e w3 ⟨rfl, B3⟩; have HB3 : Hid (Below w.heap.size w w3) := (below_drewN HB2.out 1).trans (B3.mono (show w.heap.size ≤ w2.heap.size from HB2.out.size)); have HK3 : Hid (Bl 32 w3 b0 (kC ak n ck)) := (show Bl 32 w2.drew b0 (kC ak n ck) from HK2.out).below B3 HK2.out.lt; clear B3; have g2 : w3.cell? ⟨b0, 2, none⟩ = some (.slice ak n ck) := HK3.out.cell 2 (by simp [kC]))
    | (go_at_call 35; refine (C4 _).mono ?_; rintro e w4 ⟨rfl, rfl⟩))
  all_goals clear c0 c1 c2 c3 c4 c5 c6 HK2 HB2 C1 C2 C3 C4
  all_goals go_wp2
  all_goals go_ret
  all_goals exact ⟨rfl, by first | exact HB3.out | (rw [← hb0]; exact HB3.out)⟩

/-- Check under a secret that is too short or too long. -/
theorem check_no (a : Int) (ak az : Option Addr) (ck cs n m : Nat) (data : List UInt8) (w : World) (ha : a = 1 ∨ a = 2 ∨ a = 3) (hn : n < Sha.siz a ∨ 4096 < n) :
    Calls Tryz.prog 13 #[.int .i64 a, kV ak n ck, .string ⟨data.toArray⟩, .slice az m cs] w fun e w' => e = .returned (.int .i64 90) ∧ Below w.heap.size w w' := by
  by_cases hq : n < 32 ∨ 4096 < n
  · exact check_no1 a ak az ck cs n m data w ha hq
  · exact check_no2 a ak az ck cs n m data w ha (by omega) (by omega) (by omega)

end Go.Proofs.YtccfcplhifbjlaaGreatDoor
