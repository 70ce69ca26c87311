import Derived.Test.YtccfcplhifbjlaaGreatDoorTa
import Derived.BigQuiet
namespace Go.Proofs.YtccfcplhifbjlaaGreatDoor
open Go.RowKit
set_option maxRecDepth 100000

/-- A secret as a key. -/
def kV (ao : Option Addr) (n c : Nat) : Value := .agg #[.int .i64 1, .int .i64 0, .slice ao n c, .slice none 0 0, .slice none 0 0, .slice none 0 0, .slice none 0 0]
def kC (ao : Option Addr) (n c : Nat) : List Value := [.int .i64 1, .int .i64 0, .slice ao n c, .slice none 0 0, .slice none 0 0, .slice none 0 0, .slice none 0 0]

theorem unused_nil (g : Nat) (w : World) (h : ∀ j, j < 4 → w.cell? ⟨g, j, none⟩ = some (.slice none 0 0)) : Calls Tryz.prog 216 #[.slice (some ⟨g, 0, none⟩) 4 4] w fun e w' => e = .returned .nilIface ∧ w' = w := by
  have H : Hid (∀ j, j < 4 → w.cell? ⟨g, j, none⟩ = some (.slice none 0 0)) := h
  clear h
  go_enter Tryz.func216, Tryz.ntmps216
  go_wp2
  go_loopw [7] (fun s wr => ∃ k : Nat, s = .int .i64 (k : Int) ∧ k ≤ 4 ∧ wr = w) (fun s _ => 4 - (intOf s).toNat)
  case atStart => exact ⟨0, rfl, by omega, rfl⟩
  case round =>
    obtain ⟨k, rfl, hk, rfl⟩ := hrel
    by_cases hlt : k < 4
    · have d1 : decide ((k : Int) < 4) = true := decide_eq_true (by omega)
      have c1 := H.out k hlt
      go_wp2
      go_roundw
      case rel => exact ⟨k + 1, by go_num, by omega, by first | rfl | trivial⟩
      case measure => simp [intOf]; omega
    · have d1 : decide ((k : Int) < 4) = false := decide_eq_false (by omega)
      go_wp2
      go_ret
      exact ⟨rfl, rfl⟩

set_option maxHeartbeats 1000000 in
theorem rightOct_ok (ao : Option Addr) (n c : Nat) (w : World) (h1 : 32 ≤ n) (h2 : n ≤ 4096) : Calls Tryz.prog 135 #[kV ao n c] w fun e w' => e = .returned .nilIface ∧ Below w.heap.size w w' := by
  have d1 : decide ((n : Int) < 32) = false := decide_eq_false (by omega)
  have d2 : decide ((n : Int) > 4096) = false := decide_eq_false (by omega)
  unfold kV
  go_enter Tryz.func135, Tryz.ntmps135
  go_wp2_with fail
  have hb := alloc_bl (w.alloc (.cells #[.int .i64 1, .int .i64 0, .slice ao n c, .slice none 0 0, .slice none 0 0, .slice none 0 0, .slice none 0 0] 32)) [.slice none 0 0, .slice none 0 0, .slice none 0 0, .slice none 0 0] 30
  rw [alloc_size] at hb
  refine (unused_nil (w.heap.size + 1) _ (fun j hj => ?_)).mono ?_
  · have h := hb.cell j (by simpa using hj)
    rcases (show j = 0 ∨ j = 1 ∨ j = 2 ∨ j = 3 by omega) with rfl | rfl | rfl | rfl <;> exact h
  · rintro e w1 ⟨rfl, rfl⟩
    go_wp2
    go_ret
    exact ⟨rfl, Below.alloc (Below.alloc (Below.refl _ _) (Nat.le_refl _) _) (by rw [alloc_size]; omega) _⟩

set_option maxHeartbeats 1000000 in
theorem right_ok (ao : Option Addr) (n c : Nat) (w : World) (h1 : 32 ≤ n) (h2 : n ≤ 4096) : Calls Tryz.prog 72 #[kV ao n c] w fun e w' => e = .returned .nilIface ∧ Below w.heap.size w w' := by
  have C1 : Hid (∀ w, Calls Tryz.prog 135 #[kV ao n c] w fun e w' => e = .returned .nilIface ∧ Below w.heap.size w w') := fun w => rightOct_ok ao n c w h1 h2
  unfold kV at *
  go_enter Tryz.func72, Tryz.ntmps72
  go_wp2_with fail
  refine (C1.out _).mono ?_
  rintro e w1 ⟨rfl, B1⟩
  go_wp2
  go_ret
  exact ⟨rfl, (alloc_below w _).trans (B1.mono (by rw [alloc_size]; omega))⟩

theorem codeOf_nil (w : World) : Calls Tryz.prog 71 #[.nilIface] w fun e w' => e = .returned (.int .i64 0) ∧ w' = w := by
  go_enter Tryz.func71, Tryz.ntmps71
  go_wp2
  go_ret
  exact ⟨rfl, rfl⟩

set_option maxHeartbeats 1000000 in
theorem spcheck_ok (ao : Option Addr) (n c : Nat) (w : World) (h1 : 32 ≤ n) (h2 : n ≤ 4096) : Calls Tryz.prog 23 #[kV ao n c] w fun e w' => e = .returned (.int .i64 0) ∧ Below w.heap.size w w' := by
  have C1 : Hid (∀ w, Calls Tryz.prog 72 #[kV ao n c] w fun e w' => e = .returned .nilIface ∧ Below w.heap.size w w') := fun w => right_ok ao n c w h1 h2
  unfold kV at *
  go_enter Tryz.func23, Tryz.ntmps23
  go_wp2_with fail
  refine (C1.out _).mono ?_
  rintro e w1 ⟨rfl, B1⟩
  go_wp2_with fail
  refine (codeOf_nil w1).mono ?_
  rintro e w2 ⟨rfl, rfl⟩
  go_wp2
  go_ret
  exact ⟨rfl, (alloc_below w _).trans (B1.mono (by rw [alloc_size]; omega))⟩

set_option maxHeartbeats 1000000 in
theorem fits_hs (a : Int) (ao : Option Addr) (n c : Nat) (w : World) (h : a = 1 ∨ a = 2 ∨ a = 3) : Calls Tryz.prog 12 #[.int .i64 a, kV ao n c] w fun e w' => e = .returned (.bool true) ∧ Below w.heap.size w w' := by
  unfold kV
  rcases h with rfl | rfl | rfl <;>
  · go_enter Tryz.func12, Tryz.ntmps12
    go_wp2
    go_ret
    exact ⟨rfl, alloc_below w _⟩

set_option maxHeartbeats 1000000 in
theorem holds_hs (a : Int) (ak ad az : Option Addr) (ck cd cs : Nat) (key data sig : List UInt8) (w : World) (T : Sha.Tb w) (hk : Rd w ak key) (hd : Rd w ad data) (hs : Rd w az sig) (hck : key.length ≤ ck) (hck2 : ck ≤ 9223372036854775807) (hcd : data.length ≤ cd) (hcd2 : cd ≤ 9223372036854775807) (hdl : data.length ≤ 1000000000) (hsl : sig.length ≤ 1000000000) (hkl : key.length ≤ 1000000000) :
    Calls Tryz.prog 36 #[.int .i64 1, .int .i64 a, kV ak key.length ck, .slice ad data.length cd, .slice az sig.length cs] w fun e w' => e = .returned (.bool (decide (0 < Sha.siz a ∧ Sha.tagF a key data = sig))) ∧ Below w.heap.size w w' := by
  have C1 : Hid (∀ w', Below w.heap.size w w' → Calls Tryz.prog 18 #[.int .i64 a, .slice ak key.length ck, .slice ad data.length cd, .slice az sig.length cs] w' fun e w'' => e = .returned (.bool (decide (0 < Sha.siz a ∧ Sha.tagF a key data = sig))) ∧ Below w'.heap.size w' w'') := fun w' hb => Sha.check_any a ak ad az ck cd cs key data sig w' (T.below hb) (sha_rd (hk.below hb (Nat.le_refl _))) (sha_rd (hd.below hb (Nat.le_refl _))) (sha_rd (hs.below hb (Nat.le_refl _))) hck hck2 (by omega) hcd hcd2 (by omega) (by omega)
  generalize decide (0 < Sha.siz a ∧ Sha.tagF a key data = sig) = r at *
  clear T hk hd hs
  unfold kV
  go_enter Tryz.func36, Tryz.ntmps36
  go_wp2_with fail
  refine (C1.out _ (alloc_below w _)).mono ?_
  rintro e w1 ⟨rfl, B1⟩
  go_wp2
  go_ret
  exact ⟨rfl, (alloc_below w _).trans (B1.mono (by rw [alloc_size]; omega))⟩

end Go.Proofs.YtccfcplhifbjlaaGreatDoor
