import Derived.Test.YtkaoobdemaahbaaKp1
namespace Go.Proofs.Ytkaoobdemaahbaa
open Go.RowKit

/-- What the list i is written full of, and grown by. -/
def mkV (i : Nat) (p : Int) : Nat := if p = 0 then i % 250 else if p = 1 then i / 250 % 250 else 250
def moV (i : Nat) (p : Int) : Nat := if p < 2 then mkV i p else 251
theorem mkV_lt (i : Nat) (p : Int) : mkV i p < 256 := by unfold mkV; split <;> (try split) <;> omega
theorem moV_lt (i : Nat) (p : Int) : moV i p < 256 := by unfold moV; split; exact mkV_lt i p; omega

set_option maxRecDepth 100000 in
set_option maxHeartbeats 4000000 in
theorem whole_any (g off c : Nat) (ao : Option Addr) (cap : Nat) (l : List UInt8) (w : World) (hr : Rd w (some ⟨g, off, none⟩) (l ++ mks 90)) (hr2 : Rd w ao l) (hl : l.length ≤ 2000000) (hc : l.length + 90 ≤ c) (hc2 : c ≤ 9223372036854775807) :
    Calls Try.prog 22 #[.slice (some ⟨g, off, none⟩) (l.length + 90) c, .slice ao l.length cap] w fun e w' => e = .returned (.bool true) ∧ ∃ q, w' = w.drewN q := by
  have C := sameBytes_any (some ⟨g, off, none⟩) ao c cap l l w (by have := hr.take l.length; rw [List.take_left] at this; exact this) hr2 (by omega) (by omega)
  rw [decide_eq_true (rfl : l = l)] at C
  have HC : Hid (Calls Try.prog 10 #[.slice (some ⟨g, off, none⟩) l.length c, .slice ao l.length cap] w fun e w' => e = .returned (.bool true) ∧ ∃ q, w' = w.drewN q) := C
  obtain ⟨_, _, e9, _, hcell⟩ := hr.cell (by rw [List.length_append, mks_length]; omega)
  cases e9
  have HX : Hid (∀ k, k < 90 → w.cell? ⟨g, off + (l.length + k), none⟩ = some (.int .u8 ((90 + k : Nat) : Int))) := fun k hk => by
    have h1 := hcell (l.length + k) (by rw [List.length_append, mks_length]; omega)
    rw [h1, List.getD_eq_getElem?_getD, List.getElem?_append_right (by omega), Nat.add_sub_cancel_left]
    have : (mks 90)[k]? = some (UInt8.ofNat (90 + k)) := by simp [mks, hk]
    rw [this]
    simp only [Option.getD_some]
    rw [u8_ofNat _ (by omega)]
  clear C hr hr2 hcell
  go_enter Try.func22, Try.ntmps22
  go_wp2
  go_loop [5] (fun s5 => ∃ k : Nat, s5 = .int .i64 (k : Int) ∧ k ≤ 90) (fun s => 90 - (intOf s).toNat)
  case atStart => exact ⟨0, rfl, Nat.zero_le _⟩
  case round =>
    obtain ⟨k, rfl, hk⟩ := hrel
    by_cases hk2 : k < 90
    · have gx := HX.out k hk2
      go_wp2
      go_round
      case rel => exact ⟨k + 1, by go_num, by omega⟩
      case measure => simp [intOf]; omega
    · obtain rfl : k = 90 := by omega
      go_wp2_with fail
      refine HC.out.mono ?_
      rintro e w1 ⟨rfl, q, rfl⟩
      go_wp2
      go_ret
      exact ⟨rfl, q, rfl⟩

end Go.Proofs.Ytkaoobdemaahbaa
