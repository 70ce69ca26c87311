import Derived.Test.YtpfdaclmchcbiaaGreatDoorB6Num
namespace Go.Proofs.YtpfdaclmchcbiaaGreatDoor.B64
open Go.RowKit
set_option maxRecDepth 100000

/-- The place of the first byte that is in no place of the row; the length, if all are. -/
def firstNo (row : ByteArray) (l : List UInt8) : Nat := l.findIdx fun c => ix row c < 0

theorem firstNo_lt (row : ByteArray) (l : List UInt8) (k : Nat) (hk : k ≤ firstNo row l) (hlt : k < l.length) : k < firstNo row l ↔ ¬ ix row l[k] < 0 := by
  constructor
  · intro h
    have := List.not_of_lt_findIdx h
    simpa using this
  · intro h
    rcases Nat.lt_or_ge k (firstNo row l) with h1 | h1
    · exact h1
    · exfalso
      have e : firstNo row l = k := Nat.le_antisymm h1 hk
      have hl : List.findIdx (fun c => decide (ix row c < 0)) l < l.length := by show firstNo row l < _; omega
      have h2 := List.findIdx_getElem (p := fun c => decide (ix row c < 0)) (w := hl)
      have e' : List.findIdx (fun c => decide (ix row c < 0)) l = k := e
      simp only [e'] at h2
      exact h (by simpa using h2)

theorem firstNo_le (row : ByteArray) (l : List UInt8) : firstNo row l ≤ l.length := List.findIdx_le_length

set_option maxHeartbeats 400000 in
theorem first_any (row : ByteArray) (l : List UInt8) (w : World) (hlen : l.length ≤ 281474976710656) :
    Calls Tryz.prog 33 #[.string ⟨l.toArray⟩, .string row] w fun e w' => e = .returned (.int .i64 (firstNo row l)) ∧ w' = w := by
  go_enter Tryz.func33, Tryz.ntmps33
  go_wp2
  go_loop [8] (fun s => ∃ k : Nat, k ≤ l.length ∧ s = .int .i64 k ∧ k ≤ firstNo row l) (fun s => l.length - (intOf s).toNat)
  case atStart => exact ⟨0, Nat.zero_le _, rfl, Nat.zero_le _⟩
  case round =>
    obtain ⟨k, hk, rfl, hkf⟩ := hrel
    by_cases hlt : k < l.length
    · have Hk : Hid (k < firstNo row l ↔ ¬ ix row l[k] < 0) := firstNo_lt row l k hkf hlt
      go_wp2_with fail
      refine (idx_any row l[k] w).mono ?_
      rintro e w' ⟨rfl, rfl⟩
      by_cases hneg : ix row l[k] < 0
      · have hd : decide (ix row l[k] < 0) = true := by simpa using hneg
        have e : firstNo row l = k := by have := Hk.out; omega
        have He : Hid (firstNo row l = k) := e
        clear e hkf
        go_wp2
        go_ret
        rw [He.out]
        exact ⟨rfl, rfl⟩
      · have hd : decide (ix row l[k] < 0) = false := by simpa using hneg
        have hk1 : k < firstNo row l := by have := Hk.out; omega
        go_wp2
        go_round
        case rel => exact ⟨k + 1, by omega, by go_num, by omega⟩
        case measure => simp [intOf]; omega
    · have hle := firstNo_le row l
      have e : firstNo row l = l.length := by omega
      have He : Hid (firstNo row l = l.length) := e
      clear e hle hkf
      go_wp2
      go_ret
      rw [He.out]
      exact ⟨rfl, rfl⟩

end Go.Proofs.YtpfdaclmchcbiaaGreatDoor.B64