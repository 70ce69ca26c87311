import Derived.Test.YtpfdaclmchcbiaaDoorB6Num
namespace Go.Proofs.YtpfdaclmchcbiaaDoor.B64
open Go.RowKit
set_option maxRecDepth 100000

/-- The place of the first byte that is in no place of the row; the length, if all are. -/
def firstNo (row : ByteArray) (l : List UInt8) : Nat := l.findIdx fun c => ix row c < 0

theorem firstNo_lt (row : ByteArray) (l : List UInt8) (k : Nat) (hk : k ≤ firstNo row l) (hlt : k < l.length) : k < firstNo row l ↔ ¬ ix row l[k] < 0 := by
  constructor
  · intro h
    have := List.not_of_lt_findIdx h
    simpa using this
  · intro h
    rcases Nat.lt_or_ge k (firstNo row l) with h1 | h1
    · exact h1
    · exfalso
      have e : firstNo row l = k := Nat.le_antisymm h1 hk
      have hl : List.findIdx (fun c => decide (ix row c < 0)) l < l.length := by show firstNo row l < _; omega
      have h2 := List.findIdx_getElem (p := fun c => decide (ix row c < 0)) (w := hl)
      have e' : List.findIdx (fun c => decide (ix row c < 0)) l = k := e
      simp only [e'] at h2
      exact h (by simpa using h2)

theorem firstNo_le (row : ByteArray) (l : List UInt8) : firstNo row l ≤ l.length := List.findIdx_le_length

end Go.Proofs.YtpfdaclmchcbiaaDoor.B64