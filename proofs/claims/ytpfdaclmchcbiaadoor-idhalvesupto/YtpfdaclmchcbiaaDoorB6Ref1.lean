import Derived.Test.YtpfdaclmchcbiaaDoorB6Facts
namespace Go.Proofs.YtpfdaclmchcbiaaDoor.B64
open Go.RowKit
set_option maxRecDepth 100000

/-- The document's row of signs: std says which. -/
def rowOf (std : Bool) : ByteArray := if std then stdRow else urlRow

set_option maxHeartbeats 400000 in
theorem signs_any (std : Bool) (w : World) : Calls Tryd.prog 29 #[.bool std] w fun e w' => e = .returned (.string (rowOf std)) ∧ w' = w := by
  cases std
  · go_enter Tryd.func29, Tryd.ntmps29
    go_wp2
    go_ret
    exact ⟨rfl, rfl⟩
  · go_enter Tryd.func29, Tryd.ntmps29
    go_wp2
    go_ret
    exact ⟨rfl, rfl⟩

theorem idx_hit (c : UInt8) : ∀ (l : List UInt8) (k : Nat), (∀ j, j < k → l.getD j 0 ≠ c) → k < l.length → l.getD k 0 = c → Lib.indexByte l c = k
  | [], k, _, hk, _ => by simp at hk
  | b :: l, 0, _, _, he => by
    have : b = c := by simpa using he
    simp [Lib.indexByte, this]
  | b :: l, k + 1, hno, hk, he => by
    have hb : b ≠ c := by have := hno 0 (by omega); simpa using this
    have ih := idx_hit c l k (fun j hj => by have := hno (j + 1) (by omega); simpa using this) (by simpa using hk) (by simpa using he)
    unfold Lib.indexByte
    rw [if_neg (by simpa using hb), ih, if_neg (by simp)]
    omega

theorem idx_miss (c : UInt8) : ∀ (l : List UInt8), (∀ j, j < l.length → l.getD j 0 ≠ c) → Lib.indexByte l c = -1
  | [], _ => rfl
  | b :: l, hno => by
    have hb : b ≠ c := by have := hno 0 (by simp); simpa using this
    have ih := idx_miss c l (fun j hj => by have := hno (j + 1) (by simpa using hj); simpa using this)
    unfold Lib.indexByte
    rw [if_neg (by simpa using hb), ih]
    rfl

theorem eq_byte (x y : UInt8) : ((x.toNat : Int) == (y.toNat : Int)) = decide (x = y) := by
  by_cases h : x = y
  · subst h; simp
  · have : x.toNat ≠ y.toNat := fun e => h (UInt8.toNat_inj.1 e)
    simp [h]; omega

theorem rowOf_size (std : Bool) : (rowOf std).size = 64 := by cases std <;> rfl

end Go.Proofs.YtpfdaclmchcbiaaDoor.B64