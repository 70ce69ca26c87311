import Derived.Test.YtbgooffhikchmaaB6Facts
namespace Go.Proofs.Ytbgooffhikchmaa.B64
open Go.RowKit

/-- The document's row of signs: std says which. -/
def rowOf (std : Bool) : ByteArray := if std then stdRow else urlRow

set_option maxHeartbeats 400000 in
theorem signs_any (std : Bool) (w : World) : Calls Try.prog 35 #[.bool std] w fun e w' => e = .returned (.string (rowOf std)) ∧ w' = w := by
  cases std
  · go_enter Try.func35, Try.ntmps35
    go_wp2
    go_ret
    exact ⟨rfl, rfl⟩
  · go_enter Try.func35, Try.ntmps35
    go_wp2
    go_ret
    exact ⟨rfl, rfl⟩

theorem idx_hit (c : UInt8) : ∀ (l : List UInt8) (k : Nat), (∀ j, j < k → l.getD j 0 ≠ c) → k < l.length → l.getD k 0 = c → Lib.indexByte l c = k
  | [], k, _, hk, _ => by simp at hk
  | b :: l, 0, _, _, he => by
    have : b = c := by simpa using he
    simp [Lib.indexByte, this]
  | b :: l, k + 1, hno, hk, he => by
    have hb : b ≠ c := by have := hno 0 (by omega); simpa using this
    have ih := idx_hit c l k (fun j hj => by have := hno (j + 1) (by omega); simpa using this) (by simpa using hk) (by simpa using he)
    unfold Lib.indexByte
    rw [if_neg (by simpa using hb), ih, if_neg (by simp)]
    omega

theorem idx_miss (c : UInt8) : ∀ (l : List UInt8), (∀ j, j < l.length → l.getD j 0 ≠ c) → Lib.indexByte l c = -1
  | [], _ => rfl
  | b :: l, hno => by
    have hb : b ≠ c := by have := hno 0 (by simp); simpa using this
    have ih := idx_miss c l (fun j hj => by have := hno (j + 1) (by simpa using hj); simpa using this)
    unfold Lib.indexByte
    rw [if_neg (by simpa using hb), ih]
    rfl

theorem eq_byte (x y : UInt8) : ((x.toNat : Int) == (y.toNat : Int)) = decide (x = y) := by
  by_cases h : x = y
  · subst h; simp
  · have : x.toNat ≠ y.toNat := fun e => h (UInt8.toNat_inj.1 e)
    simp [h]; omega

theorem rowOf_size (std : Bool) : (rowOf std).size = 64 := by cases std <;> rfl

set_option maxHeartbeats 1000000 in
theorem refnum_any (std : Bool) (c : UInt8) (w : World) : Calls Try.prog 28 #[.int .u8 c.toNat, .bool std] w fun e w' => e = .returned (.int .i64 (ix (rowOf std) c)) ∧ w' = w := by
  have hsz := rowOf_size std
  have Hhit : Hid (∀ k, (∀ j, j < k → at6 (rowOf std) j ≠ c) → k < 64 → at6 (rowOf std) k = c → ix (rowOf std) c = k) := fun k h1 h2 h3 => idx_hit c _ k h1 (by rw [Array.length_toList]; show k < (rowOf std).size; omega) h3
  have Hmiss : Hid ((∀ j, j < 64 → at6 (rowOf std) j ≠ c) → ix (rowOf std) c = -1) := fun h => idx_miss c _ fun j hj => h j (by rw [Array.length_toList] at hj; have : j < (rowOf std).size := hj; omega)
  go_enter Try.func28, Try.ntmps28
  go_wp2_with fail
  refine (signs_any std w).mono ?_
  rintro e w' ⟨rfl, rfl⟩
  generalize hrow : rowOf std = row at *
  have Hrow : Hid (rowOf std = row) := hrow
  clear hrow
  go_wp2
  go_loop [6] (fun s => ∃ k : Nat, k ≤ 64 ∧ s = .int .i64 k ∧ Hid (∀ j, j < k → at6 row j ≠ c)) (fun s => 64 - (intOf s).toNat)
  case atStart => exact ⟨0, Nat.zero_le _, rfl, fun j hj => by omega⟩
  case round =>
    obtain ⟨k, hk, rfl, Hno⟩ := hrel
    by_cases hlt : k < 64
    · have gx : row[k]'(by omega) = at6 row k := at6_get row k (by omega)
      have hq := eq_byte (at6 row k) c
      by_cases he : at6 row k = c
      · have Hr : Hid (ix row c = k) := Hhit.out k Hno.out hlt he
        have hd : (((at6 row k).toNat : Int) == (c.toNat : Int)) = true := by rw [hq]; simp [he]
        clear hq he Hno
        go_wp2
        go_ret
        rw [Hrow.out, Hr.out]
        exact ⟨rfl, rfl⟩
      · have Hno' : Hid (∀ j, j < k + 1 → at6 row j ≠ c) := fun j hj => by
          by_cases h : j = k
          · subst h; exact he
          · exact Hno.out j (by omega)
        have hd : (((at6 row k).toNat : Int) == (c.toNat : Int)) = false := by rw [hq]; simp [he]
        clear hq he Hno
        go_wp2
        go_round
        case rel => exact ⟨k + 1, by omega, by go_num, Hno'⟩
        case measure => simp [intOf]; omega
    · have Hr : Hid (ix row c = -1) := Hmiss.out fun j hj => Hno.out j (by omega)
      go_wp2
      go_ret
      rw [Hrow.out, Hr.out]
      exact ⟨rfl, rfl⟩

end Go.Proofs.Ytbgooffhikchmaa.B64