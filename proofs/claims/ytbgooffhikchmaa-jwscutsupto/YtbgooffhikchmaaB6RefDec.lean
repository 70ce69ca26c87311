import Derived.Test.YtbgooffhikchmaaB6RefRead
import Derived.Test.YtbgooffhikchmaaB6Same
namespace Go.Proofs.Ytbgooffhikchmaa.B64
open Go.RowKit

theorem refnumU (c : UInt8) (w : World) : Calls Try.prog 28 #[.int .u8 c.toNat, .bool false] w fun e w' => e = .returned (.int .i64 (ix urlRow c)) ∧ w' = w := refnum_any false c w
theorem refnumS (c : UInt8) (w : World) : Calls Try.prog 28 #[.int .u8 c.toNat, .bool true] w fun e w' => e = .returned (.int .i64 (ix stdRow c)) ∧ w' = w := refnum_any true c w

/-- The document's read at signs of a row. -/
def ReadSaid (std : Bool) (row : ByteArray) (l : List UInt8) (w : World) : Prop :=
  Calls Try.prog 29 #[.string ⟨l.toArray⟩, .bool std] w fun e w' =>
      ((∃ bs, dec row l = some bs ∧ e = .returned (.tuple #[.slice (some ⟨w.heap.size, 0, none⟩) bs.length bs.length, .bool true]) ∧ w'.ownsRow w.heap.size 5 1 (.slice (some ⟨w.heap.size, 0, none⟩) bs.length bs.length) bs.length (bs.map B)) ∨
        (dec row l = none ∧ e = .returned (.tuple #[.slice none 0 0, .bool false]))) ∧ Below w.heap.size w w'
theorem readU (l : List UInt8) (w : World) (hlen : l.length ≤ 281474976710656) (hall : ∀ c ∈ l, 0 ≤ ix urlRow c) (hmod : l.length % 4 ≠ 1) : ReadSaid false urlRow l w := refread_any false l w hlen hall hmod
theorem readS (l : List UInt8) (w : World) (hlen : l.length ≤ 281474976710656) (hall : ∀ c ∈ l, 0 ≤ ix stdRow c) (hmod : l.length % 4 ≠ 1) : ReadSaid true stdRow l w := refread_any true l w hlen hall hmod

set_option maxHeartbeats 1000000 in
theorem refdecode_any (l : List UInt8) (w : World) (hlen : l.length ≤ 281474976710656) :
    Calls Try.prog 17 #[.string ⟨l.toArray⟩] w fun e w' =>
      ∃ v, e = .returned (.tuple #[v, .int .i64 (decU l).2.1, .int .i64 (decU l).2.2]) ∧ Ans w' w.heap.size v (decU l).1 ∧ Below w.heap.size w w' := by
  go_enter Try.func17, Try.ntmps17
  go_wp2
  go_loop [5] (fun s => ∃ k : Nat, k ≤ l.length ∧ s = .int .i64 k ∧ k ≤ firstNo urlRow l) (fun s => l.length - (intOf s).toNat)
  case atStart => exact ⟨0, Nat.zero_le _, rfl, Nat.zero_le _⟩
  case round =>
    obtain ⟨k, hk, rfl, hkf⟩ := hrel
    by_cases hlt : k < l.length
    · have Hk : Hid (k < firstNo urlRow l ↔ ¬ ix urlRow l[k] < 0) := firstNo_lt urlRow l k hkf hlt
      go_wp2_with fail
      refine (refnumU l[k] w).mono ?_
      rintro e w' ⟨rfl, rfl⟩
      by_cases hneg : ix urlRow l[k] < 0
      · have e : firstNo urlRow l = k := by have := Hk.out; omega
        have He : Hid (decU l = (none, 20, (k : Int))) := by
          show decU l = _
          unfold decU
          rw [if_pos (by omega), e]
        clear e hkf Hk
        go_wp2
        go_ret3
        rw [He.out]
        exact ⟨_, rfl, rfl, Below.refl _ _⟩
      · have hk1 : k < firstNo urlRow l := by have := Hk.out; omega
        clear Hk
        go_wp2
        go_round
        case rel => exact ⟨k + 1, by omega, by go_num, by omega⟩
        case measure => simp [intOf]; omega
    · have hle := firstNo_le urlRow l
      have h1 : ¬ firstNo urlRow l < l.length := by omega
      have hall := all_of_first urlRow l h1
      clear hle hkf
      by_cases h2 : l.length % 4 = 1
      · have He : Hid (decU l = (none, 21, (l.length : Int))) := (if_neg h1).trans (if_pos h2)
        have h2' : (l.length : Int) % 4 = 1 := by omega
        clear hall h1 h2
        go_wp2
        go_ret3
        rw [He.out]
        exact ⟨_, rfl, rfl, Below.refl _ _⟩
      · have h2' : ¬ (l.length : Int) % 4 = 1 := by omega
        have C := readU l w hlen hall h2
        have He : Hid (decU l = match dec urlRow l with | some bs => (some bs, 0, 0) | none => (none, 22, (l.length : Int) - 1)) := (if_neg h1).trans (if_neg h2)
        clear hall h1 h2
        go_wp2_with fail
        refine Calls.mono C ?_
        rintro e w1 ⟨⟨bs, hd, rfl, hown⟩ | ⟨hd, rfl⟩, hbl⟩
        · have Hd : Hid (dec urlRow l = some bs) := hd
          clear hd C
          go_wp2
          go_ret3
          rw [He.out, Hd.out]
          exact ⟨_, rfl, ⟨_, _, Nat.le_refl _, rfl, hown⟩, hbl⟩
        · have Hd : Hid (dec urlRow l = none) := hd
          clear hd C
          go_wp2
          go_ret3
          rw [He.out, Hd.out]
          exact ⟨_, rfl, rfl, hbl⟩

end Go.Proofs.Ytbgooffhikchmaa.B64