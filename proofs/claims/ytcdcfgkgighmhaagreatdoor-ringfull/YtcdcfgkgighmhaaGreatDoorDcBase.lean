import Derived.Test.YtcdcfgkgighmhaaGreatDoorRows
import Derived.WalkKit
import Derived.WalkSpells
import Derived.WalkLawsBesides
import Derived.Deep.QuietTactic
import Derived.BigQuiet
import Derived.Lib.Bytealg
import Derived.Deep.RegionWith
import Derived.Laws.NewBlocks
import Derived.Laws.Alloc2
namespace Go.Proofs.YtcdcfgkgighmhaaGreatDoor.Dec
open Go.RowKit

theorem below_drewN {B : Nat} {a w : World} (h : Below B a w) (q : Nat) : Below B a (w.drewN q) := ⟨h.os, h.tape, h.output, h.size, h.block⟩

/-- Is the byte a digit's sign? -/
def isD (c : UInt8) : Bool := decide (48 ≤ c.toNat) && decide (c.toNat ≤ 57)

/-- How many digits a text begins with; these; what follows them. -/
def nd (l : List UInt8) : Nat := l.findIdx fun c => !isD c
def digs (l : List UInt8) : List UInt8 := l.take (nd l)
def rst (l : List UInt8) : List UInt8 := l.drop (nd l)

theorem nd_le (l : List UInt8) : nd l ≤ l.length := List.findIdx_le_length

theorem nd_lt (l : List UInt8) (k : Nat) (hk : k ≤ nd l) (hlt : k < l.length) : k < nd l ↔ isD l[k] = true := by
  constructor
  · intro h
    have := List.not_of_lt_findIdx h
    simpa using this
  · intro h
    rcases Nat.lt_or_ge k (nd l) with h1 | h1
    · exact h1
    · exfalso
      have e : nd l = k := Nat.le_antisymm h1 hk
      have hl : List.findIdx (fun c => !isD c) l < l.length := by show nd l < _; omega
      have h2 := List.findIdx_getElem (p := fun c => !isD c) (w := hl)
      have e' : List.findIdx (fun c => !isD c) l = k := e
      simp only [e'] at h2
      rw [h] at h2
      cases h2

theorem digs_length (l : List UInt8) : (digs l).length = nd l := by
  unfold digs; rw [List.length_take]; have := nd_le l; omega

theorem pre_eq (l : List UInt8) (k : Nat) : (⟨l.toArray⟩ : ByteArray).extract 0 k = ⟨(l.take k).toArray⟩ := by
  rw [Lib.extract_eq]; simp

theorem suf_eq (l : List UInt8) (k : Nat) : (⟨l.toArray⟩ : ByteArray).extract k l.length = ⟨(l.drop k).toArray⟩ := by
  rw [Lib.extract_eq]
  simp only [ByteArray.mk.injEq]
  rw [List.take_of_length_le (by simp)]

theorem head_eq (l : List UInt8) (c : UInt8) (h : 1 ≤ l.length) : (((⟨l.toArray⟩ : ByteArray).extract 0 1).toList == [c]) = decide (l.head? = some c) := by
  obtain ⟨x, r, rfl⟩ : ∃ x r, l = x :: r := by
    cases l with
    | nil => simp at h
    | cons x r => exact ⟨x, r, rfl⟩
  rw [Lib.extract_toList]
  show (([x] : List UInt8) == [c]) = _
  by_cases hc : x = c <;> simp [hc]

set_option maxHeartbeats 400000 in
theorem hasLite_any (l : List UInt8) (c : UInt8) (w : World) (hlen : l.length ≤ 281474976710656) :
    Calls Tryz.prog 128 #[.string ⟨l.toArray⟩, .string ⟨#[c]⟩] w fun e w' => e = .returned (.bool (decide (l.head? = some c))) ∧ w' = w := by
  by_cases h0 : 1 ≤ l.length
  · have H : Hid ((((⟨l.toArray⟩ : ByteArray).extract 0 1).toList == [c]) = decide (l.head? = some c)) := head_eq l c h0
    go_enter Tryz.func128, Tryz.ntmps128
    go_wp2
    go_ret
    rw [H.out]
    exact ⟨rfl, rfl⟩
  · obtain rfl : l = [] := List.eq_nil_of_length_eq_zero (by omega)
    go_enter Tryz.func128, Tryz.ntmps128
    go_wp2
    go_ret
    exact ⟨by simp, rfl⟩

set_option maxHeartbeats 400000 in
theorem has_any (l : List UInt8) (c : UInt8) (w : World) (hlen : l.length ≤ 281474976710656) :
    Calls Tryz.prog 126 #[.string ⟨l.toArray⟩, .string ⟨#[c]⟩] w fun e w' => e = .returned (.bool (decide (l.head? = some c))) ∧ w' = w := by
  go_enter Tryz.func126, Tryz.ntmps126
  go_wp2_with fail
  refine (hasLite_any l c w hlen).mono ?_
  rintro e w' ⟨rfl, rfl⟩
  go_wp2
  go_ret
  exact ⟨rfl, rfl⟩

set_option maxHeartbeats 400000 in
theorem cutDigits_any (l : List UInt8) (w : World) (hlen : l.length ≤ 281474976710656) :
    Calls Tryz.prog 117 #[.string ⟨l.toArray⟩] w fun e w' => e = .returned (.tuple #[.string ⟨(digs l).toArray⟩, .string ⟨(rst l).toArray⟩]) ∧ ∃ q, w' = w.drewN q := by
  have Hp : Hid (∀ k, (⟨l.toArray⟩ : ByteArray).extract 0 k = ⟨(l.take k).toArray⟩) := pre_eq l
  have Hs : Hid (∀ k, (⟨l.toArray⟩ : ByteArray).extract k l.length = ⟨(l.drop k).toArray⟩) := suf_eq l
  go_enter Tryz.func117, Tryz.ntmps117
  go_wp2
  go_loop [4] (fun s => ∃ k : Nat, k ≤ l.length ∧ s = .int .i64 k ∧ k ≤ nd l) (fun s => l.length - (intOf s).toNat)
  case atStart => exact ⟨0, Nat.zero_le _, rfl, Nat.zero_le _⟩
  case round =>
    obtain ⟨k, hk, rfl, hkf⟩ := hrel
    by_cases hlt : k < l.length
    · have Hk : Hid (k < nd l ↔ isD l[k] = true) := nd_lt l k hkf hlt
      obtain ⟨c, hc⟩ : ∃ c, l[k] = c := ⟨_, rfl⟩
      have gx : (⟨l.toArray⟩ : ByteArray)[k]'(by show k < l.toArray.size; simpa using hlt) = c := hc
      rw [hc] at Hk
      clear hc
      by_cases hD : isD c = true
      · have hk1 : k < nd l := Hk.out.2 hD
        have h1 : 48 ≤ c.toNat := by unfold isD at hD; simp at hD; exact hD.1
        have h2 : c.toNat ≤ 57 := by unfold isD at hD; simp at hD; exact hD.2
        clear hD Hk
        go_wp2
        go_round
        case rel => exact ⟨k + 1, by omega, by go_num, by omega⟩
        case measure => simp [intOf]; omega
      · have hk1 : ¬ k < nd l := fun h => hD (Hk.out.1 h)
        have e : nd l = k := by omega
        have He : Hid (nd l = k) := e
        clear e hk1 hkf Hk
        by_cases h1 : 48 ≤ c.toNat
        · have h2 : ¬ c.toNat ≤ 57 := by intro h; exact hD (by unfold isD; simp; omega)
          clear hD
          go_wp2
          go_quiet (fail)
          go_wp2
          go_ret2
          rw [Hp.out, Hs.out]
          unfold digs rst
          rw [He.out]
          exact ⟨rfl, _, rfl⟩
        · clear hD
          go_wp2
          go_quiet (fail)
          go_wp2
          go_ret2
          rw [Hp.out, Hs.out]
          unfold digs rst
          rw [He.out]
          exact ⟨rfl, _, rfl⟩
    · have hle := nd_le l
      have e : nd l = k := by omega
      have He : Hid (nd l = k) := e
      clear e hle hkf
      go_wp2
      go_quiet (fail)
      go_wp2
      go_ret2
      rw [Hp.out, Hs.out]
      unfold digs rst
      rw [He.out]
      exact ⟨rfl, _, rfl⟩

end Go.Proofs.YtcdcfgkgighmhaaGreatDoor.Dec