import Derived.Test.YtefpjjonmoofpaaDoorLent
namespace Go.Proofs.YtefpjjonmoofpaaDoor
open Go.RowKit

set_option maxHeartbeats 1000000 in
theorem still_true (B0 g cap c : Nat) (ao : Option Addr) (l : List UInt8) (w : World) (hL : Ln w B0 g cap l) (hr : Rd w ao l) (hl : l.length ≤ 100000000) :
    Calls Tryd.prog 16 #[.slice (some ⟨g, 0, none⟩) l.length cap, .slice ao l.length c] w fun e w' => e = .returned (.bool true) ∧ ∃ q, w' = w.drewN q := by
  have HL : Hid (Ln w B0 g cap l) := hL
  have HR : Hid (Rd w ao l) := hr
  obtain ⟨_, _, hc1, hc2, _⟩ := hL.parts
  have hne : ((l.length : Int) != (l.length : Int)) = false := by simp
  clear hL hr
  unfold maxLen at hc2
  go_enter Tryd.func16, Tryd.ntmps16
  go_wp2
  go_loopw [6] (fun s wr => ∃ k q : Nat, s = .int .i64 (k : Int) ∧ k ≤ l.length + 40 ∧ wr = w.drewN q) (fun s _ => l.length + 40 - (intOf s).toNat)
  case atStart => exact ⟨0, 0, rfl, by omega, rfl⟩
  case round =>
    obtain ⟨k, q, rfl, hk, rfl⟩ := hrel
    by_cases hlt : k < l.length + 40
    · by_cases hkl : k < l.length
      · have g1 := HL.out.cell k hkl
        obtain ⟨b2, o2, e2, _, hcell⟩ := HR.out.resolve_left (fun e => by rw [e] at hkl; simp at hkl)
        subst e2
        have g2 := hcell k hkl
        unfold B at g2
        clear hcell
        generalize (l.getD k 0).toNat = x at *
        have d1 : ((x : Int) != (x : Int)) = false := by simp
        have d2 : decide ((k : Int) ≥ (l.length : Int)) = false := decide_eq_false (by omega)
        have d3 : decide ((k : Int) < (l.length : Int)) = true := decide_eq_true (by omega)
        have d4 : decide ((l.length : Int) ≤ (k : Int)) = false := decide_eq_false (by omega)
        have d5 : decide (k < l.length) = true := decide_eq_true hkl
        have d6 : decide (l.length ≤ k) = false := decide_eq_false (by omega)
        go_wp2
        go_quiet (fail)
        go_wp2
        go_roundw
        case rel => exact ⟨k + 1, _, by go_num, by omega, rfl⟩
        case measure => simp [intOf]; omega
      · have g1 := HL.out.mark k (by omega) hlt
        have d1 : decide ((k : Int) < (l.length : Int)) = false := decide_eq_false (by omega)
        have d2 : decide ((k : Int) ≥ (l.length : Int)) = true := decide_eq_true (by omega)
        have d4 : decide ((l.length : Int) ≤ (k : Int)) = true := decide_eq_true (by omega)
        have d5 : decide (k < l.length) = false := decide_eq_false hkl
        have d6 : decide (l.length ≤ k) = true := decide_eq_true (by omega)
        go_wp2
        go_quiet (fail)
        go_wp2
        go_roundw
        case rel => exact ⟨k + 1, _, by go_num, by omega, rfl⟩
        case measure => simp [intOf]; omega
    · go_wp2
      go_ret
      exact ⟨rfl, _, rfl⟩

end Go.Proofs.YtefpjjonmoofpaaDoor
