import Derived.Test.YtccfcplhifbjlaaGreatDoorIe
import Derived.Test.YtccfcplhifbjlaaGreatDoorTk
namespace Go.Proofs.YtccfcplhifbjlaaGreatDoor
open Go.RowKit Go.Extern.Stop Go.Stop Go.Extern
set_option maxRecDepth 100000

/-- An error that wraps this code. -/
def Flt (w : World) (e : Ending) (c : Int) : Prop := ∃ b, e = .returned (.iface 217 (.pointer (some ⟨b, 0, none⟩))) ∧ w.cell? ⟨b, 1, none⟩ = some (.iface 23 (.int .i64 c))

theorem notKey_any (what : ByteArray) (w : World) : Calls Tryz.prog 139 #[.string what] w fun e w' => Flt w' e 90 ∧ Below w.heap.size w w' := by
  have hb := alloc_bl w [.string what, .iface 23 (.int .i64 90)] 219
  have hc := hb.cell 1 (by simp)
  go_enter Tryz.func139, Tryz.ntmps139
  go_wp2
  go_ret
  exact ⟨⟨w.heap.size, rfl, hc⟩, alloc_below w _⟩

theorem codeOf_90 (b : Nat) (w : World) (h1 : w.cell? ⟨b, 1, none⟩ = some (.iface 23 (.int .i64 90))) : Calls Tryz.prog 71 #[.iface 217 (.pointer (some ⟨b, 0, none⟩))] w fun e w' => e = .returned (.int .i64 90) ∧ w' = w := by
  have C1 := eIs_any b 90 10 w h1 (by decide)
  have C2 := eIs_any b 90 92 w h1 (by decide)
  have C3 := eIs_any b 90 80 w h1 (by decide)
  go_enter Tryz.func71, Tryz.ntmps71
  go_wp2_with fail
  refine C1.mono ?_
  rintro e w1 ⟨rfl, rfl⟩
  go_wp2_with fail
  refine C2.mono ?_
  rintro e w1 ⟨rfl, rfl⟩
  go_wp2_with fail
  refine C3.mono ?_
  rintro e w1 ⟨rfl, rfl⟩
  go_wp2
  go_ret
  exact ⟨rfl, rfl⟩

set_option maxHeartbeats 1000000 in
theorem rightOct_no (ao : Option Addr) (n c : Nat) (w : World) (h : n < 32 ∨ 4096 < n) : Calls Tryz.prog 135 #[kV ao n c] w fun e w' => Flt w' e 90 ∧ Below w.heap.size w w' := by
  have C1 := notKey_any
  unfold kV
  by_cases h1 : n < 32
  · have d1 : decide ((n : Int) < 32) = true := decide_eq_true (by omega)
    go_enter Tryz.func135, Tryz.ntmps135
    go_wp2_with fail
    refine (C1 _ _).mono ?_
    rintro e w1 ⟨⟨b, rfl, hc⟩, B1⟩
    have HC : Hid (w1.cell? ⟨b, 1, none⟩ = some (.iface 23 (.int .i64 90))) := hc
    have HB : Hid (Below w.heap.size w w1) := (alloc_below w _).trans (B1.mono (by rw [alloc_size]; omega))
    clear hc B1
    go_wp2
    go_ret
    exact ⟨⟨b, rfl, HC.out⟩, HB.out⟩
  · have d1 : decide ((n : Int) < 32) = false := decide_eq_false (by omega)
    have d2 : decide ((n : Int) > 4096) = true := decide_eq_true (by omega)
    go_enter Tryz.func135, Tryz.ntmps135
    go_wp2_with fail
    refine (C1 _ _).mono ?_
    rintro e w1 ⟨⟨b, rfl, hc⟩, B1⟩
    have HC : Hid (w1.cell? ⟨b, 1, none⟩ = some (.iface 23 (.int .i64 90))) := hc
    have HB : Hid (Below w.heap.size w w1) := (alloc_below w _).trans (B1.mono (by rw [alloc_size]; omega))
    clear hc B1
    go_wp2
    go_ret
    exact ⟨⟨b, rfl, HC.out⟩, HB.out⟩

set_option maxHeartbeats 1000000 in
theorem right_no (ao : Option Addr) (n c : Nat) (w : World) (h : n < 32 ∨ 4096 < n) : Calls Tryz.prog 72 #[kV ao n c] w fun e w' => Flt w' e 90 ∧ Below w.heap.size w w' := by
  have C1 : Hid (∀ w, Calls Tryz.prog 135 #[kV ao n c] w fun e w' => Flt w' e 90 ∧ Below w.heap.size w w') := fun w => rightOct_no ao n c w h
  unfold kV at *
  clear h
  go_enter Tryz.func72, Tryz.ntmps72
  go_wp2_with fail
  refine (C1.out _).mono ?_
  rintro e w1 ⟨⟨b, rfl, hc⟩, B1⟩
  have HC : Hid (w1.cell? ⟨b, 1, none⟩ = some (.iface 23 (.int .i64 90))) := hc
  have HB : Hid (Below w.heap.size w w1) := (alloc_below w _).trans (B1.mono (by rw [alloc_size]; omega))
  clear hc B1 C1
  go_wp2
  go_ret
  exact ⟨⟨b, rfl, HC.out⟩, HB.out⟩

set_option maxHeartbeats 1000000 in
theorem spcheck_no (ao : Option Addr) (n c : Nat) (w : World) (h : n < 32 ∨ 4096 < n) : Calls Tryz.prog 23 #[kV ao n c] w fun e w' => e = .returned (.int .i64 90) ∧ Below w.heap.size w w' := by
  have C1 : Hid (∀ w, Calls Tryz.prog 72 #[kV ao n c] w fun e w' => Flt w' e 90 ∧ Below w.heap.size w w') := fun w => right_no ao n c w h
  unfold kV at *
  clear h
  go_enter Tryz.func23, Tryz.ntmps23
  go_wp2_with fail
  refine (C1.out _).mono ?_
  rintro e w1 ⟨⟨b, rfl, hc⟩, B1⟩
  have C2 := codeOf_90 b w1 hc
  have HB : Hid (Below w.heap.size w w1) := (alloc_below w _).trans (B1.mono (by rw [alloc_size]; omega))
  clear hc B1 C1
  go_wp2_with fail
  refine C2.mono ?_
  rintro e w2 ⟨rfl, rfl⟩
  go_wp2
  go_ret
  exact ⟨rfl, HB.out⟩

end Go.Proofs.YtccfcplhifbjlaaGreatDoor
