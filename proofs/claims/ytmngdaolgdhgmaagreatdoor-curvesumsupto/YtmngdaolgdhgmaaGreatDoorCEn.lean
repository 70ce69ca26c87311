import Derived.Test.YtmngdaolgdhgmaaGreatDoorCNg
import Derived.Test.YtmngdaolgdhgmaaGreatDoorCA
import Derived.Test.YtmngdaolgdhgmaaGreatDoorNtZ2
import Derived.Test.YtmngdaolgdhgmaaGreatDoorNtZ6
import Derived.Laws.ResultCell
namespace Go.Proofs.YtmngdaolgdhgmaaGreatDoor
open Go.RowKit

set_option maxRecDepth 100000

/-- Are they the coordinates of a point? -/
def decB (p b : Nat) (s : Int) (lx ly : List UInt8) : Bool := decide ((lx.length : Int) = s) && (decide ((ly.length : Int) = s) && onB p b (bv lx) (bv ly) false)
set_option maxHeartbeats 4000000 in
theorem size_v {c s : Int} {p b n gx gy : Nat} (hk : Kv c p b n gx gy s) (w : World) : Calls Tryz.prog 16 #[.int .i64 c] w fun e w' => e = .returned (.int .i64 s) ∧ Below w.heap.size w w' := by
  have hf0 : ∀ (a b c d e f g h : Value) (w : World), Sem.run Tryz.prog (Instr.field 57 (.agg #[a, b, c, d, e, f, g, h]) 0) w = .ok (.agg #[a, b]) w := fun _ _ _ _ _ _ _ _ _ => rfl
  have hf1 : ∀ (a b c d e f g h : Value) (w : World), Sem.run Tryz.prog (Instr.field 57 (.agg #[a, b, c, d, e, f, g, h]) 1) w = .ok c w := fun _ _ _ _ _ _ _ _ _ => rfl
  go_enter Tryz.func16, Tryz.ntmps16
  go_wp2_with fail
  refine (of_kv hk _).mono ?_
  rintro e w1 ⟨g, rfl, ⟨pv, bv, nv, xv, yv, rfl, m1, m2, m3, m4, m5, ma⟩, hB⟩
  have HX : Hid (Below _ _ _) := hB
  obtain ⟨p0, p1, p2, rfl⟩ := m1.nk.sl
  obtain ⟨b0, b1, b2, rfl⟩ := m2.nk.sl
  obtain ⟨n0, n1, n2, rfl⟩ := m3.nk.sl
  obtain ⟨gx0, gx1, gx2, rfl⟩ := m4.nk.sl
  obtain ⟨gy0, gy1, gy2, rfl⟩ := m5.nk.sl
  clear m1 m2 m3 m4 m5 ma hB
  go_wp2
  go_ret
  exact ⟨rfl, HX.out⟩
set_option maxHeartbeats 4000000 in
theorem size_none (c : Int) (h1 : c ≠ 1) (h2 : c ≠ 2) (w : World) : Calls Tryz.prog 16 #[.int .i64 c] w fun e w' => e = .returned (.int .i64 0) ∧ Below w.heap.size w w' := by
  have hf0 : ∀ (a b c d e f g h : Value) (w : World), Sem.run Tryz.prog (Instr.field 57 (.agg #[a, b, c, d, e, f, g, h]) 0) w = .ok (.agg #[a, b]) w := fun _ _ _ _ _ _ _ _ _ => rfl
  have hf1 : ∀ (a b c d e f g h : Value) (w : World), Sem.run Tryz.prog (Instr.field 57 (.agg #[a, b, c, d, e, f, g, h]) 1) w = .ok c w := fun _ _ _ _ _ _ _ _ _ => rfl
  go_enter Tryz.func16, Tryz.ntmps16
  go_wp2_with fail
  refine (of_none c _ h1 h2).mono ?_
  rintro e w1 ⟨rfl, hB⟩
  have HX : Hid (Below _ _ _) := hB
  clear hB
  go_wp2
  go_ret
  exact ⟨rfl, HX.out⟩
end Go.Proofs.YtmngdaolgdhgmaaGreatDoor
