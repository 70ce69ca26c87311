import Derived.Test.YtgkbbcoagnilgaaDoorRefWh
import Derived.Test.YtgkbbcoagnilgaaDoorWh
namespace Go.Proofs.YtgkbbcoagnilgaaDoor
open Go.RowKit

set_option maxHeartbeats 1000000 in
theorem reads_law (l : List UInt8) (w : World) (hlen : l.length ≤ 1048576) (t1 t2 : TypeId) (p1 p2 : Value) (h1 : w.var? Tryd.prog "strconv.ErrSyntax" = some #[.iface t1 p1]) (h2 : w.var? Tryd.prog "strconv.ErrRange" = some #[.iface t2 p2]) :
    Calls Tryd.prog 3 #[.string ⟨l.toArray⟩] w fun e w' => e = .returned (.bool true) ∧ Below w.heap.size w w' := by
  have H1 : Hid (∀ _ : Unit, Calls Tryd.prog 8 #[.string ⟨l.toArray⟩] w fun e w' => e = .returned (.tuple #[.int .i64 (wholeV (pcut l)).1, .bool (wholeV (pcut l)).2]) ∧ Below w.heap.size w w') := fun _ => whole_any l w (by omega) t1 t2 p1 p2 h1 h2
  have H2 : Hid (∀ w, Calls Tryd.prog 9 #[.string ⟨l.toArray⟩] w fun e w' => e = .returned (.tuple #[.int .i64 (wholeV (pcut l)).1, .bool (wholeV (pcut l)).2]) ∧ Below w.heap.size w w') := fun w => rwhole_any l w (by omega)
  have H3 : Hid (∀ w, Calls Tryd.prog 10 #[.string ⟨l.toArray⟩] w fun e w' => e = .returned (.bool (pcut l).isSome) ∧ Below w.heap.size w w') := fun w => valid_any l w (by omega)
  have H4 : Hid (∀ w, Calls Tryd.prog 11 #[.string ⟨l.toArray⟩] w fun e w' => e = .returned (.bool (pcut l).isSome) ∧ Below w.heap.size w w') := fun w => rvalid_any l w (by omega)
  generalize (wholeV (pcut l)).1 = a at H1 H2
  generalize (wholeV (pcut l)).2 = b at H1 H2
  generalize (pcut l).isSome = c at H3 H4
  have q1 : (a == a) = true := by simp
  have q2 : (b == b) = true := by simp
  have q3 : (c == c) = true := by simp
  clear h1 h2
  go_enter Tryd.func3, Tryd.ntmps3
  go_wp2_with fail
  refine (H1.out ()).mono ?_
  rintro e w2 ⟨rfl, hB2⟩
  go_wp2_with fail
  refine (H2.out _).mono ?_
  rintro e w3 ⟨rfl, hB3⟩
  go_wp2_with fail
  refine (H3.out _).mono ?_
  rintro e w4 ⟨rfl, hB4⟩
  go_wp2_with fail
  refine (H4.out _).mono ?_
  rintro e w5 ⟨rfl, hB5⟩
  go_wp2
  go_ret
  have hB3' := Below.trans hB2 (Below.mono hB3 hB2.size)
  have hB4' := Below.trans hB3' (Below.mono hB4 hB3'.size)
  exact ⟨rfl, Below.trans hB4' (Below.mono hB5 hB4'.size)⟩

end Go.Proofs.YtgkbbcoagnilgaaDoor
