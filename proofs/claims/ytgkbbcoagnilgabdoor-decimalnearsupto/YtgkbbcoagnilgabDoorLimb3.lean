import Derived.Test.YtgkbbcoagnilgabDoorLimb2
namespace Go.Proofs.YtgkbbcoagnilgabDoor
open Go.RowKit

set_option maxHeartbeats 400000 in
theorem whole_fx (b : Nat) (w : World) (_hb : b < w.heap.size) :
    Calls Tryd.prog 57 #[.pointer (some ⟨b, 0, none⟩)] w fun e w' => e = .returned (.slice (some ⟨b, 5, none⟩) 5 5) ∧ w' = w := by
  go_enter Tryd.func57, Tryd.ntmps57
  go_wp2
  go_ret
  exact ⟨rfl, rfl⟩

set_option maxHeartbeats 400000 in
theorem fraction_fx (b : Nat) (w : World) (_hb : b < w.heap.size) :
    Calls Tryd.prog 59 #[.pointer (some ⟨b, 0, none⟩)] w fun e w' => e = .returned (.slice (some ⟨b, 0, none⟩) 5 10) ∧ w' = w := by
  go_enter Tryd.func59, Tryd.ntmps59
  go_wp2
  go_ret
  exact ⟨rfl, rfl⟩

end Go.Proofs.YtgkbbcoagnilgabDoor
