import Derived.Test.YtgkbbcoagnilgaaLimb2
namespace Go.Proofs.Ytgkbbcoagnilgaa
open Go.RowKit

set_option maxHeartbeats 400000 in
theorem whole_fx (b : Nat) (w : World) (_hb : b < w.heap.size) :
    Calls Try.prog 11 #[.pointer (some ⟨b, 0, none⟩)] w fun e w' => e = .returned (.slice (some ⟨b, 5, none⟩) 5 5) ∧ w' = w := by
  go_enter Try.func11, Try.ntmps11
  go_wp2
  go_ret
  exact ⟨rfl, rfl⟩

set_option maxHeartbeats 400000 in
theorem fraction_fx (b : Nat) (w : World) (_hb : b < w.heap.size) :
    Calls Try.prog 13 #[.pointer (some ⟨b, 0, none⟩)] w fun e w' => e = .returned (.slice (some ⟨b, 0, none⟩) 5 10) ∧ w' = w := by
  go_enter Try.func13, Try.ntmps13
  go_wp2
  go_ret
  exact ⟨rfl, rfl⟩

end Go.Proofs.Ytgkbbcoagnilgaa
