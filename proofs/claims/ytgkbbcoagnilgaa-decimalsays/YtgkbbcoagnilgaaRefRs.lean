import Derived.Test.YtgkbbcoagnilgaaRefRd
import Derived.Test.YtgkbbcoagnilgaaRefSz
namespace Go.Proofs.Ytgkbbcoagnilgaa
open Go.RowKit

theorem rdD_of_owns {w : World} {base n cap : Nat} {ao : Option Addr} {xs : List UInt8} (h : w.ownsRow base 3 1 (.slice ao n cap) n (xs.map DV)) : RdD w ao xs := by
  rcases Nat.eq_zero_or_pos n with h0 | h0
  · left
    have := h.1
    rw [List.length_map, h0] at this
    exact List.eq_nil_of_length_eq_zero (by omega)
  · obtain ⟨b, e, _, hb, hc⟩ := owns_some h h0
    refine .inr ⟨b, e, hb, fun j c hj => ?_⟩
    exact hc j (DV c) (by rw [List.getElem?_map, hj]; rfl)

end Go.Proofs.Ytgkbbcoagnilgaa
