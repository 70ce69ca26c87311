import Derived.Test.YtgkbbcoagnilgaaComp3
namespace Go.Proofs.Ytgkbbcoagnilgaa
open Go.RowKit

theorem oof_bd (x : PartsM) (L : Nat) (h : x.2.1.length + x.2.2.1.length ≤ L) : -(L : Int) ≤ oof x ∧ oof x ≤ L := by
  have h1 := tl_len (x.2.1 ++ x.2.2.1)
  rw [List.length_append] at h1
  unfold oof
  rw [List.length_append]
  omega

end Go.Proofs.Ytgkbbcoagnilgaa
