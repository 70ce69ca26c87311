import Derived.Test.YtmngdaolgdhgmaaGreatDoorNtZ5
namespace Go.Proofs.YtmngdaolgdhgmaaGreatDoor
open Go.RowKit

set_option maxHeartbeats 400000 in
theorem s7_rlimb_any (ao : Option Addr) (n c k : Nat) (xs : List Nat) (w : World) (hx : Rn w ao xs) (sx : Sm Bs xs) (hn : n = xs.length) :
    Calls Tryz.prog 130 #[.slice ao n c, .int .i64 (k : Int)] w fun e w' => e = .returned (.int .u64 ((xs.getD k 0 : Nat) : Int)) ∧ w' = w := by
  have Hn : Hid (n = xs.length) := hn
  clear hn
  by_cases h2 : k < n
  · obtain ⟨g, off, rfl, _, hcell⟩ := hx.cell (by have := Hn.out; omega)
    have gc := hcell k (by have := Hn.out; omega)
    have hb : xs.getD k 0 < 4294967296 := by rw [← Bs_eq]; exact sx.getD Bs_pos k
    generalize xs.getD k 0 = x at gc hb ⊢
    clear hcell sx
    go_enter Tryz.func130, Tryz.ntmps130
    go_wp2
    go_ret
    exact ⟨rfl, rfl⟩
  · rw [getD_none _ _ (by have := Hn.out; omega)]
    go_enter Tryz.func130, Tryz.ntmps130
    go_wp2
    go_ret
    exact ⟨rfl, rfl⟩


end Go.Proofs.YtmngdaolgdhgmaaGreatDoor
