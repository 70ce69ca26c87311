import Derived.Test.YtgkbbcoagnilgabDoorLayM
import Derived.Test.YtgkbbcoagnilgabDoorLimb3
import Derived.Laws.NewBlocks
namespace Go.Proofs.YtgkbbcoagnilgabDoor
open Go.RowKit

/-- The digit at a place, also where there is none. -/
def di (z : List UInt8) (i : Int) : Nat := if 0 ≤ i then dz z i.toNat else 0

theorem di_le (z : List UInt8) (hz : allD z) (i : Int) : di z i ≤ 9 := by
  unfold di
  split
  · exact dz_le z hz _
  · omega

set_option maxHeartbeats 400000 in
theorem digitAt_out (z : List UInt8) (bx : Nat) (i : Int) (w : World) (hc : w.cell? ⟨bx, 0, none⟩ = some (.string ⟨z.toArray⟩)) (hlen : z.length ≤ 1099511627776) (h : i < 0 ∨ (z.length : Int) ≤ i) :
    Calls Tryd.prog 69 #[.int .i64 i, .pointer (some ⟨bx, 0, none⟩)] w fun e w' => e = .returned (.int .u32 0) ∧ w' = w := by
  rcases h with h | h
  · go_enter Tryd.func69, Tryd.ntmps69
    go_wp2
    go_ret
    exact ⟨rfl, rfl⟩
  · have h1 : ¬ i < 0 := by omega
    go_enter Tryd.func69, Tryd.ntmps69
    go_wp2
    go_ret
    exact ⟨rfl, rfl⟩

set_option maxHeartbeats 400000 in
theorem digitAt_in (z : List UInt8) (bx j : Nat) (c : UInt8) (w : World) (hc : w.cell? ⟨bx, 0, none⟩ = some (.string ⟨z.toArray⟩)) (_hlen : z.length ≤ 1099511627776) (h : j < z.length) (hg : z[j] = c) (h1 : 48 ≤ c.toNat) (h2 : c.toNat ≤ 57) :
    Calls Tryd.prog 69 #[.int .i64 (j : Int), .pointer (some ⟨bx, 0, none⟩)] w fun e w' => e = .returned (.int .u32 ((c.toNat - 48 : Nat) : Int)) ∧ w' = w := by
  have gx : (ByteArray.mk z.toArray)[j]'(by show j < z.toArray.size; simpa using h) = c := by rw [← hg]; rfl
  have hw8 : IntKind.u8.wrap ((c.toNat : Int) - 48) = ((c.toNat - 48 : Nat) : Int) := by rw [IntKind.wrap_u8]; omega
  have hj0 : ¬ (j : Int) < 0 := by omega
  clear hg
  go_enter Tryd.func69, Tryd.ntmps69
  go_wp2
  go_ret
  refine ⟨?_, rfl⟩
  congr 2

theorem digitAt_any (z : List UInt8) (bx : Nat) (i : Int) (w : World) (hz : allD z) (hlen : z.length ≤ 1099511627776) (hc : w.cell? ⟨bx, 0, none⟩ = some (.string ⟨z.toArray⟩)) :
    Calls Tryd.prog 69 #[.int .i64 i, .pointer (some ⟨bx, 0, none⟩)] w fun e w' => e = .returned (.int .u32 (di z i : Int)) ∧ w' = w := by
  by_cases h : i < 0 ∨ (z.length : Int) ≤ i
  · have e : di z i = 0 := by
      unfold di dz
      rcases h with h | h
      · rw [if_neg (by omega)]
      · rw [if_pos (by omega), if_neg (by omega)]
    rw [e]
    exact digitAt_out z bx i w hc hlen h
  · obtain ⟨j, rfl⟩ : ∃ j : Nat, i = (j : Int) := ⟨i.toNat, by omega⟩
    have hj : j < z.length := by omega
    have hd := hz _ (List.getElem_mem hj)
    unfold isD at hd
    simp at hd
    have e : di z (j : Int) = z[j].toNat - 48 := by
      unfold di dz
      rw [if_pos (by omega), Int.toNat_natCast, if_pos hj, List.getD_eq_getElem?_getD, List.getElem?_eq_getElem hj, Option.getD_some]
    rw [e]
    exact digitAt_in z bx j z[j] w hc hlen hj rfl hd.1 hd.2

end Go.Proofs.YtgkbbcoagnilgabDoor
