import Derived.Test.YtcdcfgkgighmhaaGreatDoorGc
import Derived.Test.YtcdcfgkgighmhaaGreatDoorSn
import Derived.Test.YtcdcfgkgighmhaaGreatDoorTZ
namespace Go.Proofs.YtcdcfgkgighmhaaGreatDoor
open Go.RowKit
set_option maxRecDepth 100000

/-- A key set without keys. -/
def noneT : List UInt8 := [123, 34, 107, 101, 121, 115, 34, 58, 91, 93, 125]
def keysT : List UInt8 := [107, 101, 121, 115]
theorem none_ok : (parseF noneT).2 = (0, 0) := by decide +kernel
theorem none_len : (parseF noneT).1.length = 2 := by decide +kernel
theorem none_mem : memF (parseF noneT).1 0 keysT = 1 := by decide +kernel
theorem none_kids : kidsF (parseF noneT).1 1 = [] := by decide +kernel
theorem none_kind : ((parseF noneT).1.getD 1 (nd0 0)).kind = 6 := by decide +kernel

set_option maxHeartbeats 2000000 in
theorem ksParse_none (w : World) (hG : GL w.heap.size w) :
    Calls Tryz.prog 9 #[.string ⟨#[123, 34, 107, 101, 121, 115, 34, 58, 91, 93, 125]⟩] w fun e w' => e = .returned (.tuple #[.slice none 0 0, .int .i64 0]) ∧ Below w.heap.size w w' := by
  have PC := parse_any noneT w hG (by decide)
  have hl := none_len
  have hm := none_mem
  have hk := none_kids
  have hd := none_kind
  rw [none_ok] at PC
  generalize (parseF noneT).1 = l at PC hl hm hk hd
  have q1 : decide (((11 : Nat) : Int) > 262144) = false := by decide
  clear hG
  go_enter Tryz.func9, Tryz.ntmps9
  go_wp2_with fail
  refine PC.mono ?_
  rintro e w1 ⟨hb', v, rfl, hn⟩
  have hb1 : Hid (Below w.heap.size w w1) := hb'
  obtain ⟨ao, cap, hnr⟩ := hn.nr
  have hN1 : Hid (NR w1 v l ao cap) := hnr
  clear hb' hn hnr PC
  have hv := hN1.out.val
  rw [hl] at hv
  subst hv
  have MC := member_any (.slice ao 2 cap) l ao cap 0 keysT w1 hN1.out (by omega)
  rw [hm] at MC
  go_wp2_with fail
  refine MC.mono ?_
  rintro e w2 ⟨rfl, hb'⟩
  have hN2 : Hid (NR w2 (.slice ao 2 cap) l ao cap) := hN1.out.below hb' (Nat.le_refl _)
  have hb2 : Hid (Below w.heap.size w w2) := hb1.out.trans (hb'.mono hb1.out.size)
  clear hb' hN1 hb1 MC
  have KC := kids_any (.slice ao 2 cap) l ao cap 1 w2 hN2.out (by omega)
  rw [hk] at KC
  obtain ⟨g, off, rfl, hc⟩ := hN2.out.at (i := 1) (by omega)
  have c0 := hc 0 (.int .i64 6) (by omega) (by show some (Value.int .i64 (l.getD 1 (nd0 0)).kind) = _; rw [hd])
  rw [Nat.add_zero] at c0
  clear hc hm hk hd hl
  go_wp2_with fail
  refine KC.mono ?_
  rintro e w3 ⟨r, rfl, hO⟩
  obtain ⟨a, c, rfl, _, _⟩ := hO.at
  have hb3 : Hid (Below w.heap.size w w3) := hb2.out.trans (hO.bel.mono hb2.out.size)
  clear hO KC
  go_wp2_with fail
  refine wp_loop_rounds 1 ?_
  rw [rounds_succ]
  go_wp2_with fail
  go_ret2
  exact ⟨rfl, hb3.out⟩

end Go.Proofs.YtcdcfgkgighmhaaGreatDoor
