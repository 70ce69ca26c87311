import Derived.Test.YtlapkbdjipocoaaDoorVf
import Derived.Test.YtlapkbdjipocoaaDoorUf
namespace Go.Proofs.YtlapkbdjipocoaaDoor
open Go.RowKit Go.Shelf

theorem GL.up {B B' : Nat} {w : World} (h : GL B w) (hb : B ≤ B') : GL B' w := ⟨Nat.le_trans h.hi hb, h.u8, h.er⟩

def aliveT : List UInt8 := [32, 123, 34, 97, 34, 58, 91, 49, 44, 34, 92, 117, 48, 48, 101, 57, 34, 93, 125, 32]
def aliveV : List Nd := [⟨7, [], [], false, 0, 1⟩, ⟨6, [97], [], false, 0, 2⟩, ⟨4, [], [49], true, 1, 0⟩, ⟨5, [], [195, 169], false, 0, 0⟩]
set_option maxRecDepth 100000 in
theorem alive_parse : parseF aliveT = (aliveV, 0, 0) := by decide +kernel
set_option maxRecDepth 100000 in
theorem alive_print : printF aliveV = ([123, 34, 97, 34, 58, 91, 49, 44, 34, 195, 169, 34, 93, 125], 0) := by decide +kernel
set_option maxRecDepth 100000 in
theorem alive_mem : memF aliveV 0 [97] = 1 := by decide +kernel

set_option maxRecDepth 100000 in
set_option maxHeartbeats 4000000 in
theorem alive_any (w : World) (hG : GL w.heap.size w) : Calls Tryd.prog 26 #[] w fun e w' => e = .returned (.bool true) ∧ Below w.heap.size w w' := by
  have C0 := parse_any aliveT w hG (by decide)
  rw [alive_parse] at C0
  have HP : Hid (∀ (wq : World) (v : Value) (ao : Option Addr) (cap : Nat), NR wq v aliveV ao cap → GL wq.heap.size wq → Calls Tryd.prog 24 #[v] wq fun e w' => e = .returned (.tuple #[.string ⟨([123, 34, 97, 34, 58, 91, 49, 44, 34, 195, 169, 34, 93, 125] : List UInt8).toArray⟩, .int .i64 0]) ∧ Below wq.heap.size wq w') := fun wq v ao cap h hg => by
    have := print_any v aliveV ao cap wq h hg (by unfold TB aliveV; decide) (by decide)
    rw [alive_print] at this
    exact this
  have HM : Hid (∀ (wq : World) (v : Value) (ao : Option Addr) (cap : Nat), NR wq v aliveV ao cap → Calls Tryd.prog 12 #[v, .int .i64 0, .string { data := #[97] }] wq fun e w' => e = .returned (.int .i64 1) ∧ Below wq.heap.size wq w') := fun wq v ao cap h => by
    have := member_any v aliveV ao cap 0 [97] wq h (by decide)
    rw [alive_mem] at this
    exact this
  have HG : Hid (GL w.heap.size w) := hG
  clear hG
  go_enter Tryd.func26, Tryd.ntmps26
  go_wp2_with fail
  refine C0.mono ?_
  clear C0
  rintro e w1 ⟨hB1, v, rfl, hO⟩
  obtain ⟨ao, cap, hN⟩ := hO.nr
  obtain ⟨rfl, hcap, _⟩ := id hN
  have hcap4 : 4 ≤ cap := hcap
  have hG1 : GL w1.heap.size w1 := (HG.out.below hB1).up hB1.size
  have C1 := HP.out w1 _ ao cap hN hG1
  have HN : Hid (NR w1 (.slice ao aliveV.length cap) aliveV ao cap) := hN
  have HB1 : Hid (Below w.heap.size w w1) := hB1
  have hlen : aliveV.length = 4 := rfl
  clear hO hN hB1 hG1 hcap HP HG
  rw [hlen] at C1 ⊢
  go_wp2_with fail
  refine C1.mono ?_
  clear C1
  rintro e w2 ⟨rfl, hB2⟩
  have hN2 := HN.out.below hB2 (Nat.le_refl _)
  obtain ⟨g, off, rfl, hc1⟩ := hN2.at (i := 1) (by decide)
  obtain ⟨g', off', e', hc2⟩ := hN2.at (i := 2) (by decide)
  cases e'
  obtain ⟨g', off', e', hc3⟩ := hN2.at (i := 3) (by decide)
  cases e'
  have k1 : w2.cell? ⟨g, off + 6 + 1, none⟩ = some (.string { data := #[97] }) := hc1 1 _ (by decide) rfl
  have k2 : w2.cell? ⟨g, off + 12 + 4, none⟩ = some (.int .i64 1) := hc2 4 _ (by decide) rfl
  have k3 : w2.cell? ⟨g, off + 18 + 2, none⟩ = some (.string { data := #[195, 169] }) := hc3 2 _ (by decide) rfl
  have C2 := HM.out w2 _ _ cap hN2
  rw [hlen] at C2
  have HB2 : Hid (Below w.heap.size w w2) := HB1.out.trans (hB2.mono HB1.out.size)
  clear hN2 hB2 hc1 hc2 hc3 HN HB1 HM
  go_wp2_with fail
  refine C2.mono ?_
  clear C2
  rintro e w3 ⟨rfl, hB3⟩
  go_wp2
  go_ret
  exact ⟨rfl, HB2.out.trans (hB3.mono HB2.out.size)⟩

end Go.Proofs.YtlapkbdjipocoaaDoor
