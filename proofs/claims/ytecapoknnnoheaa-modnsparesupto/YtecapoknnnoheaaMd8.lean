import Derived.Test.YtecapoknnnoheaaMd6
import Derived.Test.YtecapoknnnoheaaMd6b
import Derived.Test.YtecapoknnnoheaaMd7
namespace Go.Proofs.Ytecapoknnnoheaa
open Go.RowKit

set_option maxHeartbeats 2000000 in
theorem begin_v (a m : Value) (A M : Nat) (w : World) (ha : Nu w a A) (hm : Nu w m M) (h0 : M ≠ 0) :
    Calls Try.prog 45 #[a, m] w fun e w' => ∃ m' l x, e = .returned (.agg #[m', l, x, m', .slice none 0 0]) ∧ Re w w' m' M ∧ Re w w' l (A % M) ∧ Re w w' x 1 := by
  have HA : Hid (Nu w a A) := ha
  have HB : Hid (Below w.heap.size w (w.alloc (.cells #[.slice none 0 0, .slice none 0 0, .slice none 0 0, .slice none 0 0, .slice none 0 0] 50))) := alloc_below _ _
  have HC : Hid (Bl 50 (w.alloc (.cells #[.slice none 0 0, .slice none 0 0, .slice none 0 0, .slice none 0 0, .slice none 0 0] 50)) w.heap.size [.slice none 0 0, .slice none 0 0, .slice none 0 0, .slice none 0 0, .slice none 0 0]) := alloc_bl _ _ _
  have C := proper_v m M _ (hm.below HB.out (Nat.le_refl _))
  clear ha hm
  go_enter Try.func45, Try.ntmps45
  go_wp2_with fail
  generalize w.alloc (.cells #[.slice none 0 0, .slice none 0 0, .slice none 0 0, .slice none 0 0, .slice none 0 0] 50) = w1 at *
  refine C.mono ?_
  clear C
  rintro e w2 ⟨m', rfl, hn⟩
  have HM : Hid (Re w1 w2 m' M) := hn
  clear hn
  have C := rest_v a m' A M w2 (((HA.out.below HB.out (Nat.le_refl _)).below HM.out.bel (Nat.le_refl _)).le (by decide)) HM.out.nu h0
  go_wp2_with fail
  refine C.mono ?_
  clear C
  rintro e w3 ⟨l, rfl, hn⟩
  have HM3 : Hid (Re w1 w3 m' M) := HM.out.keep hn.bel
  have HL3 : Hid (Re w1 w3 l (A % M)) := Re.later HM.out.bel hn
  clear hn HM HA
  go_wp2_with fail
  refine (one_v w3).mono ?_
  rintro e w4 ⟨p, rfl, hn⟩
  have HM4 : Hid (Re w1 w4 m' M) := HM3.out.keep hn.bel
  have HL4 : Hid (Re w1 w4 l (A % M)) := HL3.out.keep hn.bel
  have HP4 : Hid (Re w1 w4 p 1) := Re.later HM3.out.bel hn
  clear hn HM3 HL3
  obtain ⟨m0, m1, m2, rfl⟩ := HM4.out.nu.shape
  obtain ⟨l0, l1, l2, rfl⟩ := HL4.out.nu.shape
  obtain ⟨p0, p1, p2, rfl⟩ := HP4.out.nu.shape
  have HC4 : Hid (Bl 50 w4 w.heap.size [.slice none 0 0, .slice none 0 0, .slice none 0 0, .slice none 0 0, .slice none 0 0]) := HC.out.below HM4.out.bel HC.out.lt
  have g0 := HC4.out.cell 0 (by simp)
  have g1 := HC4.out.cell 1 (by simp)
  have g2 := HC4.out.cell 2 (by simp)
  have g3 := HC4.out.cell 3 (by simp)
  have g4 := HC4.out.cell 4 (by simp)
  have f0 := HC4.out.frozen 0
  have f1 := HC4.out.frozen 1
  have f2 := HC4.out.frozen 2
  have f3 := HC4.out.frozen 3
  have f4 := HC4.out.frozen 4
  simp only [List.getElem_cons_zero, List.getElem_cons_succ] at g0 g1 g2 g3 g4
  go_wp2
  have hc := ((((HC4.out.set 0 (.slice m0 m1 m2)).set 1 (.slice l0 l1 l2)).set 2 (.slice p0 p1 p2)).set 3 (.slice m0 m1 m2)).set 4 (.slice none 0 0)
  have hb4 : Below w.heap.size w (((((w4.setCell ⟨w.heap.size, 0, none⟩ (.slice m0 m1 m2)).setCell ⟨w.heap.size, 1, none⟩ (.slice l0 l1 l2)).setCell ⟨w.heap.size, 2, none⟩ (.slice p0 p1 p2)).setCell ⟨w.heap.size, 3, none⟩ (.slice m0 m1 m2)).setCell ⟨w.heap.size, 4, none⟩ (.slice none 0 0)) :=
    (HB.out.trans (HM4.out.bel.mono HB.out.size)).trans ((((((((But.refl w4 w.heap.size).set _ _).set _ _).set _ _).set _ _).set _ _)).below (Nat.le_of_lt HC4.out.lt) (Nat.le_refl _))
  have hbut : But w4 (((((w4.setCell ⟨w.heap.size, 0, none⟩ (.slice m0 m1 m2)).setCell ⟨w.heap.size, 1, none⟩ (.slice l0 l1 l2)).setCell ⟨w.heap.size, 2, none⟩ (.slice p0 p1 p2)).setCell ⟨w.heap.size, 3, none⟩ (.slice m0 m1 m2)).setCell ⟨w.heap.size, 4, none⟩ (.slice none 0 0)) w.heap.size := ((((((But.refl w4 w.heap.size).set _ _).set _ _).set _ _).set _ _).set _ _)
  have r1 := (Rw.of HM4.out HB.out.size HC.out.lt).but hbut
  have r2 := (Rw.of HL4.out HB.out.size HC.out.lt).but hbut
  have r3 := (Rw.of HP4.out HB.out.size HC.out.lt).but hbut
  (try simp only [Exit.inBlock, Exit.then])
  refine bodyPost_ret (results_cell_row rfl _ _ w.heap.size 50 _ (0, 0) _ rfl hc Try.underlying50 rfl (by kernel_rfl)) rfl ?_
  exact ⟨_, _, _, rfl, ⟨r1.1, r1.2.1, hb4⟩, ⟨r2.1, r2.2.1, hb4⟩, ⟨r3.1, r3.2.1, hb4⟩⟩

end Go.Proofs.Ytecapoknnnoheaa
