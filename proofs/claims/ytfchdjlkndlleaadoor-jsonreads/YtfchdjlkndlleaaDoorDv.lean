import Derived.Test.YtfchdjlkndlleaaDoorDu
import Derived.Test.YtfchdjlkndlleaaDoorXZ
import Derived.Test.YtfchdjlkndlleaaDoorWZ
namespace Go.Proofs.YtfchdjlkndlleaaDoor
open Go.RowKit Go.Shelf

set_option maxRecDepth 100000 in
set_option maxHeartbeats 16000000 in
/-- The law, at any string. -/
theorem reads_any (t : List UInt8) (w : World) (hG : GL w.heap.size w) :
    Calls Tryd.prog 3 #[.string ⟨t.toArray⟩] w fun e w' => e = .returned (.bool true) ∧ Below w.heap.size w w' := by
  have C1 := parse_all t w hG
  have HR : Hid (∀ wq, Calls Tryd.prog 5 #[.string ⟨t.toArray⟩] wq fun e w' => Below wq.heap.size wq w' ∧ ∃ v, e = .returned (.tuple #[v, .int .i64 ((parseF t).2.1 : Int), .int .i64 ((parseF t).2.2 : Int)]) ∧ NO wq.heap.size w' v (parseF t).1) := fun wq => by
    rw [← dparse_eq t]
    exact rparse_any t wq
  have hbd := (parse_bd t).1
  generalize parseF t = pf at C1 HR hbd
  obtain ⟨X, c, p⟩ := pf
  simp only at C1 HR hbd
  have HXl : Hid (X.length ≤ 262144) := hbd
  clear hbd hG
  go_enter Tryd.func3, Tryd.ntmps3
  go_wp2_with fail
  refine C1.mono ?_
  clear C1
  rintro e w1 ⟨hB1, v1, rfl, hO1⟩
  obtain ⟨a1, c1, hN1⟩ := hO1.nr
  obtain ⟨rfl, hcap1, _⟩ := id hN1
  have HN1 : Hid (∀ wq, Below w1.heap.size w1 wq → NR wq (.slice a1 X.length c1) X a1 c1) := fun wq hq => hN1.below hq (Nat.le_refl _)
  have HB1 : Hid (Below w.heap.size w w1) := hB1
  have C2 := HR.out w1
  clear HR hO1 hN1 hB1
  go_wp2_with fail
  refine C2.mono ?_
  clear C2
  rintro e w2 ⟨hB2, v2, rfl, hO2⟩
  obtain ⟨a2, c2, hN2⟩ := hO2.nr
  obtain ⟨rfl, hcap2, _⟩ := id hN2
  have C3 := rsame_any _ _ X X a1 a2 c1 c2 w2 (HN1.out w2 hB2) hN2 (by have := HXl.out; omega)
  rw [decide_eq_true rfl] at C3
  have HB2 : Hid (Below w.heap.size w w2) := HB1.out.trans (hB2.mono HB1.out.size)
  clear hO2 hN2 hB2 HN1 HB1
  go_wp2_with fail
  refine C3.mono ?_
  clear C3
  rintro e w3 ⟨rfl, q3, rfl⟩
  go_wp2
  go_ret
  exact ⟨rfl, below_drewN HB2.out q3⟩

end Go.Proofs.YtfchdjlkndlleaaDoor
