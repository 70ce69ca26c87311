import Derived.Test.YtgkbbcoagnilgaaDoorRefWh1
import Derived.Test.YtgkbbcoagnilgaaDoorRefCm
namespace Go.Proofs.YtgkbbcoagnilgaaDoor
open Go.RowKit

set_option maxHeartbeats 1000000 in
theorem rvalid_any (l : List UInt8) (w : World) (hlen : l.length ≤ 1099511627776) :
    Calls Tryd.prog 11 #[.string ⟨l.toArray⟩] w fun e w' => e = .returned (.bool (pcut l).isSome) ∧ Below w.heap.size w w' := by
  have Hc : Hid (∀ w, Calls Tryd.prog 21 #[.string ⟨l.toArray⟩] w fun e w' => ∃ (m : Bool) (a1 : Option Addr) (n1 c1 : Nat) (o : Int) (p : Bool) (a2 : Option Addr) (n2 c2 : Nat) (pl : Bool) (t : ByteArray), e = .returned (.tuple #[.agg #[.bool m, .slice a1 n1 c1, .int .i64 o, .bool p, .slice a2 n2 c2, .bool pl, .string t], .bool (pcut l).isSome]) ∧ Below w.heap.size w w') := fun w => rread_some_or l w hlen
  generalize (pcut l).isSome = b at Hc ⊢
  go_enter Tryd.func11, Tryd.ntmps11
  go_wp2_with fail
  refine (Hc.out _).mono ?_
  rintro e w2 ⟨m, a1, n1, c1, o, p, a2, n2, c2, pl, t, rfl, hB2⟩
  have h1 : w.heap.size ≤ w2.heap.size := hB2.size
  go_wp2
  go_ret
  refine ⟨rfl, ?_⟩
  (repeat' (first | with_reducible assumption | with_reducible exact Below.refl _ _ | with_reducible exact Nat.le_refl _ | with_reducible refine Below.setCell ?_ ?_ _ | with_reducible refine Below.alloc ?_ ?_ _ | with_reducible apply Below.drew | with_reducible apply below_drewN | omega | (simp; done) | (simp; omega)))

theorem rwhole_any (l : List UInt8) (w : World) (hlen : l.length ≤ 1099511627776) :
    Calls Tryd.prog 9 #[.string ⟨l.toArray⟩] w fun e w' => e = .returned (.tuple #[.int .i64 (wholeV (pcut l)).1, .bool (wholeV (pcut l)).2]) ∧ Below w.heap.size w w' := by
  rcases h : pcut l with _ | ⟨m, g, f, p, d⟩
  · refine rwhole_no l w false false rfl (fun w => ?_)
    refine (rread_none h w hlen).mono ?_
    rintro e w' ⟨m, a1, n1, c1, o, p, a2, n2, c2, pl, t, he, hB⟩
    exact ⟨m, a1, n1, c1, o, p, a2, n2, c2, pl, t, he, (fun h => by cases h), hB⟩
  · by_cases hpl : (f.isEmpty && d.isEmpty) = true
    · have e1 : wholeV (some (m, g, f, p, d)) = wholeG m g := if_pos hpl
      rw [e1]
      obtain ⟨_, _, _, hall⟩ := pcut_plain h hpl
      have hl := pcut_len h
      refine rwhole_yes l m p g (tr (tl (g ++ f))) (tl d) (aheadN g f) w hall (by omega) (fun w => ?_)
      refine (rread_some h w hlen).mono ?_
      rintro e w' ⟨a1, c1, a2, c2, he, _, _, hB⟩
      rw [hpl] at he
      exact ⟨a1, c1, a2, c2, he, hB⟩
    · have e1 : wholeV (some (m, g, f, p, d)) = (0, false) := if_neg hpl
      rw [e1]
      have hpf : (f.isEmpty && d.isEmpty) = false := by simpa using hpl
      refine rwhole_no l w true (f.isEmpty && d.isEmpty) (by rw [hpf]; rfl) (fun w => ?_)
      refine (rread_some h w hlen).mono ?_
      rintro e w' ⟨a1, c1, a2, c2, he, _, _, hB⟩
      exact ⟨_, _, _, _, _, _, _, _, _, _, _, he, (fun _ => rfl), hB⟩

end Go.Proofs.YtgkbbcoagnilgaaDoor
