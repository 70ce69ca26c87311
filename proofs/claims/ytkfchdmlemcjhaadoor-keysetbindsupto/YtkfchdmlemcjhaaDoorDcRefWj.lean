import Derived.Test.YtkfchdmlemcjhaaDoorDcRefWh1
import Derived.Test.YtkfchdmlemcjhaaDoorDcRefRd
namespace Go.Proofs.YtkfchdmlemcjhaaDoor.Dec
open Go.RowKit

theorem rread_some {l : List UInt8} {m p : Bool} {g f d : List UInt8} (h : pcut l = some (m, g, f, p, d)) (w : World) (hlen : l.length ≤ 1099511627776) :
    Calls Tryd.prog 39 #[.string ⟨l.toArray⟩] w fun e w' => ∃ a1 c1 a2 c2, e = .returned (.tuple #[.agg #[.bool m, .slice a1 (tr (tl (g ++ f))).length c1, .int .i64 (aheadN g f), .bool p, .slice a2 (tl d).length c2, .bool (f.isEmpty && d.isEmpty), .string ⟨g.toArray⟩], .bool true]) ∧
      Below w.heap.size w w' := by
  refine (rread_any l w hlen).mono ?_
  rintro e w' ⟨h1 | ⟨m', g', f', p', d', s1, s2, h1, rfl, o1, o2⟩, hB⟩
  · rw [h] at h1; cases h1.1
  · rw [h] at h1
    cases h1
    obtain ⟨a1, c1, rfl, _, _⟩ := owns_shape o1
    obtain ⟨a2, c2, rfl, _, _⟩ := owns_shape o2
    exact ⟨a1, c1, a2, c2, rfl, hB⟩

theorem rread_none {l : List UInt8} (h : pcut l = none) (w : World) (hlen : l.length ≤ 1099511627776) :
    Calls Tryd.prog 39 #[.string ⟨l.toArray⟩] w fun e w' => ∃ (m : Bool) (a1 : Option Addr) (n1 c1 : Nat) (o : Int) (p : Bool) (a2 : Option Addr) (n2 c2 : Nat) (pl : Bool) (t : ByteArray), e = .returned (.tuple #[.agg #[.bool m, .slice a1 n1 c1, .int .i64 o, .bool p, .slice a2 n2 c2, .bool pl, .string t], .bool false]) ∧ Below w.heap.size w w' := by
  refine (rread_any l w hlen).mono ?_
  rintro e w' ⟨⟨_, m, a1, n1, c1, o, p, a2, n2, c2, pl, t, rfl⟩ | ⟨m', g', f', p', d', s1, s2, h1, _⟩, hB⟩
  · exact ⟨m, a1, n1, c1, o, p, a2, n2, c2, pl, t, rfl, hB⟩
  · rw [h] at h1; cases h1

/-- Whatever Read answers. -/
theorem rread_some_or (l : List UInt8) (w : World) (hlen : l.length ≤ 1099511627776) :
    Calls Tryd.prog 39 #[.string ⟨l.toArray⟩] w fun e w' => ∃ (m : Bool) (a1 : Option Addr) (n1 c1 : Nat) (o : Int) (p : Bool) (a2 : Option Addr) (n2 c2 : Nat) (pl : Bool) (t : ByteArray), e = .returned (.tuple #[.agg #[.bool m, .slice a1 n1 c1, .int .i64 o, .bool p, .slice a2 n2 c2, .bool pl, .string t], .bool (pcut l).isSome]) ∧ Below w.heap.size w w' := by
  rcases h : pcut l with _ | ⟨m, g, f, p, d⟩
  · exact rread_none h w hlen
  · refine (rread_some h w hlen).mono ?_
    rintro e w' ⟨a1, c1, a2, c2, rfl, hB⟩
    exact ⟨_, _, _, _, _, _, _, _, _, _, _, rfl, hB⟩

set_option maxHeartbeats 1000000 in
theorem rvalid_any (l : List UInt8) (w : World) (hlen : l.length ≤ 1099511627776) :
    Calls Tryd.prog 33 #[.string ⟨l.toArray⟩] w fun e w' => e = .returned (.bool (pcut l).isSome) ∧ Below w.heap.size w w' := by
  have Hc : Hid (∀ w, Calls Tryd.prog 39 #[.string ⟨l.toArray⟩] w fun e w' => ∃ (m : Bool) (a1 : Option Addr) (n1 c1 : Nat) (o : Int) (p : Bool) (a2 : Option Addr) (n2 c2 : Nat) (pl : Bool) (t : ByteArray), e = .returned (.tuple #[.agg #[.bool m, .slice a1 n1 c1, .int .i64 o, .bool p, .slice a2 n2 c2, .bool pl, .string t], .bool (pcut l).isSome]) ∧ Below w.heap.size w w') := fun w => rread_some_or l w hlen
  generalize (pcut l).isSome = b at Hc ⊢
  go_enter Tryd.func33, Tryd.ntmps33
  go_wp2_with fail
  refine (Hc.out _).mono ?_
  rintro e w2 ⟨m, a1, n1, c1, o, p, a2, n2, c2, pl, t, rfl, hB2⟩
  have h1 : w.heap.size ≤ w2.heap.size := hB2.size
  go_wp2
  go_ret
  refine ⟨rfl, ?_⟩
  (repeat' (first | with_reducible assumption | with_reducible exact Below.refl _ _ | with_reducible exact Nat.le_refl _ | with_reducible refine Below.setCell ?_ ?_ _ | with_reducible refine Below.alloc ?_ ?_ _ | with_reducible apply Below.drew | with_reducible apply below_drewN | omega | (simp; done) | (simp; omega)))

theorem rwhole_any (l : List UInt8) (w : World) (hlen : l.length ≤ 1099511627776) :
    Calls Tryd.prog 32 #[.string ⟨l.toArray⟩] w fun e w' => e = .returned (.tuple #[.int .i64 (wholeV (pcut l)).1, .bool (wholeV (pcut l)).2]) ∧ Below w.heap.size w w' := by
  rcases h : pcut l with _ | ⟨m, g, f, p, d⟩
  · refine rwhole_no l w false false rfl (fun w => ?_)
    refine (rread_none h w hlen).mono ?_
    rintro e w' ⟨m, a1, n1, c1, o, p, a2, n2, c2, pl, t, he, hB⟩
    exact ⟨m, a1, n1, c1, o, p, a2, n2, c2, pl, t, he, (fun h => by cases h), hB⟩
  · by_cases hpl : (f.isEmpty && d.isEmpty) = true
    · have e1 : wholeV (some (m, g, f, p, d)) = wholeG m g := if_pos hpl
      rw [e1]
      obtain ⟨_, _, _, hall⟩ := pcut_plain h hpl
      have hl := pcut_len h
      refine rwhole_yes l m p g (tr (tl (g ++ f))) (tl d) (aheadN g f) w hall (by omega) (fun w => ?_)
      refine (rread_some h w hlen).mono ?_
      rintro e w' ⟨a1, c1, a2, c2, he, hB⟩
      rw [hpl] at he
      exact ⟨a1, c1, a2, c2, he, hB⟩
    · have e1 : wholeV (some (m, g, f, p, d)) = (0, false) := if_neg hpl
      rw [e1]
      have hpf : (f.isEmpty && d.isEmpty) = false := by simpa using hpl
      refine rwhole_no l w true (f.isEmpty && d.isEmpty) (by rw [hpf]; rfl) (fun w => ?_)
      refine (rread_some h w hlen).mono ?_
      rintro e w' ⟨a1, c1, a2, c2, he, hB⟩
      exact ⟨_, _, _, _, _, _, _, _, _, _, _, he, (fun _ => rfl), hB⟩

end Go.Proofs.YtkfchdmlemcjhaaDoor.Dec