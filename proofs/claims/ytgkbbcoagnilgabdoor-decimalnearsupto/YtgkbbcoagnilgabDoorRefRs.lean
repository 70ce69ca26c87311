import Derived.Test.YtgkbbcoagnilgabDoorRefRd
import Derived.Test.YtgkbbcoagnilgabDoorRefSz
namespace Go.Proofs.YtgkbbcoagnilgabDoor
open Go.RowKit

theorem rdD_of_owns {w : World} {base n cap : Nat} {ao : Option Addr} {xs : List UInt8} (h : w.ownsRow base 3 1 (.slice ao n cap) n (xs.map DV)) : RdD w ao xs := by
  rcases Nat.eq_zero_or_pos n with h0 | h0
  · left
    have := h.1
    rw [List.length_map, h0] at this
    exact List.eq_nil_of_length_eq_zero (by omega)
  · obtain ⟨b, e, _, hb, hc⟩ := owns_some h h0
    refine .inr ⟨b, e, hb, fun j c hj => ?_⟩
    exact hc j (DV c) (by rw [List.getElem?_map, hj]; rfl)

theorem rread_some {l : List UInt8} {m p : Bool} {g f d : List UInt8} (h : pcut l = some (m, g, f, p, d)) (w : World) (hlen : l.length ≤ 1099511627776) :
    Calls Tryd.prog 23 #[.string ⟨l.toArray⟩] w fun e w' => ∃ a1 c1 a2 c2, e = .returned (.tuple #[.agg #[.bool m, .slice a1 (tr (tl (g ++ f))).length c1, .int .i64 (aheadN g f), .bool p, .slice a2 (tl d).length c2, .bool (f.isEmpty && d.isEmpty), .string ⟨g.toArray⟩], .bool true]) ∧
      RdD w' a1 (tr (tl (g ++ f))) ∧ RdD w' a2 (tl d) ∧ Below w.heap.size w w' := by
  refine (rread_any l w hlen).mono ?_
  rintro e w' ⟨h1 | ⟨m', g', f', p', d', s1, s2, h1, rfl, o1, o2⟩, hB⟩
  · rw [h] at h1; cases h1.1
  · rw [h] at h1
    cases h1
    obtain ⟨a1, c1, rfl, _, _⟩ := owns_shape o1
    obtain ⟨a2, c2, rfl, _, _⟩ := owns_shape o2
    exact ⟨a1, c1, a2, c2, rfl, rdD_of_owns o1, rdD_of_owns o2, hB⟩

theorem rread_none {l : List UInt8} (h : pcut l = none) (w : World) (hlen : l.length ≤ 1099511627776) :
    Calls Tryd.prog 23 #[.string ⟨l.toArray⟩] w fun e w' => ∃ (m : Bool) (a1 : Option Addr) (n1 c1 : Nat) (o : Int) (p : Bool) (a2 : Option Addr) (n2 c2 : Nat) (pl : Bool) (t : ByteArray), e = .returned (.tuple #[.agg #[.bool m, .slice a1 n1 c1, .int .i64 o, .bool p, .slice a2 n2 c2, .bool pl, .string t], .bool false]) ∧ Below w.heap.size w w' := by
  refine (rread_any l w hlen).mono ?_
  rintro e w' ⟨⟨_, m, a1, n1, c1, o, p, a2, n2, c2, pl, t, rfl⟩ | ⟨m', g', f', p', d', s1, s2, h1, _⟩, hB⟩
  · exact ⟨m, a1, n1, c1, o, p, a2, n2, c2, pl, t, rfl, hB⟩
  · rw [h] at h1; cases h1

/-- Whatever Read answers. -/
theorem rread_some_or (l : List UInt8) (w : World) (hlen : l.length ≤ 1099511627776) :
    Calls Tryd.prog 23 #[.string ⟨l.toArray⟩] w fun e w' => ∃ (m : Bool) (a1 : Option Addr) (n1 c1 : Nat) (o : Int) (p : Bool) (a2 : Option Addr) (n2 c2 : Nat) (pl : Bool) (t : ByteArray), e = .returned (.tuple #[.agg #[.bool m, .slice a1 n1 c1, .int .i64 o, .bool p, .slice a2 n2 c2, .bool pl, .string t], .bool (pcut l).isSome]) ∧ Below w.heap.size w w' := by
  rcases h : pcut l with _ | ⟨m, g, f, p, d⟩
  · exact rread_none h w hlen
  · refine (rread_some h w hlen).mono ?_
    rintro e w' ⟨a1, c1, a2, c2, rfl, _, _, hB⟩
    exact ⟨_, _, _, _, _, _, _, _, _, _, _, rfl, hB⟩

end Go.Proofs.YtgkbbcoagnilgabDoor
