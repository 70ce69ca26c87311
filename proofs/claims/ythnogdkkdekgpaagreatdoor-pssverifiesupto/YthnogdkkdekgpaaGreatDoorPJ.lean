import Derived.Test.YthnogdkkdekgpaaGreatDoorPI
import Derived.Test.YthnogdkkdekgpaaGreatDoorShZ8
import Derived.Deep.RegionHeldLaw
namespace Go.Proofs.YthnogdkkdekgpaaGreatDoor
open Go.RowKit

/-- What lucky answers. -/
def luckyV (h : Int) (d em : List UInt8) (bits : Int) : Bool := decide (2 * Sha.siz h + 2 ≤ em.length ∧ pcode h d.length (Sha.siz h) bits = 0 ∧ encF h d (saltF h em) bits.toNat = em)
theorem lucky_holds (h : Int) (d em : List UInt8) (bits : Int) : luckyV h d em bits = holdsV h d em bits := by
  unfold luckyV holdsV
  apply decide_eq_decide.2
  constructor
  · rintro ⟨h1, h2, h3⟩
    refine ⟨h2, ?_, h3⟩
    obtain ⟨k1, _, _, _, k5⟩ := pcode_ok h2
    have hs := isHB_pos k1
    have hl := saltF_length h em hs (by omega)
    have := encF_length h d (saltF h em) bits.toNat hs (by rw [hl]; exact k5)
    rw [h3] at this
    exact this
  · rintro ⟨h1, h2, h3⟩
    obtain ⟨_, _, _, _, k5⟩ := pcode_ok h1
    exact ⟨by omega, h1, h3⟩
theorem xorL_get (a b : List UInt8) (k : Nat) (h : k < (xorL a b).length) (h1 : k < a.length) (h2 : k < b.length) : (xorL a b)[k] = a[k] ^^^ b[k] := List.getElem_zipWith (f := fun x y => x ^^^ y) (i := k) (h := h)
theorem OBb.drewP {B0 : Nat} {w ws : World} {v : Value} {l : List UInt8} (h : OBb B0 w ws v l) (q : Nat) : OBb B0 w (ws.drewN q) v l := ⟨h.own, below_drewN h.bel q⟩

end Go.Proofs.YthnogdkkdekgpaaGreatDoor
