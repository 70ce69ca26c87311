import Derived.Test.YtjehkpndchadbaaGreatDoorTZ
namespace Go.Proofs.YtjehkpndchadbaaGreatDoor
open Go.RowKit Go.Shelf

end Go.Proofs.YtjehkpndchadbaaGreatDoor

namespace Go.Proofs.YtjehkpndchadbaaGreatDoor
open Go.RowKit Go.Shelf

def zV (i : Int) : Value := .int .i64 i
/-- A list of numbers of one's own. -/
structure OZ (B : Nat) (w0 w : World) (v : Value) (l : List Int) : Prop where
  own : w.ownsRow B 3 1 v l.length (l.map zV)
  bel : Below B w0 w
theorem OZ.lift {B : Nat} {w0 w w' : World} {v : Value} {l : List Int} (h : OZ B w0 w v l) (hb : Below w.heap.size w w') (hB : B ≤ w0.heap.size) : OZ B w0 w' v l :=
  ⟨own_below h.own hb (Nat.le_refl _), h.bel.trans (hb.mono (Nat.le_trans hB h.bel.size))⟩
theorem OZ.drewN {B : Nat} {w0 w : World} {v : Value} {l : List Int} (h : OZ B w0 w v l) (n : Nat) : OZ B w0 (w.drewN n) v l := ⟨h.own, below_drewN h.bel n⟩
def lenV : Value → Nat
  | .slice _ n _ => n
  | _ => 0

/-- A copy of nodes. -/
theorem nCs_oneC (l : List Nd) : ∀ u ∈ nCs l, u.oneCell' = true := by
  intro u hu
  unfold nCs at hu
  obtain ⟨n, _, hn⟩ := List.mem_flatMap.1 hu
  simp [nC] at hn
  rcases hn with rfl | rfl | rfl | rfl | rfl | rfl <;> rfl

end Go.Proofs.YtjehkpndchadbaaGreatDoor

namespace Go.Proofs.YtjehkpndchadbaaGreatDoor
open Go.RowKit Go.Shelf

end Go.Proofs.YtjehkpndchadbaaGreatDoor
