import Derived.Test.YtkfchdmlemcjhaaTZ
namespace Go.Proofs.Ytkfchdmlemcjhaa
open Go.RowKit Go.Shelf

end Go.Proofs.Ytkfchdmlemcjhaa

namespace Go.Proofs.Ytkfchdmlemcjhaa
open Go.RowKit Go.Shelf

def zV (i : Int) : Value := .int .i64 i
/-- A list of numbers of one's own. -/
structure OZ (B : Nat) (w0 w : World) (v : Value) (l : List Int) : Prop where
  own : w.ownsRow B 3 1 v l.length (l.map zV)
  bel : Below B w0 w
theorem OZ.drewN {B : Nat} {w0 w : World} {v : Value} {l : List Int} (h : OZ B w0 w v l) (n : Nat) : OZ B w0 (w.drewN n) v l := ⟨h.own, below_drewN h.bel n⟩
def lenV : Value → Nat
  | .slice _ n _ => n
  | _ => 0

/-- A copy of nodes. -/
theorem nCs_oneC (l : List Nd) : ∀ u ∈ nCs l, u.oneCell' = true := by
  intro u hu
  unfold nCs at hu
  obtain ⟨n, _, hn⟩ := List.mem_flatMap.1 hu
  simp [nC] at hn
  rcases hn with rfl | rfl | rfl | rfl | rfl | rfl <;> rfl

end Go.Proofs.Ytkfchdmlemcjhaa

namespace Go.Proofs.Ytkfchdmlemcjhaa
open Go.RowKit Go.Shelf

end Go.Proofs.Ytkfchdmlemcjhaa
