import Derived.Test.YtkfchdmlemcjhaaTZ
namespace Go.Proofs.Ytkfchdmlemcjhaa
open Go.RowKit Go.Shelf

end Go.Proofs.Ytkfchdmlemcjhaa

namespace Go.Proofs.Ytkfchdmlemcjhaa
open Go.RowKit Go.Shelf

/-- What the nodes' texts are bound by. -/
def TB (l : List Nd) : Prop := ∀ n ∈ l, n.text.length ≤ 1073741824 ∧ n.key.length ≤ 1073741824
theorem TB.at {l : List Nd} (h : TB l) {i : Nat} (hi : i < l.length) : (l.getD i (nd0 0)).text.length ≤ 1073741824 ∧ (l.getD i (nd0 0)).key.length ≤ 1073741824 := by
  refine h _ ?_
  rw [List.getD_eq_getElem?_getD, List.getElem?_eq_getElem hi]
  exact List.getElem_mem hi

end Go.Proofs.Ytkfchdmlemcjhaa

namespace Go.Proofs.Ytkfchdmlemcjhaa
open Go.RowKit Go.Shelf

end Go.Proofs.Ytkfchdmlemcjhaa

namespace Go.Proofs.Ytkfchdmlemcjhaa
open Go.RowKit Go.Shelf

end Go.Proofs.Ytkfchdmlemcjhaa
