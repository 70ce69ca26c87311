import Derived.Test.YtkfchdmlemcjhaaVE
import Derived.Test.YtkfchdmlemcjhaaUZ
namespace Go.Proofs.Ytkfchdmlemcjhaa
open Go.RowKit Go.Shelf

def aliveT : List UInt8 := [32, 123, 34, 97, 34, 58, 91, 49, 44, 34, 92, 117, 48, 48, 101, 57, 34, 93, 125, 32]
def aliveV : List Nd := [⟨7, [], [], false, 0, 1⟩, ⟨6, [97], [], false, 0, 2⟩, ⟨4, [], [49], true, 1, 0⟩, ⟨5, [], [195, 169], false, 0, 0⟩]
end Go.Proofs.Ytkfchdmlemcjhaa

namespace Go.Proofs.Ytkfchdmlemcjhaa
open Go.RowKit Go.Shelf

/-- How long what is read may be. -/
def BD (m : Nat) (s : JS) : Prop := (∀ n ∈ s.nodes, n.text.length ≤ m ∧ n.key.length ≤ m) ∧ s.key.length ≤ m
/-- What the law asks at a place. -/
structure At (v : List Nd) (i : Nat) : Prop where
  ch : Ch v (i + 1) (kidsF v (i : Int)) (bhN v i)
  ln : ((kidsF v (i : Int)).length : Int) = (v.getD i (nd0 0)).kids
  me : (v.getD i (nd0 0)).kind = 7 → ∀ j, j < (kidsF v (i : Int)).length → memF v (i : Int) (v.getD ((kidsF v (i : Int)).getD j 0) (nd0 0)).key = ((kidsF v (i : Int)).getD j 0 : Nat)
  no : (v.getD i (nd0 0)).kind ≠ 7 → memF v (i : Int) [] = -1
  sh : shapedF ({ v.getD i (nd0 0) with key := [] } :: (v.drop (i + 1)).take (bhN v i - (i + 1))) = true

end Go.Proofs.Ytkfchdmlemcjhaa
