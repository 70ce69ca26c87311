import Derived.Test.YtkfchdmlemcjhaaDoorVE
import Derived.Test.YtkfchdmlemcjhaaDoorUZ
namespace Go.Proofs.YtkfchdmlemcjhaaDoor
open Go.RowKit Go.Shelf

theorem GL.up {B B' : Nat} {w : World} (h : GL B w) (hb : B ≤ B') : GL B' w := ⟨Nat.le_trans h.hi hb, h.u8, h.er⟩

def aliveT : List UInt8 := [32, 123, 34, 97, 34, 58, 91, 49, 44, 34, 92, 117, 48, 48, 101, 57, 34, 93, 125, 32]
def aliveV : List Nd := [⟨7, [], [], false, 0, 1⟩, ⟨6, [97], [], false, 0, 2⟩, ⟨4, [], [49], true, 1, 0⟩, ⟨5, [], [195, 169], false, 0, 0⟩]
end Go.Proofs.YtkfchdmlemcjhaaDoor

namespace Go.Proofs.YtkfchdmlemcjhaaDoor
open Go.RowKit Go.Shelf

/-- How long what is read may be. -/
def BD (m : Nat) (s : JS) : Prop := (∀ n ∈ s.nodes, n.text.length ≤ m ∧ n.key.length ≤ m) ∧ s.key.length ≤ m
/-- What the law asks at a place. -/
structure At (v : List Nd) (i : Nat) : Prop where
  ch : Ch v (i + 1) (kidsF v (i : Int)) (bhN v i)
  ln : ((kidsF v (i : Int)).length : Int) = (v.getD i (nd0 0)).kids
  me : (v.getD i (nd0 0)).kind = 7 → ∀ j, j < (kidsF v (i : Int)).length → memF v (i : Int) (v.getD ((kidsF v (i : Int)).getD j 0) (nd0 0)).key = ((kidsF v (i : Int)).getD j 0 : Nat)
  no : (v.getD i (nd0 0)).kind ≠ 7 → memF v (i : Int) [] = -1
  sh : shapedF ({ v.getD i (nd0 0) with key := [] } :: (v.drop (i + 1)).take (bhN v i - (i + 1))) = true

theorem mem_first (v : List Nd) : ∀ (L : List Nat), (L.map (fun i => (v.getD i (nd0 0)).key)).Nodup → ∀ j, j < L.length → memL v (v.getD (L.getD j 0) (nd0 0)).key L = (L.getD j 0 : Nat)
  | [], _, j, hj => by simp at hj
  | k :: r, hn, j, hj => by
    rw [List.map_cons, List.nodup_cons] at hn
    unfold memL
    cases j with
    | zero => rw [List.getD_cons_zero, if_pos rfl]
    | succ j =>
      rw [List.getD_cons_succ]
      have hj2 : j < r.length := by simpa using hj
      rw [if_neg]
      · exact mem_first v r hn.2 j hj2
      · intro e
        refine hn.1 (List.mem_map.2 ⟨r.getD j 0, ?_, e.symm⟩)
        rw [List.getD_eq_getElem?_getD, List.getElem?_eq_getElem hj2]
        exact List.getElem_mem hj2

end Go.Proofs.YtkfchdmlemcjhaaDoor
