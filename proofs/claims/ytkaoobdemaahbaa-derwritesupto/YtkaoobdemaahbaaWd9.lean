import Derived.Test.YtkaoobdemaahbaaWd8
import Derived.Test.YtkaoobdemaahbaaKp2
namespace Go.Proofs.Ytkaoobdemaahbaa
open Go.RowKit

/-- The elements behind a twin. -/
def fil (j : Nat) : List X := (List.range j).map fun i : Nat => ⟨⟨700 + (i : Int), [], 0⟩, none, 0⟩
theorem fil_zero : fil 0 = [] := rfl
theorem fil_succ (j : Nat) : fil (j + 1) = fil j ++ [⟨⟨700 + (j : Int), [], 0⟩, none, 0⟩] := by simp [fil, List.range_succ]
theorem fil_length (j : Nat) : (fil j).length = j := by simp [fil]
/-- A twin: the list's own row with j elements behind, and of each element its bytes with the marks behind. -/
structure Tm (base : Nat) (w : World) (v : Value) (ys : List X) (j : Nat) : Prop where
  own : w.ownsRow base 32 3 v (ys ++ fil j).length (xCs (ys ++ fil j))
  dat : ∀ y ∈ ys, w.ownsRow base 5 1 (.slice y.a (y.e.data.length + 90) y.c) (y.e.data.length + 90) ((y.e.data ++ mks 90).map B)
  sep : ys.Pairwise fun x y => ∀ g, (xD x).ownBlock = some g → (xD y).ownBlock ≠ some g
theorem Tm.nil (base : Nat) (w : World) : Tm base w (.slice none 0 0) [] 0 := ⟨World.ownsRow_nil _ _ _ _, (fun y hy => by cases hy), List.Pairwise.nil⟩
theorem Tm.below {base k : Nat} {w w' : World} {v : Value} {ys : List X} {j : Nat} (h : Tm base w v ys j) (hb : Below k w w') (hk : w.heap.size ≤ k) : Tm base w' v ys j :=
  ⟨own_below h.own hb hk, fun y hy => own_below (h.dat y hy) hb hk, h.sep⟩
theorem own_blk (y : X) (n : Nat) : (Value.slice y.a n y.c).ownBlock = (xD y).ownBlock := by
  unfold xD
  cases y.a <;> rfl
theorem Tm.dat_grown {base : Nat} {w w' : World} {v : Value} {ys : List X} {j : Nat} (h : Tm base w v ys j) (hg : w.grownBy w' v.ownBlock) : ∀ y ∈ ys, w'.ownsRow base 5 1 (.slice y.a (y.e.data.length + 90) y.c) (y.e.data.length + 90) ((y.e.data ++ mks 90).map B) := fun y hy => by
  have hd := h.dat y hy
  refine own_keep hd fun g hgy => ?_
  have a1 : v.ownBlock ≠ some g := kinds_apart hd h.own (by decide) hgy
  exact hg.block g (hd.lt g hgy).2 (fun e => a1 e.symm)
/-- One element more. -/
theorem Tm.push {base b1 : Nat} {w w' : World} {v v' : Value} {ys : List X} {x : X} (h : Tm base w v ys 0) (hb1 : ∀ y ∈ ys, ∀ g, (xD y).ownBlock = some g → g < b1) (hb2 : ∀ g, (xD x).ownBlock = some g → b1 ≤ g)
    (hx : w.ownsRow base 5 1 (.slice x.a (x.e.data.length + 90) x.c) (x.e.data.length + 90) ((x.e.data ++ mks 90).map B))
    (hg : w.grownBy w' v.ownBlock) (ho : w'.ownsRow base 32 3 v' (ys.length + 1) (xCs ys ++ xC x)) : Tm base w' v' (ys ++ [x]) 0 := by
  refine ⟨?_, ?_, ?_⟩
  · rw [fil_zero, List.append_nil, List.length_append, xCs_append]
    have e1 : xCs [x] = xC x := by simp [xCs]
    rw [e1]
    exact ho
  · intro y hy
    rcases List.mem_append.1 hy with hy | hy
    · exact h.dat_grown hg y hy
    · rw [List.mem_singleton.1 hy]
      refine own_keep hx fun g hgy => ?_
      have a1 : v.ownBlock ≠ some g := kinds_apart hx h.own (by decide) hgy
      exact hg.block g (hx.lt g hgy).2 (fun e => a1 e.symm)
  · rw [List.pairwise_append]
    refine ⟨h.sep, List.pairwise_singleton _ _, ?_⟩
    intro y hy z hz g hgy hgz
    rw [List.mem_singleton.1 hz] at hgz
    have a := hb1 y hy g hgy
    have b := hb2 g hgz
    omega
/-- One element more behind the list. -/
theorem Tm.fill {base : Nat} {w w' : World} {v v' : Value} {ys : List X} {j : Nat} (h : Tm base w v ys j) (hg : w.grownBy w' v.ownBlock)
    (ho : w'.ownsRow base 32 3 v' ((ys ++ fil j).length + 1) (xCs (ys ++ fil j) ++ xC ⟨⟨700 + (j : Int), [], 0⟩, none, 0⟩)) : Tm base w' v' ys (j + 1) := by
  refine ⟨?_, h.dat_grown hg, h.sep⟩
  have e : ys ++ fil (j + 1) = (ys ++ fil j) ++ [⟨⟨700 + (j : Int), [], 0⟩, none, 0⟩] := by rw [fil_succ, List.append_assoc]
  rw [e, List.length_append, xCs_append]
  have e1 : xCs [(⟨⟨700 + (j : Int), [], 0⟩, none, 0⟩ : X)] = xC ⟨⟨700 + (j : Int), [], 0⟩, none, 0⟩ := by simp [xCs]
  rw [e1]
  exact ho

end Go.Proofs.Ytkaoobdemaahbaa
