import Derived.Test.YtcankapgjgonnaaDoorTZ
namespace Go.Proofs.YtcankapgjgonnaaDoor
open Go.RowKit Go.Shelf

end Go.Proofs.YtcankapgjgonnaaDoor

namespace Go.Proofs.YtcankapgjgonnaaDoor
open Go.RowKit Go.Shelf

/-- What the nodes' texts are bound by. -/
def TB (l : List Nd) : Prop := ∀ n ∈ l, n.text.length ≤ 1073741824 ∧ n.key.length ≤ 1073741824
theorem TB.at {l : List Nd} (h : TB l) {i : Nat} (hi : i < l.length) : (l.getD i (nd0 0)).text.length ≤ 1073741824 ∧ (l.getD i (nd0 0)).key.length ≤ 1073741824 := by
  refine h _ ?_
  rw [List.getD_eq_getElem?_getD, List.getElem?_eq_getElem hi]
  exact List.getElem_mem hi

end Go.Proofs.YtcankapgjgonnaaDoor

namespace Go.Proofs.YtcankapgjgonnaaDoor
open Go.RowKit Go.Shelf

/-- What the reading of a shape answers, so deep at most. -/
def ShC (B : Nat) (l : List Nd) (ao : Option Addr) (cap mb f : Nat) : Prop := ∀ (w : World) (i : Nat) (around d : Int) (met : List (Nat × List UInt8)), NR w (.slice ao l.length cap) l ao cap → Mp w mb met → GL B w → B ≤ w.heap.size → i ≤ l.length → (around = -1 ∨ (0 ≤ around ∧ around < l.length)) → d + f = 33 → 0 ≤ d →
    Calls Tryd.prog 25 #[.agg #[.slice ao l.length cap, .map (some mb)], .int .i64 (i : Int), .int .i64 around, .int .i64 d] w fun e w' => But w w' mb ∧
      (∀ j m, svF l f i around d met = some (j, m) → e = .returned (.int .i64 (j : Nat)) ∧ Mp w' mb m) ∧ (svF l f i around d met = none → e = .returned (.int .i64 (-1)))

end Go.Proofs.YtcankapgjgonnaaDoor

namespace Go.Proofs.YtcankapgjgonnaaDoor
open Go.RowKit Go.Shelf

end Go.Proofs.YtcankapgjgonnaaDoor
