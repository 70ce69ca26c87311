import Derived.Test.YtkfchdmlemcjhaaRm
import Derived.Laws.StructEq
import Derived.Carry
import Derived.DeepKeys5
namespace Go.Proofs.Ytkfchdmlemcjhaa
open Go.RowKit Go.Shelf

/-- A node's cells; a list's. -/
def nC (n : Nd) : List Value := [.int .i64 n.kind, .string ⟨n.key.toArray⟩, .string ⟨n.text.toArray⟩, .bool n.whole, .int .i64 n.int, .int .i64 n.kids]
def nCs (l : List Nd) : List Value := l.flatMap nC
theorem nC_length (n : Nd) : (nC n).length = 6 := rfl
theorem nCs_length (l : List Nd) : (nCs l).length = l.length * 6 := by
  induction l with
  | nil => rfl
  | cons x r ih => unfold nCs at *; simp [List.flatMap_cons, nC, ih]; omega
theorem nCs_append (a b : List Nd) : nCs (a ++ b) = nCs a ++ nCs b := by simp [nCs]
theorem nCs_at (l : List Nd) (i j : Nat) (hi : i < l.length) (hj : j < 6) : (nCs l)[i * 6 + j]? = (nC (l.getD i (nd0 0)))[j]? := by
  induction l generalizing i with
  | nil => simp at hi
  | cons x r ih =>
    cases i with
    | zero =>
      show ((nC x) ++ nCs r)[0 * 6 + j]? = _
      rw [List.getElem?_append_left (by rw [nC_length]; omega)]
      simp
    | succ i =>
      show ((nC x) ++ nCs r)[(i + 1) * 6 + j]? = _
      rw [List.getElem?_append_right (by rw [nC_length]; omega), nC_length, show (i + 1) * 6 + j - 6 = i * 6 + j by omega, ih i (by simpa using hi)]
      simp
/-- The kids' cell of a node set anew. -/
theorem nCs_kids (l : List Nd) (i : Nat) (v : Int) (hi : i < l.length) : (nCs l).set (i * 6 + 5) (.int .i64 v) = nCs (l.modify i fun n => { n with kids := v }) := by
  induction l generalizing i with
  | nil => simp at hi
  | cons x r ih =>
    cases i with
    | zero => rfl
    | succ i =>
      show ((nC x) ++ nCs r).set ((i + 1) * 6 + 5) _ = _
      rw [List.set_append_right _ _ (by rw [nC_length]; omega), nC_length, show (i + 1) * 6 + 5 - 6 = i * 6 + 5 by omega, ih i (by simpa using hi)]
      rfl

theorem own_slice {w : World} {base n size : Nat} {e : TypeId} {v : Value} {xs : List Value} (h : w.ownsRow base e size v n xs) : ∃ a c, v = .slice a n c ∧ n ≤ c ∧ (0 < n → ∃ g, a = some ⟨g, 0, none⟩) := by
  rcases h.2 with ⟨hv, hn⟩ | ⟨g, cap, cur, hv, _, _, hc, _⟩
  · subst hn; exact ⟨none, 0, hv, Nat.le_refl _, fun h => by omega⟩
  · exact ⟨_, cap, hv, hc, fun _ => ⟨g, rfl⟩⟩
theorem own_cell {w : World} {base n size : Nat} {e : TypeId} {g c : Nat} {xs : List Value} (h : w.ownsRow base e size (.slice (some ⟨g, 0, none⟩) n c) n xs) (j : Nat) (u : Value) (hj : xs[j]? = some u) : w.cell? ⟨g, j, none⟩ = some u ∧ w.frozen? ⟨g, j, none⟩ = false := by
  rcases h.2 with ⟨hv, _⟩ | ⟨g', cap, cur, hv, _, hg, hc1, hc2, hs, ht⟩
  · cases hv
  · cases hv
    have hj2 : j < xs.length := (List.getElem?_eq_some_iff.1 hj).1
    refine ⟨?_, by unfold World.frozen?; simp [hg]⟩
    unfold World.cell?
    simp only [hg]
    rw [← ht, List.getElem?_take] at hj
    split at hj
    · simpa using hj
    · cases hj
/-- A map of names: how often each one has been met; those of the list once, others never. -/
def kyV (k : Nat × List UInt8) : Value := .agg #[.int .i64 (k.1 : Int), .string ⟨k.2.toArray⟩]
def Mp (w : World) (mb : Nat) (l : List (Nat × List UInt8)) : Prop :=
  ∃ es clk, w.heap[mb]? = some (.map es clk) ∧ es.toList.map (fun e => e.key) = l.map kyV ∧ (∀ e ∈ es.toList, e.val = .int .i64 1) ∧ (∀ e ∈ es.toList, e.born < clk) ∧ (es.toList.map (fun e => e.born)).Pairwise (· ≠ ·)

end Go.Proofs.Ytkfchdmlemcjhaa

namespace Go.Proofs.Ytkfchdmlemcjhaa
open Go.RowKit Go.Shelf

end Go.Proofs.Ytkfchdmlemcjhaa

namespace Go.Proofs.Ytkfchdmlemcjhaa
open Go.RowKit Go.Shelf

/-- The world with that map at the block. -/
def mW (w : World) (mb : Nat) (es : Array MapEntry) (clk : Nat) : World := { w with heap := w.heap.setIfInBounds mb (.map es clk) }
end Go.Proofs.Ytkfchdmlemcjhaa

namespace Go.Proofs.Ytkfchdmlemcjhaa
open Go.RowKit Go.Shelf

end Go.Proofs.Ytkfchdmlemcjhaa
