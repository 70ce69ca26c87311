import Derived.Test.YtjncpibhnpoghaaKp3
import Derived.Test.YtjncpibhnpoghaaStd
namespace Go.Proofs.Ytjncpibhnpoghaa
open Go.RowKit

/-- All stands but what the elements own. -/
structure Fr (xs : List X) (w w' : World) : Prop where
  os : w'.os = w.os
  tape : w'.tape = w.tape
  output : w'.output = w.output
  size : w.heap.size ≤ w'.heap.size
  block : ∀ k, k < w.heap.size → (∀ x ∈ xs, (xD x).ownBlock ≠ some k) → w'.heap[k]? = w.heap[k]?

theorem Fr.refl (xs : List X) (w : World) : Fr xs w w := ⟨rfl, rfl, rfl, Nat.le_refl _, fun _ _ _ => rfl⟩
theorem Fr.drewN {xs : List X} {w w' : World} (h : Fr xs w w') (q : Nat) : Fr xs w (w'.drewN q) := ⟨h.os, h.tape, h.output, h.size, h.block⟩
theorem Fr.set {xs : List X} {w w' : World} {g : Nat} {x : X} (h : Fr xs w w') (hx : x ∈ xs) (hg : (xD x).ownBlock = some g) (k : Nat) (v : Value) : Fr xs w (w'.setCell ⟨g, k, none⟩ v) :=
  ⟨h.os, h.tape, h.output, Nat.le_trans h.size (Below.setCell (Below.refl 0 w') (Nat.zero_le _) v).size, fun j hj hne => by
    rw [heap_setCell_other w' _ j _ (fun e => hne x hx (by rw [hg]; exact congrArg some e.symm))]
    exact h.block j hj hne⟩
theorem Lst.drewN {base : Nat} {w : World} {v : Value} {xs : List X} (h : Lst base w v xs) (q : Nat) : Lst base (w.drewN q) v xs := ⟨h.own, h.dat, h.sep, h.num⟩

/-- So far: i elements are written full, of the next one k bytes. -/
def half (p : Int) (xs : List X) (i k : Nat) : List X := fulls p 0 (xs.take i) ++ (match xs.drop i with | [] => [] | x :: r => xFul x k (mkV i p) :: r)

theorem half_zero (p : Int) (xs : List X) (i : Nat) : half p xs i 0 = fulls p 0 (xs.take i) ++ xs.drop i := by
  unfold half
  cases xs.drop i with
  | nil => rfl
  | cons x r => simp only [xFul_zero]

theorem half_at (p : Int) (xs : List X) (i k : Nat) (hi : i < xs.length) : half p xs i k = fulls p 0 (xs.take i) ++ xFul xs[i] k (mkV i p) :: xs.drop (i + 1) := by
  unfold half
  rw [List.drop_eq_getElem_cons hi]

theorem half_next (p : Int) (xs : List X) (i : Nat) (hi : i < xs.length) : half p xs i xs[i].e.data.length = half p xs (i + 1) 0 := by
  rw [half_at p xs i _ hi, half_zero, List.take_succ_eq_append_getElem hi, fulls_append, List.append_assoc]
  congr 1
  rw [List.length_take, Nat.min_eq_left (by omega), Nat.zero_add]
  rfl

theorem half_all (p : Int) (xs : List X) : half p xs xs.length 0 = fulls p 0 xs := by
  rw [half_zero, List.take_length, List.drop_length, List.append_nil]

end Go.Proofs.Ytjncpibhnpoghaa
