import Derived.Test.YtjehkpndchadbaaGreatDoorXZ
import Derived.Test.YtjehkpndchadbaaGreatDoorWc
import Derived.Deep.AppendLies
import Derived.Laws.AppendOwnNone
import Derived.Deep.MidRow
namespace Go.Proofs.YtjehkpndchadbaaGreatDoor
open Go.RowKit Go.Shelf

/-- Since a only two of its blocks have changed. -/
structure Ky (w0 a : World) (g1 g2 : Option Nat) (w : World) : Prop where
  bel : Below w0.heap.size w0 w
  size : a.heap.size ≤ w.heap.size
  blk : ∀ g, g < a.heap.size → some g ≠ g1 → some g ≠ g2 → w.heap[g]? = a.heap[g]?
theorem Ky.refl {w0 a : World} (g1 g2 : Option Nat) (h : Below w0.heap.size w0 a) : Ky w0 a g1 g2 a := ⟨h, Nat.le_refl _, fun _ _ _ _ => rfl⟩
theorem Ky.below {w0 a w w' : World} {g1 g2 : Option Nat} (h : Ky w0 a g1 g2 w) (hb : Below w.heap.size w w') : Ky w0 a g1 g2 w' :=
  ⟨h.bel.trans (hb.mono h.bel.size), Nat.le_trans h.size hb.size, fun g hg h1 h2 => (hb.block g (Nat.lt_of_lt_of_le hg h.size)).trans (h.blk g hg h1 h2)⟩
theorem Ky.drewN {w0 a w : World} {g1 g2 : Option Nat} (h : Ky w0 a g1 g2 w) (n : Nat) : Ky w0 a g1 g2 (w.drewN n) := ⟨below_drewN h.bel n, h.size, h.blk⟩
theorem Ky.grown {w0 a w w' : World} {g1 g2 row : Option Nat} (h : Ky w0 a g1 g2 w) (hg : w.grownBy w' row) (hr : ∀ k, row = some k → w0.heap.size ≤ k ∧ (some k = g1 ∨ some k = g2 ∨ a.heap.size ≤ k)) : Ky w0 a g1 g2 w' := by
  refine ⟨h.bel.grown hg h.bel.size (fun k hk => (hr k hk).1), Nat.le_trans h.size hg.size, fun g hga h1 h2 => ?_⟩
  rw [hg.block g (Nat.lt_of_lt_of_le hga h.size) (fun e => ?_)]
  · exact h.blk g hga h1 h2
  · rcases (hr g e.symm).2 with h3 | h3 | h3
    · exact h1 h3
    · exact h2 h3
    · omega

/-- Numbers that can be read. -/
structure IR (w : World) (v : Value) (l : List Int) (ao : Option Addr) (cap : Nat) : Prop where
  val : v = .slice ao l.length cap
  cap : l.length ≤ cap
  cell : l = [] ∨ ∃ g off : Nat, ao = some ⟨g, off, none⟩ ∧ g < w.heap.size ∧ ∀ j, j < l.length → w.cell? ⟨g, off + j, none⟩ = some (.int .i64 (l.getD j 0))
theorem IR.below {w w' : World} {v : Value} {l : List Int} {ao : Option Addr} {cap n : Nat} (h : IR w v l ao cap) (hb : Below n w w') (hn : w.heap.size ≤ n) : IR w' v l ao cap := by
  refine ⟨h.val, h.cap, ?_⟩
  rcases h.cell with h0 | ⟨g, off, e, hg, hc⟩
  · exact .inl h0
  · exact .inr ⟨g, off, e, Nat.lt_of_lt_of_le hg hb.size, fun j hj => cell_but (hc j hj) fun _ => hb.block g (by omega)⟩
theorem IR.drewN {w : World} {v : Value} {l : List Int} {ao : Option Addr} {cap : Nat} (h : IR w v l ao cap) (n : Nat) : IR (w.drewN n) v l ao cap := ⟨h.val, h.cap, h.cell⟩
theorem IR.at {w : World} {v : Value} {l : List Int} {ao : Option Addr} {cap : Nat} (h : IR w v l ao cap) {i : Nat} (hi : i < l.length) : ∃ g off : Nat, ao = some ⟨g, off, none⟩ ∧ w.cell? ⟨g, off + i, none⟩ = some (.int .i64 (l.getD i 0)) := by
  rcases h.cell with h0 | ⟨g, off, e, _, hc⟩
  · subst h0; simp at hi
  · exact ⟨g, off, e, hc i hi⟩
/-- A list of numbers of one's own: where it lies. -/
def Own1 (B : Nat) (w : World) (v : Value) (l : List Int) : Prop := w.ownsRow B 3 1 v l.length (l.map zV)
/-- A row of one's own, several cells set. -/
def setL (xs : List Value) : Nat → List Value → List Value
  | _, [] => xs
  | o, c :: cs => setL (xs.set o c) (o + 1) cs
theorem own_setCells {base n size g cap : Nat} {e : TypeId} : ∀ (cs xs : List Value) (o : Nat) (w : World), w.ownsRow base e size (.slice (some ⟨g, 0, none⟩) n cap) n xs → (w.setCells g o cs).ownsRow base e size (.slice (some ⟨g, 0, none⟩) n cap) n (setL xs o cs) ∧ w.grownBy (w.setCells g o cs) (some g)
  | [], xs, o, w, h => ⟨h, ⟨rfl, rfl, rfl, Nat.le_refl _, fun _ _ _ => rfl⟩⟩
  | c :: cs, xs, o, w, h => by
    have h1 := World.ownsRow.stored h o c
    have h2 := own_setCells cs (xs.set o c) (o + 1) _ h1.1
    refine ⟨h2.1, ⟨h2.2.os.trans h1.2.os, h2.2.tape.trans h1.2.tape, h2.2.output.trans h1.2.output, Nat.le_trans h1.2.size h2.2.size, fun k hk hne => ?_⟩⟩
    rw [← h1.2.block k hk hne]
    exact h2.2.block k (Nat.lt_of_lt_of_le hk h1.2.size) hne
theorem setL_app (A : List Value) : ∀ (cs ds R : List Value), ds.length = cs.length → setL (A ++ (ds ++ R)) A.length cs = A ++ (cs ++ R)
  | [], [], R, _ => rfl
  | [], _ :: _, _, h => by simp at h
  | _ :: _, [], _, h => by simp at h
  | c :: cs, d :: ds, R, h => by
    unfold setL
    have e : (A ++ (d :: ds ++ R)).set A.length c = (A ++ [c]) ++ (ds ++ R) := by
      rw [List.set_append_right _ _ (Nat.le_refl _), Nat.sub_self]
      simp
    rw [e]
    have := setL_app (A ++ [c]) cs ds R (by simpa using h)
    rw [List.length_append, List.length_singleton] at this
    rw [this]
    simp
theorem setL_node (P : List Nd) (n m : Nd) (R : List Nd) : setL (nCs (P ++ n :: R)) (P.length * 6) (nC m) = nCs (P ++ m :: R) := by
  have e1 : ∀ x : Nd, nCs (P ++ x :: R) = nCs P ++ (nC x ++ nCs R) := fun x => by rw [nCs_append]; rfl
  rw [e1, e1, ← nCs_length P]
  exact setL_app (nCs P) (nC m) (nC n) (nCs R) rfl
theorem own_there {w : World} {base n g cap : Nat} {e : TypeId} {size : Nat} {xs : List Value} (h : w.ownsRow base e size (.slice (some ⟨g, 0, none⟩) n cap) n xs) {o k : Nat} (hk : o + k ≤ xs.length) : w.there g o k := fun j hj => by
  have := own_cell h (o + j) (xs[o + j]'(by omega)) (by simp)
  exact ⟨by rw [this.1]; rfl, this.2⟩

end Go.Proofs.YtjehkpndchadbaaGreatDoor
