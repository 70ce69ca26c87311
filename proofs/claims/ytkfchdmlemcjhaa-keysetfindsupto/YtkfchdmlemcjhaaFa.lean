import Derived.Test.YtkfchdmlemcjhaaXZ
import Derived.Test.YtkfchdmlemcjhaaWc
import Derived.Deep.AppendLies
import Derived.Laws.AppendOwnNone
import Derived.Deep.MidRow
namespace Go.Proofs.Ytkfchdmlemcjhaa
open Go.RowKit Go.Shelf

/-- Since a only two of its blocks have changed. -/
structure Ky (w0 a : World) (g1 g2 : Option Nat) (w : World) : Prop where
  bel : Below w0.heap.size w0 w
  size : a.heap.size ≤ w.heap.size
  blk : ∀ g, g < a.heap.size → some g ≠ g1 → some g ≠ g2 → w.heap[g]? = a.heap[g]?
theorem Ky.refl {w0 a : World} (g1 g2 : Option Nat) (h : Below w0.heap.size w0 a) : Ky w0 a g1 g2 a := ⟨h, Nat.le_refl _, fun _ _ _ _ => rfl⟩
theorem Ky.below {w0 a w w' : World} {g1 g2 : Option Nat} (h : Ky w0 a g1 g2 w) (hb : Below w.heap.size w w') : Ky w0 a g1 g2 w' :=
  ⟨h.bel.trans (hb.mono h.bel.size), Nat.le_trans h.size hb.size, fun g hg h1 h2 => (hb.block g (Nat.lt_of_lt_of_le hg h.size)).trans (h.blk g hg h1 h2)⟩
theorem Ky.drewN {w0 a w : World} {g1 g2 : Option Nat} (h : Ky w0 a g1 g2 w) (n : Nat) : Ky w0 a g1 g2 (w.drewN n) := ⟨below_drewN h.bel n, h.size, h.blk⟩
theorem Ky.grown {w0 a w w' : World} {g1 g2 row : Option Nat} (h : Ky w0 a g1 g2 w) (hg : w.grownBy w' row) (hr : ∀ k, row = some k → w0.heap.size ≤ k ∧ (some k = g1 ∨ some k = g2 ∨ a.heap.size ≤ k)) : Ky w0 a g1 g2 w' := by
  refine ⟨h.bel.grown hg h.bel.size (fun k hk => (hr k hk).1), Nat.le_trans h.size hg.size, fun g hga h1 h2 => ?_⟩
  rw [hg.block g (Nat.lt_of_lt_of_le hga h.size) (fun e => ?_)]
  · exact h.blk g hga h1 h2
  · rcases (hr g e.symm).2 with h3 | h3 | h3
    · exact h1 h3
    · exact h2 h3
    · omega

/-- Numbers that can be read. -/
structure IR (w : World) (v : Value) (l : List Int) (ao : Option Addr) (cap : Nat) : Prop where
  val : v = .slice ao l.length cap
  cap : l.length ≤ cap
  cell : l = [] ∨ ∃ g off : Nat, ao = some ⟨g, off, none⟩ ∧ g < w.heap.size ∧ ∀ j, j < l.length → w.cell? ⟨g, off + j, none⟩ = some (.int .i64 (l.getD j 0))
theorem IR.below {w w' : World} {v : Value} {l : List Int} {ao : Option Addr} {cap n : Nat} (h : IR w v l ao cap) (hb : Below n w w') (hn : w.heap.size ≤ n) : IR w' v l ao cap := by
  refine ⟨h.val, h.cap, ?_⟩
  rcases h.cell with h0 | ⟨g, off, e, hg, hc⟩
  · exact .inl h0
  · exact .inr ⟨g, off, e, Nat.lt_of_lt_of_le hg hb.size, fun j hj => cell_but (hc j hj) fun _ => hb.block g (by omega)⟩
theorem IR.drewN {w : World} {v : Value} {l : List Int} {ao : Option Addr} {cap : Nat} (h : IR w v l ao cap) (n : Nat) : IR (w.drewN n) v l ao cap := ⟨h.val, h.cap, h.cell⟩
theorem IR.at {w : World} {v : Value} {l : List Int} {ao : Option Addr} {cap : Nat} (h : IR w v l ao cap) {i : Nat} (hi : i < l.length) : ∃ g off : Nat, ao = some ⟨g, off, none⟩ ∧ w.cell? ⟨g, off + i, none⟩ = some (.int .i64 (l.getD i 0)) := by
  rcases h.cell with h0 | ⟨g, off, e, _, hc⟩
  · subst h0; simp at hi
  · exact ⟨g, off, e, hc i hi⟩
/-- A list of numbers of one's own: where it lies. -/
def Own1 (B : Nat) (w : World) (v : Value) (l : List Int) : Prop := w.ownsRow B 3 1 v l.length (l.map zV)
/-- A row of one's own, several cells set. -/
def setL (xs : List Value) : Nat → List Value → List Value
  | _, [] => xs
  | o, c :: cs => setL (xs.set o c) (o + 1) cs
theorem own_setCells {base n size g cap : Nat} {e : TypeId} : ∀ (cs xs : List Value) (o : Nat) (w : World), w.ownsRow base e size (.slice (some ⟨g, 0, none⟩) n cap) n xs → (w.setCells g o cs).ownsRow base e size (.slice (some ⟨g, 0, none⟩) n cap) n (setL xs o cs) ∧ w.grownBy (w.setCells g o cs) (some g)
  | [], xs, o, w, h => ⟨h, ⟨rfl, rfl, rfl, Nat.le_refl _, fun _ _ _ => rfl⟩⟩
  | c :: cs, xs, o, w, h => by
    have h1 := World.ownsRow.stored h o c
    have h2 := own_setCells cs (xs.set o c) (o + 1) _ h1.1
    refine ⟨h2.1, ⟨h2.2.os.trans h1.2.os, h2.2.tape.trans h1.2.tape, h2.2.output.trans h1.2.output, Nat.le_trans h1.2.size h2.2.size, fun k hk hne => ?_⟩⟩
    rw [← h1.2.block k hk hne]
    exact h2.2.block k (Nat.lt_of_lt_of_le hk h1.2.size) hne
theorem setL_app (A : List Value) : ∀ (cs ds R : List Value), ds.length = cs.length → setL (A ++ (ds ++ R)) A.length cs = A ++ (cs ++ R)
  | [], [], R, _ => rfl
  | [], _ :: _, _, h => by simp at h
  | _ :: _, [], _, h => by simp at h
  | c :: cs, d :: ds, R, h => by
    unfold setL
    have e : (A ++ (d :: ds ++ R)).set A.length c = (A ++ [c]) ++ (ds ++ R) := by
      rw [List.set_append_right _ _ (Nat.le_refl _), Nat.sub_self]
      simp
    rw [e]
    have := setL_app (A ++ [c]) cs ds R (by simpa using h)
    rw [List.length_append, List.length_singleton] at this
    rw [this]
    simp
theorem own_there {w : World} {base n g cap : Nat} {e : TypeId} {size : Nat} {xs : List Value} (h : w.ownsRow base e size (.slice (some ⟨g, 0, none⟩) n cap) n xs) {o k : Nat} (hk : o + k ≤ xs.length) : w.there g o k := fun j hj => by
  have := own_cell h (o + j) (xs[o + j]'(by omega)) (by simp)
  exact ⟨by rw [this.1]; rfl, this.2⟩

theorem append_1 {wr : World} {ops : Array Oper} {rest : List Oper} {o : Oper} {a : Act} {Q : Exit → Act → World → Prop} (hgd : o.guard = none) (s x : Operand)
    (ho : o.op = .call { callee := .builtin .append, args := #[s, x], argTypes := #[38, 38] })
    (B : Nat) (v : Value) (l : List Int) (y : Int) (hs : a.eval s = v) (h : Own1 B wr v l) (bn : Nat) (hbn : bn = wr.heap.size) (hx : a.eval x = .slice (some ⟨bn, 0, none⟩) 1 1) (hl : l.length ≤ 1000000000) (hB : B ≤ wr.heap.size)
    (k : ∀ g cap w', Own1 B w' (.slice (some ⟨g, 0, none⟩) (l.length + 1) cap) (l ++ [y]) → (wr.alloc (.cells #[.int .i64 y] 3)).grownBy w' v.ownBlock → (v.ownBlock = some g ∨ wr.heap.size ≤ g) → wpList Try.prog ops Q rest (a.put o.dst (.slice (some ⟨g, 0, none⟩) (l.length + 1) cap)) w') : wpList Try.prog ops Q (o :: rest) a (wr.alloc (.cells #[.int .i64 y] 3)) := by
  subst hbn
  obtain ⟨i, hi, hz, hsize, hby⟩ := info_parts infoI
  have hBl : Bl 3 (wr.alloc (.cells #[.int .i64 y] 3)) wr.heap.size [zV y] := alloc_bl _ _ _
  have h1 : Own1 B (wr.alloc (.cells #[.int .i64 y] 3)) v l := World.ownsRow.alloc h _
  have hsz := alloc_size wr (.cells #[.int .i64 y] 3)
  refine wpList_append_lies _ hgd s x 38 ho B 3 i (.int .i64 0) 1 8 Try.underlying38 hi hz hsize hby rfl (by decide) v l.length (l.map zV) hs h1 ⟨wr.heap.size, 0, none⟩ 1 1 [zV y] hx rfl ?_ (by intro u hu; simp at hu; subst hu; rfl) (by decide) (by unfold maxLen; omega) (by omega) (by omega) _ rfl ?_
  · intro j u hu
    obtain ⟨hlt, e⟩ := List.getElem?_eq_some_iff.1 hu
    rw [Addr.add_mid, Nat.zero_add, ← e]
    exact hBl.cell j hlt
  · intro g cap w' h2 h3 h4 _
    refine k g cap w' ?_ h3 ?_
    · unfold Own1
      rw [List.length_append, List.map_append]
      exact h2
    · rcases h4 with h4 | h4
      · exact .inl h4
      · exact .inr (by omega)

end Go.Proofs.Ytkfchdmlemcjhaa
