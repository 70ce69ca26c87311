import Derived.Test.YtkaiecpdkieedaaGreatDoorXZ
import Derived.Test.YtkaiecpdkieedaaGreatDoorWc
import Derived.Deep.AppendLies
import Derived.Laws.AppendOwnNone
import Derived.Deep.MidRow
namespace Go.Proofs.YtkaiecpdkieedaaGreatDoor
open Go.RowKit Go.Shelf

/-- Since a only two of its blocks have changed. -/
structure Ky (w0 a : World) (g1 g2 : Option Nat) (w : World) : Prop where
  bel : Below w0.heap.size w0 w
  size : a.heap.size ≤ w.heap.size
  blk : ∀ g, g < a.heap.size → some g ≠ g1 → some g ≠ g2 → w.heap[g]? = a.heap[g]?
theorem Ky.refl {w0 a : World} (g1 g2 : Option Nat) (h : Below w0.heap.size w0 a) : Ky w0 a g1 g2 a := ⟨h, Nat.le_refl _, fun _ _ _ _ => rfl⟩
theorem Ky.below {w0 a w w' : World} {g1 g2 : Option Nat} (h : Ky w0 a g1 g2 w) (hb : Below w.heap.size w w') : Ky w0 a g1 g2 w' :=
  ⟨h.bel.trans (hb.mono h.bel.size), Nat.le_trans h.size hb.size, fun g hg h1 h2 => (hb.block g (Nat.lt_of_lt_of_le hg h.size)).trans (h.blk g hg h1 h2)⟩
theorem Ky.drewN {w0 a w : World} {g1 g2 : Option Nat} (h : Ky w0 a g1 g2 w) (n : Nat) : Ky w0 a g1 g2 (w.drewN n) := ⟨below_drewN h.bel n, h.size, h.blk⟩
theorem Ky.grown {w0 a w w' : World} {g1 g2 row : Option Nat} (h : Ky w0 a g1 g2 w) (hg : w.grownBy w' row) (hr : ∀ k, row = some k → w0.heap.size ≤ k ∧ (some k = g1 ∨ some k = g2 ∨ a.heap.size ≤ k)) : Ky w0 a g1 g2 w' := by
  refine ⟨h.bel.grown hg h.bel.size (fun k hk => (hr k hk).1), Nat.le_trans h.size hg.size, fun g hga h1 h2 => ?_⟩
  rw [hg.block g (Nat.lt_of_lt_of_le hga h.size) (fun e => ?_)]
  · exact h.blk g hga h1 h2
  · rcases (hr g e.symm).2 with h3 | h3 | h3
    · exact h1 h3
    · exact h2 h3
    · omega

theorem Ky.weak {w0 a w : World} {g1 : Option Nat} (g2 : Option Nat) (h : Ky w0 a g1 none w) : Ky w0 a g1 g2 w := ⟨h.bel, h.size, fun g hg h1 _ => h.blk g hg h1 (fun e => by cases e)⟩

theorem NR.ky {w0 a w : World} {g1 g2 : Option Nat} {v : Value} {l : List Nd} {ao : Option Addr} {cap : Nat} (h : NR a v l ao cap) (hk : Ky w0 a g1 g2 w) (hne : ∀ g off, ao = some ⟨g, off, none⟩ → some g ≠ g1 ∧ some g ≠ g2) : NR w v l ao cap := by
  refine ⟨h.val, h.cap, ?_⟩
  rcases h.cell with h0 | ⟨g, off, e, hg, hc⟩
  · exact .inl h0
  · exact .inr ⟨g, off, e, Nat.lt_of_lt_of_le hg hk.size, fun j u hu => cell_but (hc j u hu) fun hlt => hk.blk g hlt (hne g off e).1 (hne g off e).2⟩

/-- Numbers that can be read. -/
structure IR (w : World) (v : Value) (l : List Int) (ao : Option Addr) (cap : Nat) : Prop where
  val : v = .slice ao l.length cap
  cap : l.length ≤ cap
  cell : l = [] ∨ ∃ g off : Nat, ao = some ⟨g, off, none⟩ ∧ g < w.heap.size ∧ ∀ j, j < l.length → w.cell? ⟨g, off + j, none⟩ = some (.int .i64 (l.getD j 0))
theorem IR.ky {w0 a w : World} {g1 g2 : Option Nat} {v : Value} {l : List Int} {ao : Option Addr} {cap : Nat} (h : IR a v l ao cap) (hk : Ky w0 a g1 g2 w) (hne : ∀ g off, ao = some ⟨g, off, none⟩ → some g ≠ g1 ∧ some g ≠ g2) : IR w v l ao cap := by
  refine ⟨h.val, h.cap, ?_⟩
  rcases h.cell with h0 | ⟨g, off, e, hg, hc⟩
  · exact .inl h0
  · exact .inr ⟨g, off, e, Nat.lt_of_lt_of_le hg hk.size, fun j hj => cell_but (hc j hj) fun hlt => hk.blk g hlt (hne g off e).1 (hne g off e).2⟩
theorem IR.below {w w' : World} {v : Value} {l : List Int} {ao : Option Addr} {cap n : Nat} (h : IR w v l ao cap) (hb : Below n w w') (hn : w.heap.size ≤ n) : IR w' v l ao cap := by
  refine ⟨h.val, h.cap, ?_⟩
  rcases h.cell with h0 | ⟨g, off, e, hg, hc⟩
  · exact .inl h0
  · exact .inr ⟨g, off, e, Nat.lt_of_lt_of_le hg hb.size, fun j hj => cell_but (hc j hj) fun _ => hb.block g (by omega)⟩
theorem IR.drewN {w : World} {v : Value} {l : List Int} {ao : Option Addr} {cap : Nat} (h : IR w v l ao cap) (n : Nat) : IR (w.drewN n) v l ao cap := ⟨h.val, h.cap, h.cell⟩
theorem IR.at {w : World} {v : Value} {l : List Int} {ao : Option Addr} {cap : Nat} (h : IR w v l ao cap) {i : Nat} (hi : i < l.length) : ∃ g off : Nat, ao = some ⟨g, off, none⟩ ∧ w.cell? ⟨g, off + i, none⟩ = some (.int .i64 (l.getD i 0)) := by
  rcases h.cell with h0 | ⟨g, off, e, _, hc⟩
  · subst h0; simp at hi
  · exact ⟨g, off, e, hc i hi⟩
/-- A list of numbers of one's own: where it lies. -/
def Own1 (B : Nat) (w : World) (v : Value) (l : List Int) : Prop := w.ownsRow B 3 1 v l.length (l.map zV)
theorem own_ir {B : Nat} {w : World} {v : Value} {l : List Int} (h : Own1 B w v l) : ∃ ao cap, IR w v l ao cap ∧ (∀ g off, ao = some ⟨g, off, none⟩ → off = 0 ∧ B ≤ g ∧ g < w.heap.size) ∧ v.ownBlock = ao.map (·.block) ∧ (ao = none → cap = 0) := by
  have hlt := World.ownsRow.lt h
  unfold Own1 at h
  rcases h.2 with ⟨hv, hn⟩ | ⟨g, cap, cur, hv, hb, hg, hc1, hc2, hs, ht⟩
  · refine ⟨none, 0, ⟨by rw [hv, hn], by omega, .inl (List.eq_nil_of_length_eq_zero hn)⟩, fun g off e => (by cases e), by rw [hv]; rfl, fun _ => rfl⟩
  · refine ⟨some ⟨g, 0, none⟩, cap, ⟨hv, hc1, ?_⟩, fun g' off e => ?_, by rw [hv]; rfl, fun e => by cases e⟩
    · rcases Nat.eq_zero_or_pos l.length with h0 | h0
      · exact .inl (List.eq_nil_of_length_eq_zero h0)
      · refine .inr ⟨g, 0, rfl, (hlt g (by rw [hv]; rfl)).2, fun j hj => ?_⟩
        rw [Nat.zero_add]
        refine (own_cell (hv ▸ h) j _ ?_).1
        rw [List.getElem?_map, List.getElem?_eq_getElem hj]
        simp [zV, List.getD_eq_getElem?_getD, hj]
    · cases e
      exact ⟨rfl, hb, (hlt _ (by rw [hv]; rfl)).2⟩
theorem no_nr {B : Nat} {w : World} {v : Value} {l : List Nd} (h : NO B w v l) : ∃ ao cap, NR w v l ao cap ∧ (∀ g off, ao = some ⟨g, off, none⟩ → off = 0 ∧ B ≤ g ∧ g < w.heap.size) ∧ v.ownBlock = ao.map (·.block) ∧ (ao = none → cap = 0) := by
  have hlt := World.ownsRow.lt h
  unfold NO at h
  rcases h.2 with ⟨hv, hn⟩ | ⟨g, cap, cur, hv, hb, hg, hc1, hc2, hs, ht⟩
  · refine ⟨none, 0, ⟨by rw [hv, hn], by omega, .inl (List.eq_nil_of_length_eq_zero hn)⟩, fun g off e => (by cases e), by rw [hv]; rfl, fun _ => rfl⟩
  · refine ⟨some ⟨g, 0, none⟩, cap, ⟨hv, hc1, ?_⟩, fun g' off e => ?_, by rw [hv]; rfl, fun e => by cases e⟩
    · rcases Nat.eq_zero_or_pos l.length with h0 | h0
      · exact .inl (List.eq_nil_of_length_eq_zero h0)
      · refine .inr ⟨g, 0, rfl, (hlt g (by rw [hv]; rfl)).2, fun j u hu => ?_⟩
        rw [Nat.zero_add]
        exact (own_cell (hv ▸ h) j u hu).1
    · cases e
      exact ⟨rfl, hb, (hlt _ (by rw [hv]; rfl)).2⟩

/-- A row of one's own, several cells set. -/
def setL (xs : List Value) : Nat → List Value → List Value
  | _, [] => xs
  | o, c :: cs => setL (xs.set o c) (o + 1) cs
theorem own_setCells {base n size g cap : Nat} {e : TypeId} : ∀ (cs xs : List Value) (o : Nat) (w : World), w.ownsRow base e size (.slice (some ⟨g, 0, none⟩) n cap) n xs → (w.setCells g o cs).ownsRow base e size (.slice (some ⟨g, 0, none⟩) n cap) n (setL xs o cs) ∧ w.grownBy (w.setCells g o cs) (some g)
  | [], xs, o, w, h => ⟨h, ⟨rfl, rfl, rfl, Nat.le_refl _, fun _ _ _ => rfl⟩⟩
  | c :: cs, xs, o, w, h => by
    have h1 := World.ownsRow.stored h o c
    have h2 := own_setCells cs (xs.set o c) (o + 1) _ h1.1
    refine ⟨h2.1, ⟨h2.2.os.trans h1.2.os, h2.2.tape.trans h1.2.tape, h2.2.output.trans h1.2.output, Nat.le_trans h1.2.size h2.2.size, fun k hk hne => ?_⟩⟩
    rw [← h1.2.block k hk hne]
    exact h2.2.block k (Nat.lt_of_lt_of_le hk h1.2.size) hne
theorem setL_app (A : List Value) : ∀ (cs ds R : List Value), ds.length = cs.length → setL (A ++ (ds ++ R)) A.length cs = A ++ (cs ++ R)
  | [], [], R, _ => rfl
  | [], _ :: _, _, h => by simp at h
  | _ :: _, [], _, h => by simp at h
  | c :: cs, d :: ds, R, h => by
    unfold setL
    have e : (A ++ (d :: ds ++ R)).set A.length c = (A ++ [c]) ++ (ds ++ R) := by
      rw [List.set_append_right _ _ (Nat.le_refl _), Nat.sub_self]
      simp
    rw [e]
    have := setL_app (A ++ [c]) cs ds R (by simpa using h)
    rw [List.length_append, List.length_singleton] at this
    rw [this]
    simp
theorem setL_node (P : List Nd) (n m : Nd) (R : List Nd) : setL (nCs (P ++ n :: R)) (P.length * 6) (nC m) = nCs (P ++ m :: R) := by
  have e1 : ∀ x : Nd, nCs (P ++ x :: R) = nCs P ++ (nC x ++ nCs R) := fun x => by rw [nCs_append]; rfl
  rw [e1, e1, ← nCs_length P]
  exact setL_app (nCs P) (nC m) (nC n) (nCs R) rfl
theorem own_there {w : World} {base n g cap : Nat} {e : TypeId} {size : Nat} {xs : List Value} (h : w.ownsRow base e size (.slice (some ⟨g, 0, none⟩) n cap) n xs) {o k : Nat} (hk : o + k ≤ xs.length) : w.there g o k := fun j hj => by
  have := own_cell h (o + j) (xs[o + j]'(by omega)) (by simp)
  exact ⟨by rw [this.1]; rfl, this.2⟩

/-- A copy of numbers. -/
theorem append_copy {wr : World} {ops : Array Oper} {rest : List Oper} {o : Oper} {a : Act} {Q : Exit → Act → World → Prop} (hgd : o.guard = none) (s x : Operand)
    (ho : o.op = .call { callee := .builtin .append, args := #[s, x], argTypes := #[38, 38] })
    (K : List Int) (ak : Option Addr) (ck : Nat) (hs : a.eval s = .slice none 0 0) (hx : a.eval x = .slice ak K.length ck) (h : IR wr (.slice ak K.length ck) K ak ck) (hn : ak = none → ck = 0) (hl : K.length ≤ 1000000000)
    (k : ∀ v' w', Own1 wr.heap.size w' v' K → Below wr.heap.size wr w' → wpList Tryz.prog ops Q rest (a.put o.dst v') w') : wpList Tryz.prog ops Q (o :: rest) a wr := by
  obtain ⟨i, hi, hz, hsize, hby⟩ := info_parts infoI
  cases ak with
  | none =>
    obtain rfl := hn rfl
    have hc := h.cap
    have hK : K = [] := List.eq_nil_of_length_eq_zero (by omega)
    subst hK
    exact wpList_append_own_none hgd s x 38 ho wr.heap.size 3 i 1 Tryz.underlying38 hi _ 0 [] hs (World.ownsRow_nil _ _ _ _) hx (k _ _ (World.ownsRow_nil _ _ _ _) (Below.refl _ _))
  | some ad =>
    refine wpList_append_own_wide _ hgd s x 38 ho wr.heap.size 3 i (.int .i64 0) 1 8 Tryz.underlying38 hi hz hsize hby rfl (by decide) _ 0 [] hs (World.ownsRow_nil _ _ _ _) ad K.length ck (K.map zV) hx (by simp) ?_ (by intro u hu; obtain ⟨z, _, rfl⟩ := List.mem_map.1 hu; rfl) (by unfold maxLen; omega) (by omega) (Nat.le_refl _) ?_
    · intro j u hu
      obtain ⟨hlt, e⟩ := List.getElem?_eq_some_iff.1 hu
      have hj : j < K.length := by simpa using hlt
      obtain ⟨g, off, e2, hc⟩ := h.at hj
      cases e2
      rw [Addr.add_mid, hc, ← e]
      simp [zV, List.getD_eq_getElem?_getD, hj]
    · intro v' w' h2 h3 _
      refine k v' w' ?_ (Below.grown (Below.refl _ _) h3 (Nat.le_refl _) (fun k hk => by cases hk))
      rw [Nat.zero_add, List.nil_append] at h2
      exact h2

/-- append of one node behind a row of one's own, and where the new row lies. -/
theorem append_nd {wr : World} {ops : Array Oper} {rest : List Oper} {o : Oper} {a : Act} {Q : Exit → Act → World → Prop} (hgd : o.guard = none) (s x : Operand)
    (ho : o.op = .call { callee := .builtin .append, args := #[s, x], argTypes := #[29, 29] })
    (B : Nat) (v : Value) (l : List Nd) (y : Nd) (hs : a.eval s = v) (h : NO B wr v l) (bn : Nat) (hbn : bn = wr.heap.size) (hx : a.eval x = .slice (some ⟨bn, 0, none⟩) 1 1) (hl : l.length ≤ 1000000000) (hB : B ≤ wr.heap.size)
    (k : ∀ g cap w', NO B w' (.slice (some ⟨g, 0, none⟩) (l.length + 1) cap) (l ++ [y]) → (wr.alloc (.cells (nC y).toArray 37)).grownBy w' v.ownBlock → (v.ownBlock = some g ∨ wr.heap.size ≤ g) → wpList Tryz.prog ops Q rest (a.put o.dst (.slice (some ⟨g, 0, none⟩) (l.length + 1) cap)) w') : wpList Tryz.prog ops Q (o :: rest) a (wr.alloc (.cells (nC y).toArray 37)) := by
  subst hbn
  obtain ⟨i, hi, hz, hsize, hby⟩ := info_parts infoN
  have hBl : Bl 37 (wr.alloc (.cells (nC y).toArray 37)) wr.heap.size (nC y) := alloc_bl _ _ _
  have h1 : NO B (wr.alloc (.cells (nC y).toArray 37)) v l := World.ownsRow.alloc h _
  have hsz := alloc_size wr (.cells (nC y).toArray 37)
  refine wpList_append_lies _ hgd s x 29 ho B 37 i (.agg #[.int .i64 0, .string ⟨#[]⟩, .string ⟨#[]⟩, .bool false, .int .i64 0, .int .i64 0]) 6 64 Tryz.underlying29 hi hz hsize hby rfl (by decide) v l.length (nCs l) hs h1 ⟨wr.heap.size, 0, none⟩ 1 1 (nC y) hx rfl ?_ (by rw [← nCs_one]; exact nCs_oneC _) (by decide) (by unfold maxLen; omega) (by omega) (by omega) _ rfl ?_
  · intro j u hu
    obtain ⟨hlt, e⟩ := List.getElem?_eq_some_iff.1 hu
    rw [Addr.add_mid, Nat.zero_add, ← e]
    exact hBl.cell j hlt
  · intro g cap w' h2 h3 h4 _
    refine k g cap w' ?_ h3 ?_
    · unfold NO
      rw [List.length_append, nCs_append, nCs_one]
      exact h2
    · rcases h4 with h4 | h4
      · exact .inl h4
      · exact .inr (by omega)
theorem append_1 {wr : World} {ops : Array Oper} {rest : List Oper} {o : Oper} {a : Act} {Q : Exit → Act → World → Prop} (hgd : o.guard = none) (s x : Operand)
    (ho : o.op = .call { callee := .builtin .append, args := #[s, x], argTypes := #[38, 38] })
    (B : Nat) (v : Value) (l : List Int) (y : Int) (hs : a.eval s = v) (h : Own1 B wr v l) (bn : Nat) (hbn : bn = wr.heap.size) (hx : a.eval x = .slice (some ⟨bn, 0, none⟩) 1 1) (hl : l.length ≤ 1000000000) (hB : B ≤ wr.heap.size)
    (k : ∀ g cap w', Own1 B w' (.slice (some ⟨g, 0, none⟩) (l.length + 1) cap) (l ++ [y]) → (wr.alloc (.cells #[.int .i64 y] 3)).grownBy w' v.ownBlock → (v.ownBlock = some g ∨ wr.heap.size ≤ g) → wpList Tryz.prog ops Q rest (a.put o.dst (.slice (some ⟨g, 0, none⟩) (l.length + 1) cap)) w') : wpList Tryz.prog ops Q (o :: rest) a (wr.alloc (.cells #[.int .i64 y] 3)) := by
  subst hbn
  obtain ⟨i, hi, hz, hsize, hby⟩ := info_parts infoI
  have hBl : Bl 3 (wr.alloc (.cells #[.int .i64 y] 3)) wr.heap.size [zV y] := alloc_bl _ _ _
  have h1 : Own1 B (wr.alloc (.cells #[.int .i64 y] 3)) v l := World.ownsRow.alloc h _
  have hsz := alloc_size wr (.cells #[.int .i64 y] 3)
  refine wpList_append_lies _ hgd s x 38 ho B 3 i (.int .i64 0) 1 8 Tryz.underlying38 hi hz hsize hby rfl (by decide) v l.length (l.map zV) hs h1 ⟨wr.heap.size, 0, none⟩ 1 1 [zV y] hx rfl ?_ (by intro u hu; simp at hu; subst hu; rfl) (by decide) (by unfold maxLen; omega) (by omega) (by omega) _ rfl ?_
  · intro j u hu
    obtain ⟨hlt, e⟩ := List.getElem?_eq_some_iff.1 hu
    rw [Addr.add_mid, Nat.zero_add, ← e]
    exact hBl.cell j hlt
  · intro g cap w' h2 h3 h4 _
    refine k g cap w' ?_ h3 ?_
    · unfold Own1
      rw [List.length_append, List.map_append]
      exact h2
    · rcases h4 with h4 | h4
      · exact .inl h4
      · exact .inr (by omega)

theorem takeI {l : List Int} {k : Nat} (hk : k < l.length) : l.take (k + 1) = l.take k ++ [l.getD k 0] := by
  rw [List.take_add_one, List.getElem?_eq_getElem hk]
  simp [List.getD_eq_getElem?_getD, hk]

theorem bhF_map (f : Nd → Nd) (hf : ∀ n, (f n).kids = n.kids) : ∀ (l : List Nd) (aw : Int), bhF (l.map f) aw = bhF l aw
  | [], _ => rfl
  | n :: r, aw => by
    rw [List.map_cons]
    unfold bhF
    rw [hf, bhF_map f hf r]
theorem bhN_map (f : Nd → Nd) (hf : ∀ n, (f n).kids = n.kids) (l : List Nd) (i : Nat) : bhN (l.map f) i = bhN l i := by
  unfold bhN
  rw [← List.map_drop, bhF_map f hf]
theorem kidsL_map (f : Nd → Nd) (hf : ∀ n, (f n).kids = n.kids) (l : List Nd) : ∀ (k i : Nat) (n : Int), kidsL (l.map f) k i n = kidsL l k i n
  | 0, _, _ => rfl
  | k + 1, i, n => by
    unfold kidsL
    rw [List.length_map, bhN_map f hf, kidsL_map f hf l k]
theorem kidsF_map (f : Nd → Nd) (hf : ∀ n, (f n).kids = n.kids) (l : List Nd) (a : Int) : kidsF (l.map f) a = kidsF l a := by
  unfold kidsF
  rw [List.length_map]
  split
  · rename_i h
    rw [kidsL_map f hf]
    congr 1
    rw [List.getD_eq_getElem?_getD, List.getD_eq_getElem?_getD, List.getElem?_map, List.getElem?_eq_getElem (show a.toNat < l.length by omega)]
    simp [hf]
  · rfl

end Go.Proofs.YtkaiecpdkieedaaGreatDoor
