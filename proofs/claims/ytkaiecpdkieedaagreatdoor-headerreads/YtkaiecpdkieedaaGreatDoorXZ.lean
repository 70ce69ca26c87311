import Derived.Test.YtkaiecpdkieedaaGreatDoorTZ
namespace Go.Proofs.YtkaiecpdkieedaaGreatDoor
open Go.RowKit Go.Shelf

theorem takeN {l : List Nd} {k : Nat} (hk : k < l.length) : l.take (k + 1) = l.take k ++ [l.getD k (nd0 0)] := by
  rw [List.take_add_one, List.getElem?_eq_getElem hk]
  simp [List.getD_eq_getElem?_getD, hk]
set_option maxRecDepth 100000 in
theorem run_nodes_ne (w : World) (n m : Nd) : (binOp .neq 37 (.agg #[.int .i64 n.kind, .string ⟨n.key.toArray⟩, .string ⟨n.text.toArray⟩, .bool n.whole, .int .i64 n.int, .int .i64 n.kids]) (.agg #[.int .i64 m.kind, .string ⟨m.key.toArray⟩, .string ⟨m.text.toArray⟩, .bool m.whole, .int .i64 m.int, .int .i64 m.kids])).run Tryz.prog w = .ok (.bool (!decide (n = m))) w := by
  have h := run_nodes w n m
  rw [run_eql_struct] at h
  rw [run_neq_struct]
  revert h
  generalize (Op.equalIn 10000 37 _ _).run Tryz.prog w = r
  intro h
  cases r with
  | ok b w' =>
    simp only [Result.andThen_ok] at h ⊢
    cases h
    rfl
  | _ => cases h

end Go.Proofs.YtkaiecpdkieedaaGreatDoor

namespace Go.Proofs.YtkaiecpdkieedaaGreatDoor
open Go.RowKit Go.Shelf

def zV (i : Int) : Value := .int .i64 i
/-- A list of numbers of one's own. -/
structure OZ (B : Nat) (w0 w : World) (v : Value) (l : List Int) : Prop where
  own : w.ownsRow B 3 1 v l.length (l.map zV)
  bel : Below B w0 w
theorem OZ.lift {B : Nat} {w0 w w' : World} {v : Value} {l : List Int} (h : OZ B w0 w v l) (hb : Below w.heap.size w w') (hB : B ≤ w0.heap.size) : OZ B w0 w' v l :=
  ⟨own_below h.own hb (Nat.le_refl _), h.bel.trans (hb.mono (Nat.le_trans hB h.bel.size))⟩
theorem OZ.drewN {B : Nat} {w0 w : World} {v : Value} {l : List Int} (h : OZ B w0 w v l) (n : Nat) : OZ B w0 (w.drewN n) v l := ⟨h.own, below_drewN h.bel n⟩
theorem append_z {wr : World} {ops : Array Oper} {rest : List Oper} {o : Oper} {a : Act} {Q : Exit → Act → World → Prop} (hgd : o.guard = none) (s x : Operand)
    (ho : o.op = .call { callee := .builtin .append, args := #[s, x], argTypes := #[38, 38] })
    (B : Nat) (w0 : World) (v : Value) (l : List Int) (y : Int) (hs : a.eval s = v) (h : OZ B w0 wr v l) (bn : Nat) (hbn : bn = wr.heap.size) (hx : a.eval x = .slice (some ⟨bn, 0, none⟩) 1 1) (hl : l.length ≤ 10000000000) (hB : B ≤ w0.heap.size)
    (k : ∀ v' w', OZ B w0 w' v' (l ++ [y]) → wpList Tryz.prog ops Q rest (a.put o.dst v') w') : wpList Tryz.prog ops Q (o :: rest) a (wr.alloc (.cells #[.int .i64 y] 3)) := by
  subst hbn
  obtain ⟨i, hi, hz, hsize, hby⟩ := info_parts infoI
  have hBl : Bl 3 (wr.alloc (.cells #[.int .i64 y] 3)) wr.heap.size [zV y] := alloc_bl _ _ _
  have h1 := h.lift (alloc_below wr (.cells #[.int .i64 y] 3)) hB
  refine wpList_append_own_wide _ hgd s x 38 ho B 3 i (.int .i64 0) 1 8 Tryz.underlying38 hi hz hsize hby rfl (by decide) v l.length (l.map zV) hs h1.own ⟨wr.heap.size, 0, none⟩ 1 1 [zV y] hx rfl ?_ (by intro u hu; simp at hu; subst hu; rfl) (by unfold maxLen; omega) (by omega) (Nat.le_trans hB h1.bel.size) ?_
  · intro j u hu
    obtain ⟨hlt, e⟩ := List.getElem?_eq_some_iff.1 hu
    rw [Addr.add_mid, Nat.zero_add, ← e]
    exact hBl.cell j hlt
  · intro v' w' h2 h3 _
    refine k v' w' ⟨?_, ?_⟩
    · rw [List.length_append, List.map_append]; exact h2
    · exact h1.bel.grown h3 (Nat.le_trans hB h1.bel.size) (own_block h1.own)

def lenV : Value → Nat
  | .slice _ n _ => n
  | _ => 0

/-- A copy of nodes. -/
theorem nCs_oneC (l : List Nd) : ∀ u ∈ nCs l, u.oneCell' = true := by
  intro u hu
  unfold nCs at hu
  obtain ⟨n, _, hn⟩ := List.mem_flatMap.1 hu
  simp [nC] at hn
  rcases hn with rfl | rfl | rfl | rfl | rfl | rfl <;> rfl

end Go.Proofs.YtkaiecpdkieedaaGreatDoor

namespace Go.Proofs.YtkaiecpdkieedaaGreatDoor
open Go.RowKit Go.Shelf

theorem OZ.snoc {B : Nat} {w0 w : World} {v : Value} {xs : List Int} {y : Int} (h : OZ B w0 w v (xs ++ [y])) : ∃ g c, v = .slice (some ⟨g, 0, none⟩) (xs.length + 1) c ∧ xs.length + 1 ≤ c ∧ w.cell? ⟨g, xs.length, none⟩ = some (.int .i64 y) ∧ w.frozen? ⟨g, xs.length, none⟩ = false ∧ OZ B w0 w (.slice (some ⟨g, 0, none⟩) xs.length c) xs ∧ (∀ z : Int, OZ B w0 (w.setCell ⟨g, xs.length, none⟩ (.int .i64 z)) v (xs ++ [z])) := by
  have ho := h.own
  rw [List.length_append, List.length_singleton] at ho
  obtain ⟨a, c, e, hc, hg⟩ := own_slice ho
  obtain ⟨g, rfl⟩ := hg (by omega)
  subst e
  have hcell := own_cell ho xs.length (zV y) (by simp)
  rw [List.map_append, List.map_singleton] at ho
  refine ⟨g, c, rfl, hc, hcell.1, hcell.2, ⟨?_, h.bel⟩, fun z => ?_⟩
  · have := own_short (n := xs.length) (y := zV y) ho
    exact this
  · have hs := ho.stored xs.length (zV z)
    refine ⟨?_, h.bel.grown hs.2 ?_ (own_block ho)⟩
    · rw [List.length_append, List.length_singleton, List.map_append, List.map_singleton]
      have h1 := hs.1
      rw [List.set_append_right _ _ (by simp)] at h1
      simp only [List.length_map, Nat.sub_self, List.set_cons_zero] at h1
      exact h1
    · have := (ho.lt g rfl).1
      have := (ho.lt g rfl).2
      omega

end Go.Proofs.YtkaiecpdkieedaaGreatDoor
