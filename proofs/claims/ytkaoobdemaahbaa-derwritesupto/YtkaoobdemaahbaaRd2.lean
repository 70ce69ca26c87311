import Derived.Test.YtkaoobdemaahbaaRd1
namespace Go.Proofs.Ytkaoobdemaahbaa
open Go.RowKit

def two (p c : Int) : Value := .tuple #[.int .i64 p, .int .i64 c]

theorem pe_nil (d : Nat) : pe d [] = .error (0, 80) := by cases d <;> rfl

theorem infoB : (Try.prog.info? 5).map (fun i => (i.zero, i.size, i.bytes)) = some (some (.int .u8 0), 1, 1) := by kernel_rfl
theorem infoT : (Try.prog.info? 32).map (fun i => (i.zero, i.size, i.bytes)) = some (some (.agg #[.int .i64 0, .slice none 0 0, .int .i64 0]), 3, 40) := by kernel_rfl
theorem oneB (l : List UInt8) : ∀ u ∈ l.map B, u.oneCell' = true := fun u hu => by
  obtain ⟨x, _, rfl⟩ := List.mem_map.1 hu; rfl

theorem rd_news {w : World} {g off : Nat} {l : List UInt8} (h : Rd w (some ⟨g, off, none⟩) l) : ∀ j u, (l.map B)[j]? = some u → w.cell? ((⟨g, off, none⟩ : Addr).add j) = some u := by
  intro j u hu
  rcases h with h0 | ⟨b, o, e, hb, hc⟩
  · subst h0; simp at hu
  · cases e
    have hj : j < l.length := by
      have := (List.getElem?_eq_some_iff.1 hu).1
      simpa using this
    rw [Addr.add_lit, hc j hj]
    simp [List.getElem?_map, List.getElem?_eq_getElem hj] at hu
    rw [← hu, getD_eq _ _ hj]

theorem own_rd {w : World} {base c : Nat} {a : Option Addr} {l : List UInt8} (h : w.ownsRow base 5 1 (.slice a l.length c) l.length (l.map B)) : Rd w a l ∧ l.length ≤ c ∧ c ≤ 9223372036854775807 := by
  rcases h.2 with ⟨h', h0⟩ | ⟨g, cap, cur, h', _, _, h1, h2, _⟩
  · simp only [Value.slice.injEq] at h'
    obtain ⟨rfl, h3, rfl⟩ := h'
    rw [h3]
    exact ⟨.inl (List.length_eq_zero_iff.1 h0), Nat.le_refl _, by omega⟩
  · simp only [Value.slice.injEq] at h'
    obtain ⟨rfl, h3, rfl⟩ := h'
    refine ⟨.inr ⟨g, 0, rfl, (h.lt g rfl).2, fun j hj => ?_⟩, h1, by unfold maxLen at h2; omega⟩
    rw [Nat.zero_add, h.cellAt j (by omega)]
    simp [List.getElem?_map, List.getElem?_eq_getElem hj, List.getD_eq_getElem?_getD]

theorem own_slice {w : World} {base n size : Nat} {e : TypeId} {v : Value} {xs : List Value} (h : w.ownsRow base e size v n xs) : ∃ a c, v = .slice a n c := by
  rcases h.2 with ⟨h', h0⟩ | ⟨g, cap, cur, h', _⟩
  · exact ⟨none, 0, by rw [h', h0]⟩
  · exact ⟨_, _, h'⟩

theorem alloc_below_drew (w : World) (o : Obj) : Below w.heap.size w (w.drew.alloc o) := ⟨(alloc_below w.drew o).os, (alloc_below w.drew o).tape, (alloc_below w.drew o).output, (alloc_below w.drew o).size, (alloc_below w.drew o).block⟩
theorem own_base {w : World} {base base' n size : Nat} {e : TypeId} {v : Value} {xs : List Value} (h : w.ownsRow base e size v n xs) (hb : base' ≤ base) : w.ownsRow base' e size v n xs := by
  refine ⟨h.1, ?_⟩
  rcases h.2 with h' | ⟨g', cap', cur, h', h1, h2⟩
  · exact .inl h'
  · exact .inr ⟨g', cap', cur, h', Nat.le_trans hb h1, h2⟩
theorem bl_grown {t : TypeId} {w w' : World} {b : Nat} {vs : List Value} {row : Option Nat} (h : Bl t w b vs) (hg : w.grownBy w' row) (hne : row ≠ some b) : Bl t w' b vs := by
  have hlt := h.lt
  unfold Bl at *
  rw [hg.block b hlt (fun e => hne e.symm)]
  exact h
theorem bl_set {t : TypeId} {w : World} {b c : Nat} {vs : List Value} (h : Bl t w b vs) (hne : b ≠ c) (j : Nat) (v : Value) : Bl t (w.setCell ⟨c, j, none⟩ v) b vs := by
  unfold Bl at *
  rw [heap_setCell_other w ⟨c, j, none⟩ b v hne]
  exact h

end Go.Proofs.Ytkaoobdemaahbaa
