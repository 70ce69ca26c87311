import Derived.Test.YtjncpibhnpoghaaRf4
namespace Go.Proofs.Ytjncpibhnpoghaa
open Go.RowKit

theorem xCs_set1 (xs : List X) (x : X) (l : List UInt8) (a : Option Addr) (c : Nat) : (xCs (xs ++ [x])).set (xs.length * 3 + 1) (.slice a l.length c) = xCs (xs ++ [⟨⟨x.e.tag, l, x.e.kids⟩, a, c⟩]) := by
  rw [xCs_append, xCs_append, List.set_append_right _ _ (by rw [xCs_length]; omega), xCs_length, Nat.add_sub_cancel_left]
  rfl
theorem xCs_at1 (xs : List X) (x : X) : (xCs (xs ++ [x]))[xs.length * 3 + 1]? = some (xD x) := by
  rw [xCs_append, List.getElem?_append_right (by rw [xCs_length]; omega), xCs_length, Nat.add_sub_cancel_left]
  rfl

/-- The last element's bytes are being read. -/
structure DL (w0 wr : World) (rb bL : Nat) (bv lv : Value) (xs : List X) (x : X) : Prop where
  bel : Below w0.heap.size w0 wr
  rbl : w0.heap.size ≤ rb
  rd : Bl 43 wr rb [bv, lv, .int .i64 0, .int .i64 0]
  own : wr.ownsRow w0.heap.size 36 3 lv (xs ++ [x]).length (xCs (xs ++ [x]))
  dat : ∀ y ∈ xs, wr.ownsRow w0.heap.size 5 1 (xD y) y.e.data.length (y.e.data.map B)
  old : ∀ y ∈ xs, ∀ g, (xD y).ownBlock = some g → g < bL
  row : wr.ownsRow bL 5 1 (xD x) x.e.data.length (x.e.data.map B)
  lo : w0.heap.size ≤ bL
  hi : bL ≤ wr.heap.size
  sep : xs.Pairwise fun x y => ∀ g, (xD x).ownBlock = some g → (xD y).ownBlock ≠ some g
  num : ∀ y ∈ xs ++ [x], 0 ≤ y.e.kids ∧ y.e.kids ≤ 65536

theorem DL.start {w0 w : World} {rb : Nat} {bv lv : Value} {xs : List X} {t : Int} (h : SR w0 w rb bv lv 0 0 (xs ++ [⟨⟨t, [], 0⟩, none, 0⟩])) : DL w0 w rb w.heap.size bv lv xs ⟨⟨t, [], 0⟩, none, 0⟩ :=
  ⟨h.bel, h.rbl, h.rd, h.own, fun y hy => h.dat y (List.mem_append.2 (.inl hy)), fun y hy g hg => ((h.dat y (List.mem_append.2 (.inl hy))).lt g hg).2, World.ownsRow_nil _ _ _ _, h.bel.size, Nat.le_refl _, (List.pairwise_append.1 h.sep).1, h.num⟩

theorem DL.done {w0 w : World} {rb bL : Nat} {bv lv : Value} {xs : List X} {x : X} (h : DL w0 w rb bL bv lv xs x) : SR w0 w rb bv lv 0 0 (xs ++ [x]) := by
  refine ⟨h.bel, h.rbl, h.rd, h.own, fun y hy => ?_, ?_, h.num⟩
  · rcases List.mem_append.1 hy with hy | hy
    · exact h.dat y hy
    · rw [List.mem_singleton.1 hy]; exact own_base h.row h.lo
  · rw [List.pairwise_append]
    refine ⟨h.sep, List.pairwise_singleton _ _, fun y hy z hz g hg hg2 => ?_⟩
    rw [List.mem_singleton.1 hz] at hg2
    have h1 := h.old y hy g hg
    have h2 := own_block h.row g hg2
    omega

theorem DL.step {w0 w w1 w2 : World} {rb bL gl lc : Nat} {bv v' : Value} {xs : List X} {t : Int} {l : List UInt8} {a : Option Addr} {c : Nat} {y : UInt8} {a' : Option Addr} {c' : Nat}
    (h : DL w0 w rb bL bv (.slice (some ⟨gl, 0, none⟩) (xs.length + 1) lc) xs ⟨⟨t, l, 0⟩, a, c⟩) (hb : Below w.heap.size w w1) (hv : v' = .slice a' (l ++ [y]).length c')
    (ho : w2.ownsRow bL 5 1 v' (l ++ [y]).length ((l ++ [y]).map B)) (hg : w1.grownBy w2 (Value.slice a l.length c).ownBlock) :
    DL w0 (w2.setCell ⟨gl, xs.length * 3 + 1, none⟩ v') rb bL bv (.slice (some ⟨gl, 0, none⟩) (xs.length + 1) lc) xs ⟨⟨t, l ++ [y], 0⟩, a', c'⟩ := by
  have hrt : 36 ≠ 43 := by decide
  have hut : 5 ≠ 36 := by decide
  have hur : 5 ≠ 43 := by decide
  have hrow : w.ownsRow bL 5 1 (.slice a l.length c) l.length (l.map B) := h.row
  have hlen : (xs ++ [(⟨⟨t, l, 0⟩, a, c⟩ : X)]).length = xs.length + 1 := by simp
  have hown := h.own
  rw [hlen] at hown
  have own1 := own_below hown hb (Nat.le_refl _)
  have row1 := own_below hrow hb (Nat.le_refl _)
  have rd1 := h.rd.below hb h.rd.lt
  -- the list's row and the reader stand
  have hgl : (Value.slice a l.length c).ownBlock ≠ some gl := fun e => kinds_apart row1 own1 hut e rfl
  have own2 : w2.ownsRow w0.heap.size 36 3 (.slice (some ⟨gl, 0, none⟩) (xs.length + 1) lc) (xs.length + 1) (xCs (xs ++ [(⟨⟨t, l, 0⟩, a, c⟩ : X)])) := own_keep own1 fun g hg' => by
    have : g = gl := by simpa [Value.ownBlock] using hg'.symm
    subst this
    exact hg.block g (own1.lt g hg').2 (fun e => hgl e.symm)
  have rd2 := bl_grown rd1 hg (block_apart row1 rd1 hur)
  have hs := own2.stored (xs.length * 3 + 1) v'
  rw [hv, xCs_set1] at hs
  have hglrb : gl ≠ rb := fun e => block_apart own2 rd2 hrt (by rw [← e]; rfl)
  have hk : ∀ g, g ≠ gl → (w2.setCell ⟨gl, xs.length * 3 + 1, none⟩ v').heap[g]? = w2.heap[g]? := fun g hg' => heap_setCell_other w2 ⟨gl, xs.length * 3 + 1, none⟩ g _ hg'
  rw [hv] at hk ho ⊢
  have hlen2 : (xs ++ [(⟨⟨t, l ++ [y], 0⟩, a', c'⟩ : X)]).length = xs.length + 1 := by simp
  have hbel1 : Below w0.heap.size w0 w1 := h.bel.trans (hb.mono h.bel.size)
  refine ⟨?_, h.rbl, ?_, by rw [hlen2]; exact hs.1, fun z hz => ?_, h.old, ?_, h.lo, ?_, h.sep, ?_⟩
  · exact Below.grown (Below.grown hbel1 hg hbel1.size (fun k e => Nat.le_trans h.lo (own_block row1 k e))) hs.2 (Nat.le_trans hbel1.size hg.size) (fun k e => own_block own2 k e)
  · have := bl_set rd2 (fun e => hglrb e.symm) (xs.length * 3 + 1) (.slice a' (l ++ [y]).length c')
    exact this
  · have dz := own_below (h.dat z hz) hb (Nat.le_refl _)
    refine own_keep dz fun g hgz => ?_
    have h1 : g ≠ gl := fun e => kinds_apart dz own1 hut hgz (by rw [e]; rfl)
    rw [hk g h1]
    refine hg.block g (dz.lt g hgz).2 (fun e => ?_)
    have h2 := h.old z hz g hgz
    have h3 := own_block row1 g e.symm
    omega
  · refine own_keep ho fun g hg' => hk g (fun e => kinds_apart ho own2 hut hg' (by rw [e]; rfl))
  · have h1 := h.hi
    have h2 := hb.size
    have h3 := hg.size
    simp
    omega
  · intro z hz
    rcases List.mem_append.1 hz with hz | hz
    · exact h.num z (List.mem_append.2 (.inl hz))
    · rw [List.mem_singleton.1 hz]
      exact h.num ⟨⟨t, l, 0⟩, a, c⟩ (List.mem_append.2 (.inr (List.mem_singleton.2 rfl)))

theorem own_frozen {w : World} {base n m size g c : Nat} {e : TypeId} {xs : List Value} (h : w.ownsRow base e size (.slice (some ⟨g, 0, none⟩) n c) m xs) (j : Nat) : w.frozen? ⟨g, j, none⟩ = false := by
  obtain ⟨cur, hc⟩ := own_type h (g := g) rfl
  exact frozen_of_row w g j cur e hc
theorem frozen_grown {w w' : World} {row : Option Nat} {g j : Nat} (hg : w.grownBy w' row) (h : w.frozen? ⟨g, j, none⟩ = false) (hne : some g ≠ row) (hl : g < w.heap.size) : w'.frozen? ⟨g, j, none⟩ = false := by
  rw [World.frozen?_of_block (w := w) (hg.block g hl hne)]; exact h
theorem cell_lt {w : World} {g j : Nat} {v : Value} (h : w.cell? ⟨g, j, none⟩ = some v) : g < w.heap.size := World.block_lt_of_cell? w _ h

end Go.Proofs.Ytjncpibhnpoghaa
