import Derived.Test.YtjncpibhnpoghaaRf2
namespace Go.Proofs.Ytjncpibhnpoghaa
open Go.RowKit

/-- The reader, and what it has read. -/
structure SR (w0 w : World) (rb : Nat) (bv lv : Value) (er pl : Int) (xs : List X) : Prop where
  bel : Below w0.heap.size w0 w
  rbl : w0.heap.size ≤ rb
  rd : Bl 43 w rb [bv, lv, .int .i64 er, .int .i64 pl]
  own : w.ownsRow w0.heap.size 36 3 lv xs.length (xCs xs)
  dat : ∀ x ∈ xs, w.ownsRow w0.heap.size 5 1 (xD x) x.e.data.length (x.e.data.map B)
  sep : xs.Pairwise fun x y => ∀ g, (xD x).ownBlock = some g → (xD y).ownBlock ≠ some g
  num : ∀ x ∈ xs, 0 ≤ x.e.kids ∧ x.e.kids ≤ 65536

theorem SR.below {w0 w w' : World} {rb k : Nat} {bv lv : Value} {er pl : Int} {xs : List X} (h : SR w0 w rb bv lv er pl xs) (hb : Below k w w') (hk : w.heap.size ≤ k) : SR w0 w' rb bv lv er pl xs :=
  ⟨h.bel.trans (hb.mono (Nat.le_trans h.bel.size hk)), h.rbl, h.rd.below hb (Nat.lt_of_lt_of_le h.rd.lt hk), own_below h.own hb hk, fun x hx => own_below (h.dat x hx) hb hk, h.sep, h.num⟩

theorem SR.push {w0 w w1 w2 : World} {rb : Nat} {bv lv v' : Value} {er pl : Int} {xs : List X} {x : X} (h : SR w0 w rb bv lv er pl xs) (hb : Below w.heap.size w w1)
    (hd : w1.ownsRow w0.heap.size 5 1 (xD x) x.e.data.length (x.e.data.map B)) (hnew : ∀ g, (xD x).ownBlock = some g → w.heap.size ≤ g) (hn : 0 ≤ x.e.kids ∧ x.e.kids ≤ 65536)
    (ho : w2.ownsRow w0.heap.size 36 3 v' (xs.length + 1) (xCs xs ++ xC x)) (hg : w1.grownBy w2 lv.ownBlock) : SR w0 (w2.setCell ⟨rb, 1, none⟩ v') rb bv v' er pl (xs ++ [x]) := by
  have h1 := h.below hb (Nat.le_refl _)
  have hrt : 36 ≠ 43 := by decide
  have hut : 5 ≠ 36 := by decide
  have hur : 5 ≠ 43 := by decide
  have hrb : lv.ownBlock ≠ some rb := block_apart h1.own h1.rd hrt
  have hrd2 : Bl 43 w2 rb [bv, lv, .int .i64 er, .int .i64 pl] := by
    have h3 := h1.rd
    unfold Bl at *
    rw [hg.block rb h1.rd.lt (fun e => hrb e.symm)]
    exact h3
  have hk : ∀ (y : X), w1.ownsRow w0.heap.size 5 1 (xD y) y.e.data.length (y.e.data.map B) → (w2.setCell ⟨rb, 1, none⟩ v').ownsRow w0.heap.size 5 1 (xD y) y.e.data.length (y.e.data.map B) := by
    intro y hy
    refine own_keep hy fun g hgy => ?_
    have a1 : lv.ownBlock ≠ some g := kinds_apart hy h1.own hut hgy
    have a2 : (xD y).ownBlock ≠ some rb := block_apart hy h1.rd hur
    rw [heap_setCell_other w2 _ g _ (fun e => a2 (by rw [hgy]; exact congrArg some e))]
    exact hg.block g (hy.lt g hgy).2 (fun e => a1 e.symm)
  refine ⟨?_, h.rbl, ?_, ?_, ?_, ?_, ?_⟩
  · refine Below.setCell (Below.grown h1.bel hg h1.bel.size (own_block h1.own)) ?_ _
    exact h.rbl
  · exact hrd2.set 1 v'
  · have a3 : v'.ownBlock ≠ some rb := block_apart ho hrd2 hrt
    rw [List.length_append, xCs_append]
    have e1 : xCs [x] = xC x := by simp [xCs]
    rw [e1]
    exact own_keep ho fun g hgv => heap_setCell_other w2 _ g _ (fun e => a3 (by rw [hgv]; exact congrArg some e))
  · intro y hy
    rcases List.mem_append.1 hy with hy | hy
    · exact hk y (h1.dat y hy)
    · rw [List.mem_singleton.1 hy]; exact hk x hd
  · rw [List.pairwise_append]
    refine ⟨h.sep, List.pairwise_singleton _ _, ?_⟩
    intro y hy z hz g hgy hgz
    rw [List.mem_singleton.1 hz] at hgz
    have b1 := ((h.dat y hy).lt g hgy).2
    have b2 := hnew g hgz
    omega
  · intro y hy
    rcases List.mem_append.1 hy with hy | hy
    · exact h.num y hy
    · rw [List.mem_singleton.1 hy]; exact hn

theorem SR.kid {w0 w : World} {rb g cap : Nat} {bv : Value} {er pl : Int} {xs ys : List X} {x : X} {v : Int} (h : SR w0 w rb bv (.slice (some ⟨g, 0, none⟩) (xs ++ x :: ys).length cap) er pl (xs ++ x :: ys)) (hv : 0 ≤ v ∧ v ≤ 65536) :
    SR w0 (w.setCell ⟨g, xs.length * 3 + 2, none⟩ (.int .i64 v)) rb bv (.slice (some ⟨g, 0, none⟩) (xs ++ x :: ys).length cap) er pl (xs ++ ⟨⟨x.e.tag, x.e.data, v⟩, x.a, x.c⟩ :: ys) := by
  have hrt : 36 ≠ 43 := by decide
  have hut : 5 ≠ 36 := by decide
  have hs := (h.own.stored (xs.length * 3 + 2) (.int .i64 v))
  rw [xCs_set] at hs
  have hlen : (xs ++ (⟨⟨x.e.tag, x.e.data, v⟩, x.a, x.c⟩ : X) :: ys).length = (xs ++ x :: ys).length := by simp
  have hrb : (Value.slice (some ⟨g, 0, none⟩) (xs ++ x :: ys).length cap).ownBlock ≠ some rb := block_apart h.own h.rd hrt
  have hk : ∀ (y : X), w.ownsRow w0.heap.size 5 1 (xD y) y.e.data.length (y.e.data.map B) → (w.setCell ⟨g, xs.length * 3 + 2, none⟩ (.int .i64 v)).ownsRow w0.heap.size 5 1 (xD y) y.e.data.length (y.e.data.map B) := by
    intro y hy
    refine own_keep hy fun k hky => ?_
    have a1 : (Value.slice (some ⟨g, 0, none⟩) (xs ++ x :: ys).length cap).ownBlock ≠ some k := kinds_apart hy h.own hut hky
    exact heap_setCell_other w _ k _ (fun e => a1 (congrArg some e.symm))
  refine ⟨Below.grown h.bel hs.2 h.bel.size (fun k e => own_block h.own k e), h.rbl, ?_, by rw [hlen]; exact hs.1, ?_, ?_, ?_⟩
  · have h3 := h.rd
    unfold Bl at *
    rw [heap_setCell_other w ⟨g, xs.length * 3 + 2, none⟩ rb _ (fun e => hrb (congrArg some e.symm))]
    exact h3
  · intro y hy
    rcases List.mem_append.1 hy with hy | hy
    · exact hk y (h.dat y (List.mem_append.2 (.inl hy)))
    · rcases List.mem_cons.1 hy with rfl | hy
      · exact hk _ (h.dat x (List.mem_append.2 (.inr (List.mem_cons_self ..))))
      · exact hk y (h.dat y (List.mem_append.2 (.inr (List.mem_cons_of_mem _ hy))))
  · have h4 := h.sep
    rw [List.pairwise_append, List.pairwise_cons] at h4 ⊢
    refine ⟨h4.1, ⟨fun y hy => h4.2.1.1 y hy, h4.2.1.2⟩, ?_⟩
    intro a ha b hb
    rcases List.mem_cons.1 hb with rfl | hb
    · exact h4.2.2 a ha x (List.mem_cons_self ..)
    · exact h4.2.2 a ha b (List.mem_cons_of_mem _ hb)
  · intro y hy
    rcases List.mem_append.1 hy with hy | hy
    · exact h.num y (List.mem_append.2 (.inl hy))
    · rcases List.mem_cons.1 hy with rfl | hy
      · exact hv
      · exact h.num y (List.mem_append.2 (.inr (List.mem_cons_of_mem _ hy)))


theorem SR.err {w0 w : World} {rb : Nat} {bv lv : Value} {er pl : Int} {xs : List X} (h : SR w0 w rb bv lv er pl xs) (e p : Int) : SR w0 ((w.setCell ⟨rb, 2, none⟩ (.int .i64 e)).setCell ⟨rb, 3, none⟩ (.int .i64 p)) rb bv lv e p xs := by
  have hrt : 36 ≠ 43 := by decide
  have hur : 5 ≠ 43 := by decide
  have hk : ∀ g, g ≠ rb → ((w.setCell ⟨rb, 2, none⟩ (.int .i64 e)).setCell ⟨rb, 3, none⟩ (.int .i64 p)).heap[g]? = w.heap[g]? := fun g hg => by
    rw [heap_setCell_other _ ⟨rb, 3, none⟩ g _ hg, heap_setCell_other w ⟨rb, 2, none⟩ g _ hg]
  refine ⟨Below.setCell (Below.setCell h.bel h.rbl _) h.rbl _, h.rbl, (h.rd.set 2 _).set 3 _, own_keep h.own fun g hg => hk g (fun e => block_apart h.own h.rd hrt (by rw [hg, e])), fun x hx => own_keep (h.dat x hx) fun g hg => hk g (fun e => block_apart (h.dat x hx) h.rd hur (by rw [hg, e])), h.sep, h.num⟩

end Go.Proofs.Ytjncpibhnpoghaa
