import Derived.Test.YtjncpibhnpoghaaShape
import Derived.Test.YtjncpibhnpoghaaMeas
import Derived.Test.YtjncpibhnpoghaaOrk
namespace Go.Proofs.Ytjncpibhnpoghaa
open Go.RowKit

def xC (x : X) : List Value := [.int .i64 x.e.tag, xD x, .int .i64 x.e.kids]
def xCs (xs : List X) : List Value := xs.flatMap xC
theorem xCs_length (xs : List X) : (xCs xs).length = xs.length * 3 := by
  induction xs with
  | nil => rfl
  | cons x r ih => unfold xCs at *; simp [List.flatMap_cons, xC, ih]; omega
theorem xCs_append (xs ys : List X) : xCs (xs ++ ys) = xCs xs ++ xCs ys := by simp [xCs]

theorem own_type {w : World} {base n size : Nat} {e : TypeId} {v : Value} {xs : List Value} (h : w.ownsRow base e size v n xs) {g : Nat} (hg : v.ownBlock = some g) : ∃ cur, w.heap[g]? = some (.cells cur e (0, 0)) := by
  rcases h.2 with ⟨h', _⟩ | ⟨g', cap', cur, h', _, hg', _⟩
  · subst h'; simp [Value.ownBlock] at hg
  · subst h'
    simp only [Value.ownBlock, Option.some.injEq] at hg
    subst hg
    exact ⟨cur, hg'⟩

theorem own_keep {w w' : World} {base n size : Nat} {e : TypeId} {v : Value} {xs : List Value} (h : w.ownsRow base e size v n xs) (hk : ∀ g, v.ownBlock = some g → w'.heap[g]? = w.heap[g]?) : w'.ownsRow base e size v n xs := by
  refine ⟨h.1, ?_⟩
  rcases h.2 with h' | ⟨g', cap', cur, h', h1, hg', h2⟩
  · exact .inl h'
  · exact .inr ⟨g', cap', cur, h', h1, by rw [hk g' (by rw [h']; rfl)]; exact hg', h2⟩

theorem own_below {w w' : World} {base n size k : Nat} {e : TypeId} {v : Value} {xs : List Value} (h : w.ownsRow base e size v n xs) (hb : Below k w w') (hk : w.heap.size ≤ k) : w'.ownsRow base e size v n xs :=
  own_keep h fun g hg => hb.block g (Nat.lt_of_lt_of_le (h.lt g hg).2 hk)

theorem kinds_apart {w : World} {b1 b2 n1 n2 s1 s2 : Nat} {e1 e2 : TypeId} {v1 v2 : Value} {xs ys : List Value} (h1 : w.ownsRow b1 e1 s1 v1 n1 xs) (h2 : w.ownsRow b2 e2 s2 v2 n2 ys) (hne : e1 ≠ e2) {g : Nat} (hg : v1.ownBlock = some g) : v2.ownBlock ≠ some g := by
  intro hg2
  obtain ⟨c1, e1'⟩ := own_type h1 hg
  obtain ⟨c2, e2'⟩ := own_type h2 hg2
  rw [e1'] at e2'
  simp only [Option.some.injEq, Obj.cells.injEq] at e2'
  exact hne e2'.2.1
theorem block_apart {w : World} {b1 n1 s1 : Nat} {e1 t : TypeId} {v1 : Value} {xs vs : List Value} {b : Nat} (h1 : w.ownsRow b1 e1 s1 v1 n1 xs) (h2 : Bl t w b vs) (hne : e1 ≠ t) : v1.ownBlock ≠ some b := by
  intro hg
  obtain ⟨c1, e1'⟩ := own_type h1 hg
  unfold Bl at h2
  rw [e1'] at h2
  simp only [Option.some.injEq, Obj.cells.injEq] at h2
  exact hne h2.2.1

/-- The reader, and what it has read. -/
structure St (w0 w : World) (rb : Nat) (bv lv : Value) (xs : List X) : Prop where
  bel : Below w0.heap.size w0 w
  rbl : w0.heap.size ≤ rb
  rd : Bl 38 w rb [bv, lv]
  own : w.ownsRow w0.heap.size 36 3 lv xs.length (xCs xs)
  dat : ∀ x ∈ xs, w.ownsRow w0.heap.size 5 1 (xD x) x.e.data.length (x.e.data.map B)
  sep : xs.Pairwise fun x y => ∀ g, (xD x).ownBlock = some g → (xD y).ownBlock ≠ some g
  num : ∀ x ∈ xs, 0 ≤ x.e.kids ∧ x.e.kids ≤ 65536

theorem St.below {w0 w w' : World} {rb k : Nat} {bv lv : Value} {xs : List X} (h : St w0 w rb bv lv xs) (hb : Below k w w') (hk : w.heap.size ≤ k) : St w0 w' rb bv lv xs :=
  ⟨h.bel.trans (hb.mono (Nat.le_trans h.bel.size hk)), h.rbl, h.rd.below hb (Nat.lt_of_lt_of_le h.rd.lt hk), own_below h.own hb hk, fun x hx => own_below (h.dat x hx) hb hk, h.sep, h.num⟩

theorem St.push {w0 w w1 w2 : World} {rb : Nat} {bv lv v' : Value} {xs : List X} {x : X} (h : St w0 w rb bv lv xs) (hb : Below w.heap.size w w1)
    (hd : w1.ownsRow w0.heap.size 5 1 (xD x) x.e.data.length (x.e.data.map B)) (hnew : ∀ g, (xD x).ownBlock = some g → w.heap.size ≤ g) (hn : 0 ≤ x.e.kids ∧ x.e.kids ≤ 65536)
    (ho : w2.ownsRow w0.heap.size 36 3 v' (xs.length + 1) (xCs xs ++ xC x)) (hg : w1.grownBy w2 lv.ownBlock) : St w0 (w2.setCell ⟨rb, 1, none⟩ v') rb bv v' (xs ++ [x]) := by
  have h1 := h.below hb (Nat.le_refl _)
  have hrt : 36 ≠ 38 := by decide
  have hut : 5 ≠ 36 := by decide
  have hur : 5 ≠ 38 := by decide
  have hrb : lv.ownBlock ≠ some rb := block_apart h1.own h1.rd hrt
  have hrd2 : Bl 38 w2 rb [bv, lv] := by
    have h3 := h1.rd
    unfold Bl at *
    rw [hg.block rb h1.rd.lt (fun e => hrb e.symm)]
    exact h3
  have hk : ∀ (y : X), w1.ownsRow w0.heap.size 5 1 (xD y) y.e.data.length (y.e.data.map B) → (w2.setCell ⟨rb, 1, none⟩ v').ownsRow w0.heap.size 5 1 (xD y) y.e.data.length (y.e.data.map B) := by
    intro y hy
    refine own_keep hy fun g hgy => ?_
    have a1 : lv.ownBlock ≠ some g := kinds_apart hy h1.own hut hgy
    have a2 : (xD y).ownBlock ≠ some rb := block_apart hy h1.rd hur
    rw [heap_setCell_other w2 _ g _ (fun e => a2 (by rw [hgy]; exact congrArg some e))]
    exact hg.block g (hy.lt g hgy).2 (fun e => a1 e.symm)
  refine ⟨?_, h.rbl, ?_, ?_, ?_, ?_, ?_⟩
  · refine Below.setCell (Below.grown h1.bel hg h1.bel.size (own_block h1.own)) ?_ _
    exact h.rbl
  · exact hrd2.set 1 v'
  · have a3 : v'.ownBlock ≠ some rb := block_apart ho hrd2 hrt
    rw [List.length_append, xCs_append]
    have e1 : xCs [x] = xC x := by simp [xCs]
    rw [e1]
    exact own_keep ho fun g hgv => heap_setCell_other w2 _ g _ (fun e => a3 (by rw [hgv]; exact congrArg some e))
  · intro y hy
    rcases List.mem_append.1 hy with hy | hy
    · exact hk y (h1.dat y hy)
    · rw [List.mem_singleton.1 hy]; exact hk x hd
  · rw [List.pairwise_append]
    refine ⟨h.sep, List.pairwise_singleton _ _, ?_⟩
    intro y hy z hz g hgy hgz
    rw [List.mem_singleton.1 hz] at hgz
    have b1 := ((h.dat y hy).lt g hgy).2
    have b2 := hnew g hgz
    omega
  · intro y hy
    rcases List.mem_append.1 hy with hy | hy
    · exact h.num y hy
    · rw [List.mem_singleton.1 hy]; exact hn

theorem xCs_set (xs ys : List X) (x : X) (v : Int) : (xCs (xs ++ x :: ys)).set (xs.length * 3 + 2) (.int .i64 v) = xCs (xs ++ ⟨⟨x.e.tag, x.e.data, v⟩, x.a, x.c⟩ :: ys) := by
  rw [xCs_append, xCs_append, List.set_append_right _ _ (by rw [xCs_length]; omega), xCs_length, Nat.add_sub_cancel_left]
  rfl

theorem xCs_at (xs ys : List X) (x : X) : (xCs (xs ++ x :: ys))[xs.length * 3 + 2]? = some (.int .i64 x.e.kids) := by
  rw [xCs_append, List.getElem?_append_right (by rw [xCs_length]; omega), xCs_length, Nat.add_sub_cancel_left]
  rfl

theorem St.kid {w0 w : World} {rb g cap : Nat} {bv : Value} {xs ys : List X} {x : X} {v : Int} (h : St w0 w rb bv (.slice (some ⟨g, 0, none⟩) (xs ++ x :: ys).length cap) (xs ++ x :: ys)) (hv : 0 ≤ v ∧ v ≤ 65536) :
    St w0 (w.setCell ⟨g, xs.length * 3 + 2, none⟩ (.int .i64 v)) rb bv (.slice (some ⟨g, 0, none⟩) (xs ++ x :: ys).length cap) (xs ++ ⟨⟨x.e.tag, x.e.data, v⟩, x.a, x.c⟩ :: ys) := by
  have hrt : 36 ≠ 38 := by decide
  have hut : 5 ≠ 36 := by decide
  have hs := (h.own.stored (xs.length * 3 + 2) (.int .i64 v))
  rw [xCs_set] at hs
  have hlen : (xs ++ (⟨⟨x.e.tag, x.e.data, v⟩, x.a, x.c⟩ : X) :: ys).length = (xs ++ x :: ys).length := by simp
  have hrb : (Value.slice (some ⟨g, 0, none⟩) (xs ++ x :: ys).length cap).ownBlock ≠ some rb := block_apart h.own h.rd hrt
  have hk : ∀ (y : X), w.ownsRow w0.heap.size 5 1 (xD y) y.e.data.length (y.e.data.map B) → (w.setCell ⟨g, xs.length * 3 + 2, none⟩ (.int .i64 v)).ownsRow w0.heap.size 5 1 (xD y) y.e.data.length (y.e.data.map B) := by
    intro y hy
    refine own_keep hy fun k hky => ?_
    have a1 : (Value.slice (some ⟨g, 0, none⟩) (xs ++ x :: ys).length cap).ownBlock ≠ some k := kinds_apart hy h.own hut hky
    exact heap_setCell_other w _ k _ (fun e => a1 (congrArg some e.symm))
  refine ⟨Below.grown h.bel hs.2 h.bel.size (fun k e => own_block h.own k e), h.rbl, ?_, by rw [hlen]; exact hs.1, ?_, ?_, ?_⟩
  · have h3 := h.rd
    unfold Bl at *
    rw [heap_setCell_other w ⟨g, xs.length * 3 + 2, none⟩ rb _ (fun e => hrb (congrArg some e.symm))]
    exact h3
  · intro y hy
    rcases List.mem_append.1 hy with hy | hy
    · exact hk y (h.dat y (List.mem_append.2 (.inl hy)))
    · rcases List.mem_cons.1 hy with rfl | hy
      · exact hk _ (h.dat x (List.mem_append.2 (.inr (List.mem_cons_self ..))))
      · exact hk y (h.dat y (List.mem_append.2 (.inr (List.mem_cons_of_mem _ hy))))
  · have h4 := h.sep
    rw [List.pairwise_append, List.pairwise_cons] at h4 ⊢
    refine ⟨h4.1, ⟨fun y hy => h4.2.1.1 y hy, h4.2.1.2⟩, ?_⟩
    intro a ha b hb
    rcases List.mem_cons.1 hb with rfl | hb
    · exact h4.2.2 a ha x (List.mem_cons_self ..)
    · exact h4.2.2 a ha b (List.mem_cons_of_mem _ hb)
  · intro y hy
    rcases List.mem_append.1 hy with hy | hy
    · exact h.num y (List.mem_append.2 (.inl hy))
    · rcases List.mem_cons.1 hy with rfl | hy
      · exact hv
      · exact h.num y (List.mem_append.2 (.inr (List.mem_cons_of_mem _ hy)))

/-- A piece of the bytes. -/
def sg (l : List UInt8) (a b : Nat) : List UInt8 := (l.drop a).take (b - a)
theorem sg_length (l : List UInt8) (a b : Nat) (h1 : a ≤ b) (h2 : b ≤ l.length) : (sg l a b).length = b - a := by unfold sg; rw [List.length_take, List.length_drop]; omega
theorem sg_nil (l : List UInt8) (a : Nat) : sg l a a = [] := by unfold sg; simp
theorem sg_drop (l : List UInt8) (a b i : Nat) : (sg l a b).drop i = sg l (a + i) b := by
  unfold sg
  rw [List.drop_take, List.drop_drop]
  congr 1
  omega
theorem sg_sg (l : List UInt8) (a b h wl : Nat) (h1 : h ≤ wl) (h2 : a + wl ≤ b) : inn (sg l a b) h wl = sg l (a + h) (a + wl) := by
  unfold inn
  rw [sg_drop]
  unfold sg
  rw [List.take_take]
  congr 1
  omega
theorem sg_head (l : List UInt8) (a b : Nat) (h1 : a < b) (_h2 : b ≤ l.length) : (sg l a b).getD 0 0 = l.getD a 0 := by
  unfold sg
  rw [List.getD_eq_getElem?_getD, List.getD_eq_getElem?_getD, List.getElem?_take, if_pos (by omega), List.getElem?_drop, Nat.add_zero]

theorem Rd.sg {w : World} {g off : Nat} {l : List UInt8} (h : Rd w (some ⟨g, off, none⟩) l) (a b : Nat) : Rd w (some ⟨g, off + a, none⟩) (sg l a b) := (h.drop a).take _

end Go.Proofs.Ytjncpibhnpoghaa
