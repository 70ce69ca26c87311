import Derived.Test.YtkaoobdemaahbaaShape
import Derived.Test.YtkaoobdemaahbaaMeas
import Derived.Test.YtkaoobdemaahbaaOrk
namespace Go.Proofs.Ytkaoobdemaahbaa
open Go.RowKit

def xC (x : X) : List Value := [.int .i64 x.e.tag, xD x, .int .i64 x.e.kids]
def xCs (xs : List X) : List Value := xs.flatMap xC
theorem xCs_length (xs : List X) : (xCs xs).length = xs.length * 3 := by
  induction xs with
  | nil => rfl
  | cons x r ih => unfold xCs at *; simp [List.flatMap_cons, xC, ih]; omega
theorem xCs_append (xs ys : List X) : xCs (xs ++ ys) = xCs xs ++ xCs ys := by simp [xCs]

theorem own_type {w : World} {base n size : Nat} {e : TypeId} {v : Value} {xs : List Value} (h : w.ownsRow base e size v n xs) {g : Nat} (hg : v.ownBlock = some g) : ∃ cur, w.heap[g]? = some (.cells cur e (0, 0)) := by
  rcases h.2 with ⟨h', _⟩ | ⟨g', cap', cur, h', _, hg', _⟩
  · subst h'; simp [Value.ownBlock] at hg
  · subst h'
    simp only [Value.ownBlock, Option.some.injEq] at hg
    subst hg
    exact ⟨cur, hg'⟩

theorem own_keep {w w' : World} {base n size : Nat} {e : TypeId} {v : Value} {xs : List Value} (h : w.ownsRow base e size v n xs) (hk : ∀ g, v.ownBlock = some g → w'.heap[g]? = w.heap[g]?) : w'.ownsRow base e size v n xs := by
  refine ⟨h.1, ?_⟩
  rcases h.2 with h' | ⟨g', cap', cur, h', h1, hg', h2⟩
  · exact .inl h'
  · exact .inr ⟨g', cap', cur, h', h1, by rw [hk g' (by rw [h']; rfl)]; exact hg', h2⟩

theorem own_below {w w' : World} {base n size k : Nat} {e : TypeId} {v : Value} {xs : List Value} (h : w.ownsRow base e size v n xs) (hb : Below k w w') (hk : w.heap.size ≤ k) : w'.ownsRow base e size v n xs :=
  own_keep h fun g hg => hb.block g (Nat.lt_of_lt_of_le (h.lt g hg).2 hk)

theorem kinds_apart {w : World} {b1 b2 n1 n2 s1 s2 : Nat} {e1 e2 : TypeId} {v1 v2 : Value} {xs ys : List Value} (h1 : w.ownsRow b1 e1 s1 v1 n1 xs) (h2 : w.ownsRow b2 e2 s2 v2 n2 ys) (hne : e1 ≠ e2) {g : Nat} (hg : v1.ownBlock = some g) : v2.ownBlock ≠ some g := by
  intro hg2
  obtain ⟨c1, e1'⟩ := own_type h1 hg
  obtain ⟨c2, e2'⟩ := own_type h2 hg2
  rw [e1'] at e2'
  simp only [Option.some.injEq, Obj.cells.injEq] at e2'
  exact hne e2'.2.1
theorem block_apart {w : World} {b1 n1 s1 : Nat} {e1 t : TypeId} {v1 : Value} {xs vs : List Value} {b : Nat} (h1 : w.ownsRow b1 e1 s1 v1 n1 xs) (h2 : Bl t w b vs) (hne : e1 ≠ t) : v1.ownBlock ≠ some b := by
  intro hg
  obtain ⟨c1, e1'⟩ := own_type h1 hg
  unfold Bl at h2
  rw [e1'] at h2
  simp only [Option.some.injEq, Obj.cells.injEq] at h2
  exact hne h2.2.1

theorem xCs_set (xs ys : List X) (x : X) (v : Int) : (xCs (xs ++ x :: ys)).set (xs.length * 3 + 2) (.int .i64 v) = xCs (xs ++ ⟨⟨x.e.tag, x.e.data, v⟩, x.a, x.c⟩ :: ys) := by
  rw [xCs_append, xCs_append, List.set_append_right _ _ (by rw [xCs_length]; omega), xCs_length, Nat.add_sub_cancel_left]
  rfl

theorem xCs_at (xs ys : List X) (x : X) : (xCs (xs ++ x :: ys))[xs.length * 3 + 2]? = some (.int .i64 x.e.kids) := by
  rw [xCs_append, List.getElem?_append_right (by rw [xCs_length]; omega), xCs_length, Nat.add_sub_cancel_left]
  rfl

/-- A piece of the bytes. -/
def sg (l : List UInt8) (a b : Nat) : List UInt8 := (l.drop a).take (b - a)
theorem sg_length (l : List UInt8) (a b : Nat) (h1 : a ≤ b) (h2 : b ≤ l.length) : (sg l a b).length = b - a := by unfold sg; rw [List.length_take, List.length_drop]; omega
theorem sg_nil (l : List UInt8) (a : Nat) : sg l a a = [] := by unfold sg; simp
theorem sg_drop (l : List UInt8) (a b i : Nat) : (sg l a b).drop i = sg l (a + i) b := by
  unfold sg
  rw [List.drop_take, List.drop_drop]
  congr 1
  omega
theorem sg_sg (l : List UInt8) (a b h wl : Nat) (h1 : h ≤ wl) (h2 : a + wl ≤ b) : inn (sg l a b) h wl = sg l (a + h) (a + wl) := by
  unfold inn
  rw [sg_drop]
  unfold sg
  rw [List.take_take]
  congr 1
  omega
theorem sg_head (l : List UInt8) (a b : Nat) (h1 : a < b) (_h2 : b ≤ l.length) : (sg l a b).getD 0 0 = l.getD a 0 := by
  unfold sg
  rw [List.getD_eq_getElem?_getD, List.getD_eq_getElem?_getD, List.getElem?_take, if_pos (by omega), List.getElem?_drop, Nat.add_zero]

theorem Rd.sg {w : World} {g off : Nat} {l : List UInt8} (h : Rd w (some ⟨g, off, none⟩) l) (a b : Nat) : Rd w (some ⟨g, off + a, none⟩) (sg l a b) := (h.drop a).take _

end Go.Proofs.Ytkaoobdemaahbaa
