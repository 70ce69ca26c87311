import Derived.Test.YtkfchdmlemcjhaaDoorDcRefB
import Derived.Test.YtkfchdmlemcjhaaDoorDcRead
namespace Go.Proofs.YtkfchdmlemcjhaaDoor.Dec
open Go.RowKit

theorem RBox.grown {W W' : World} {b : Nat} {m p pl : Bool} {s1 s2 : Value} {o : Int} {t : List UInt8} {row : Option Nat} (h : RBox W b m s1 o p s2 pl t) (hg : W.grownBy W' row) (hne : some b ≠ row) : RBox W' b m s1 o p s2 pl t :=
  h.same hg.size (hg.block b h.lt hne)

theorem RBox.setOther {W : World} {b : Nat} {m p pl : Bool} {s1 s2 : Value} {o : Int} {t : List UInt8} (h : RBox W b m s1 o p s2 pl t) {a : Addr} (hne : b ≠ a.block) (v : Value) : RBox (W.setCell a v) b m s1 o p s2 pl t := by
  refine h.same ?_ (Below.heap_setCell W a v b hne)
  have := (Below.refl 0 W).setCell (p := a) (Nat.zero_le _) v
  exact this.size

theorem size_set (W : World) (a : Addr) (v : Value) : W.heap.size ≤ (W.setCell a v).heap.size := ((Below.refl 0 W).setCell (p := a) (Nat.zero_le _) v).size

theorem cell_ne (W : World) (b i j : Nat) (h : i ≠ j) (v : Value) : (W.setCell ⟨b, i, none⟩ v).cell? ⟨b, j, none⟩ = W.cell? ⟨b, j, none⟩ :=
  World.cell?_setCell_other W _ _ v (fun e => h (by injection e))

theorem RBox.set1 {W : World} {b : Nat} {m p pl : Bool} {s1 s2 : Value} {o : Int} {t : List UInt8} (h : RBox W b m s1 o p s2 pl t) (v : Value) : RBox (W.setCell ⟨b, 1, none⟩ v) b m v o p s2 pl t :=
  ⟨(cell_ne W b 1 0 (by decide) v).trans h.c0, World.cell?_setCell_same W _ v h.c1, (cell_ne W b 1 2 (by decide) v).trans h.c2, (cell_ne W b 1 3 (by decide) v).trans h.c3, (cell_ne W b 1 4 (by decide) v).trans h.c4, (cell_ne W b 1 5 (by decide) v).trans h.c5, (cell_ne W b 1 6 (by decide) v).trans h.c6,
    (World.frozen?_setCell W _ _ v).trans h.f0, (World.frozen?_setCell W _ _ v).trans h.f1, (World.frozen?_setCell W _ _ v).trans h.f2, (World.frozen?_setCell W _ _ v).trans h.f3, (World.frozen?_setCell W _ _ v).trans h.f4, (World.frozen?_setCell W _ _ v).trans h.f5, (World.frozen?_setCell W _ _ v).trans h.f6, Nat.lt_of_lt_of_le h.lt (size_set _ _ _)⟩
theorem RBox.set2 {W : World} {b : Nat} {m p pl : Bool} {s1 s2 : Value} {o : Int} {t : List UInt8} (h : RBox W b m s1 o p s2 pl t) (x : Int) : RBox (W.setCell ⟨b, 2, none⟩ (.int .i64 x)) b m s1 x p s2 pl t :=
  ⟨(cell_ne W b 2 0 (by decide) _).trans h.c0, (cell_ne W b 2 1 (by decide) _).trans h.c1, World.cell?_setCell_same W _ _ h.c2, (cell_ne W b 2 3 (by decide) _).trans h.c3, (cell_ne W b 2 4 (by decide) _).trans h.c4, (cell_ne W b 2 5 (by decide) _).trans h.c5, (cell_ne W b 2 6 (by decide) _).trans h.c6,
    (World.frozen?_setCell W _ _ _).trans h.f0, (World.frozen?_setCell W _ _ _).trans h.f1, (World.frozen?_setCell W _ _ _).trans h.f2, (World.frozen?_setCell W _ _ _).trans h.f3, (World.frozen?_setCell W _ _ _).trans h.f4, (World.frozen?_setCell W _ _ _).trans h.f5, (World.frozen?_setCell W _ _ _).trans h.f6, Nat.lt_of_lt_of_le h.lt (size_set _ _ _)⟩
theorem RBox.set4 {W : World} {b : Nat} {m p pl : Bool} {s1 s2 : Value} {o : Int} {t : List UInt8} (h : RBox W b m s1 o p s2 pl t) (v : Value) : RBox (W.setCell ⟨b, 4, none⟩ v) b m s1 o p v pl t :=
  ⟨(cell_ne W b 4 0 (by decide) v).trans h.c0, (cell_ne W b 4 1 (by decide) v).trans h.c1, (cell_ne W b 4 2 (by decide) v).trans h.c2, (cell_ne W b 4 3 (by decide) v).trans h.c3, World.cell?_setCell_same W _ v h.c4, (cell_ne W b 4 5 (by decide) v).trans h.c5, (cell_ne W b 4 6 (by decide) v).trans h.c6,
    (World.frozen?_setCell W _ _ v).trans h.f0, (World.frozen?_setCell W _ _ v).trans h.f1, (World.frozen?_setCell W _ _ v).trans h.f2, (World.frozen?_setCell W _ _ v).trans h.f3, (World.frozen?_setCell W _ _ v).trans h.f4, (World.frozen?_setCell W _ _ v).trans h.f5, (World.frozen?_setCell W _ _ v).trans h.f6, Nat.lt_of_lt_of_le h.lt (size_set _ _ _)⟩

theorem owns_shape {w : World} {base e n : Nat} {v : Value} {xs : List Value} (h : w.ownsRow base e 1 v n xs) : ∃ ao cap, v = .slice ao n cap ∧ n ≤ cap ∧ cap ≤ maxLen := by
  rcases h.2 with ⟨rfl, rfl⟩ | ⟨g, cap, cur, rfl, _, _, h1, h2, _⟩
  · exact ⟨none, 0, rfl, Nat.le_refl _, Nat.zero_le _⟩
  · exact ⟨_, cap, rfl, h1, h2⟩

theorem owns_base {w : World} {base base' e n : Nat} {v : Value} {xs : List Value} (h : w.ownsRow base e 1 v n xs) (hb : base' ≤ base) : w.ownsRow base' e 1 v n xs := by
  refine ⟨h.1, ?_⟩
  rcases h.2 with hn | ⟨g, cap, cur, e1, hg, rest⟩
  · exact .inl hn
  · exact .inr ⟨g, cap, cur, e1, Nat.le_trans hb hg, rest⟩

/-- The row of an append: it is none of the blocks below. -/
theorem row_ne {w : World} {base e n b : Nat} {v : Value} {xs : List Value} (h : w.ownsRow base e 1 v n xs) (hb : b < base) : some b ≠ v.ownBlock := by
  intro e1
  have := (h.lt b e1.symm).1
  omega

theorem owns_less {w : World} {base e n cap : Nat} {ao : Option Addr} {xs : List Value} {x : Value} (h : w.ownsRow base e 1 (.slice ao (n + 1) cap) (n + 1) (xs ++ [x])) : w.ownsRow base e 1 (.slice ao n cap) n xs := by
  have hl := h.1
  rw [List.length_append] at hl
  simp at hl
  refine ⟨by omega, ?_⟩
  rcases h.2 with ⟨h1, h2⟩ | ⟨g, cap', cur, e1, hb, hg, h1, h2, h3, h4⟩
  · cases h2
  · cases e1
    refine .inr ⟨g, cap, cur, rfl, hb, hg, by omega, h2, h3, ?_⟩
    have h5 : (cur.toList.take ((n + 1) * 1)).take (n * 1) = (xs ++ [x]).take (n * 1) := by rw [h4]
    rw [List.take_take, Nat.min_eq_left (by omega)] at h5
    rw [h5, List.take_append_of_le_length (by omega), List.take_of_length_le (by omega)]

theorem owns_some {w : World} {base e n cap : Nat} {ao : Option Addr} {xs : List Value} (h : w.ownsRow base e 1 (.slice ao n cap) n xs) (hn : 0 < n) : ∃ gb, ao = some ⟨gb, 0, none⟩ ∧ base ≤ gb ∧ gb < w.heap.size ∧ ∀ j u, xs[j]? = some u → w.cell? ⟨gb, j, none⟩ = some u := by
  rcases h.2 with ⟨_, h2⟩ | ⟨g, cap', cur, e1, hb, hg, _⟩
  · omega
  · cases e1
    refine ⟨g, rfl, hb, (h.lt g rfl).2, fun j u hu => ?_⟩
    have := h.cells (g := g) rfl j u hu
    have e : (⟨g, 0, none⟩ : Addr).add j = ⟨g, j, none⟩ := by simp [Addr.add]; exact fun h => h.symm
    rw [e] at this
    exact this

theorem isD_rng {c : UInt8} (h : isD c = true) : 48 ≤ c.toNat ∧ c.toNat ≤ 57 := by
  unfold isD at h; simp at h; exact h

theorem tl_snoc (a : List UInt8) (c : UInt8) : tl (a ++ [c]) = if tl a = [] ∧ c = 48 then [] else tl a ++ [c] := by
  unfold tl
  induction a with
  | nil =>
    show List.dropWhile _ [c] = _
    rw [List.dropWhile_cons]
    by_cases h : c = 48 <;> simp [h]
  | cons x y ih =>
    rw [List.cons_append, List.dropWhile_cons, List.dropWhile_cons]
    by_cases h : (x == 48) = true
    · rw [if_pos h, if_pos h]; exact ih
    · rw [if_neg h, if_neg h]; simp

end Go.Proofs.YtkfchdmlemcjhaaDoor.Dec