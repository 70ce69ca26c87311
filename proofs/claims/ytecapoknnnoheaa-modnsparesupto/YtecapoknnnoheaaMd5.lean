import Derived.Test.YtecapoknnnoheaaMd4
namespace Go.Proofs.Ytecapoknnnoheaa
open Go.RowKit

theorem St.but {w w' : World} {b : Nat} {m l x d y : Value} (h : St w b m l x d y) (hb : Below w.heap.size w w') : St w' b m l x d y := St.below h hb (Cl.lt h)

/-- A number in a row of the call's own, which is not the search's block. -/
def Rw (w : World) (base b : Nat) (v : Value) (V : Nat) : Prop := Ow w base v (dg Bs V) ∧ (dg Bs V).length ≤ 3000000 ∧ ∀ g n c, v = .slice (some ⟨g, 0, none⟩) n c → g ≠ b
theorem Rw.nu {w : World} {base b : Nat} {v : Value} {V : Nat} (h : Rw w base b v V) : Nu w v V := h.1.vl h.2.1
theorem Rw.below {w w' : World} {base b n : Nat} {v : Value} {V : Nat} (h : Rw w base b v V) (hb : Below n w w') (hn : w.heap.size ≤ n) : Rw w' base b v V := ⟨h.1.below hb hn, h.2⟩
theorem Rw.drewN {w : World} {base b : Nat} {v : Value} {V : Nat} (h : Rw w base b v V) (q : Nat) : Rw (w.drewN q) base b v V := h
theorem Rw.but {w w' : World} {base b : Nat} {v : Value} {V : Nat} (h : Rw w base b v V) (hb : But w w' b) : Rw w' base b v V := by
  refine ⟨⟨h.1.1, ?_⟩, h.2⟩
  rcases h.1.2 with h1 | ⟨g, cap, cur, e, hg, hh, hr⟩
  · exact .inl h1
  · exact .inr ⟨g, cap, cur, e, hg, by rw [hb.block g (Array.getElem?_eq_some_iff.1 hh).1 (h.2.2 g _ _ e)]; exact hh, hr⟩
theorem Rw.of {w w' : World} {base b : Nat} {v : Value} {V : Nat} (h : Re w w' v V) (hbase : base ≤ w.heap.size) (hb : b < w.heap.size) : Rw w' base b v V := by
  refine ⟨h.1.base hbase, h.2.1, fun g n c e => ?_⟩
  rcases h.1.2 with ⟨h1, _⟩ | ⟨g', cap, cur, e', hg, _⟩
  · rw [h1] at e; cases e
  · rw [e'] at e; cases e; omega
theorem Rw.sl {w : World} {base b : Nat} {v : Value} {V : Nat} (h : Rw w base b v V) : Sl v := h.nu.shape

/-- The search's state: the numbers m, left, leftFactor, divisor, factor. -/
def Sch (w : World) (base b M L X D Y : Nat) : Prop := ∃ m l x d y, St w b m l x d y ∧ Rw w base b m M ∧ Rw w base b l L ∧ Rw w base b x X ∧ Rw w base b d D ∧ Rw w base b y Y

theorem sdone (base b M L X D Y : Nat) (w : World) (h : Sch w base b M L X D Y) :
    Calls Try.prog 46 #[.pointer (some ⟨b, 0, none⟩)] w fun e w' => e = .returned (.bool (decide (L = 0))) ∧ w' = w := by
  obtain ⟨m, l, x, d, y, hs, hm, hl, hx, hd, hy⟩ := h
  exact done_v b m l x d y L w hs hl.nu
theorem sswap (base b M L X D Y : Nat) (w : World) (h : Sch w base b M L X D Y) :
    Calls Try.prog 67 #[.pointer (some ⟨b, 0, none⟩)] w fun e w' => e = .returned (.tuple #[]) ∧ Sch w' base b M D Y L X ∧ But w w' b := by
  obtain ⟨m, l, x, d, y, hs, hm, hl, hx, hd, hy⟩ := h
  refine (swap_v b m l x d y w hs hl.sl hx.sl hd.sl hy.sl).mono ?_
  rintro e w' ⟨rfl, hs', hb, _⟩
  exact ⟨rfl, ⟨m, d, y, l, x, hs', hm.but hb, hd.but hb, hy.but hb, hl.but hb, hx.but hb⟩, hb⟩

end Go.Proofs.Ytecapoknnnoheaa
