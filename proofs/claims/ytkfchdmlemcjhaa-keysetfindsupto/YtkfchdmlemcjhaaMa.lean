import Derived.Test.YtkfchdmlemcjhaaFa
import Derived.Test.YtkfchdmlemcjhaaEZ
import Derived.Test.YtkfchdmlemcjhaaCZ
namespace Go.Proofs.Ytkfchdmlemcjhaa
open Go.RowKit Go.Shelf

/-- append of nodes that can be read behind a list of one's own. -/
theorem append_nds {wr : World} {ops : Array Oper} {rest : List Oper} {o : Oper} {a : Act} {Q : Exit → Act → World → Prop} (hgd : o.guard = none) (s x : Operand)
    (ho : o.op = .call { callee := .builtin .append, args := #[s, x], argTypes := #[24, 24] })
    (B : Nat) (v : Value) (l : List Nd) (hs : a.eval s = v) (h : NO B wr v l) (ao : Option Addr) (cap : Nat) (m : List Nd) (hx : a.eval x = .slice ao m.length cap) (hR : NR wr (.slice ao m.length cap) m ao cap) (hn : ao = none → cap = 0) (hl : l.length + m.length ≤ 1000000000) (hB : B ≤ wr.heap.size)
    (k : ∀ v' w', NO B w' v' (l ++ m) → wr.grownBy w' v.ownBlock → wpList Try.prog ops Q rest (a.put o.dst v') w') : wpList Try.prog ops Q (o :: rest) a wr := by
  obtain ⟨i, hi, hz, hsize, hby⟩ := info_parts infoN
  cases ao with
  | none =>
    obtain rfl := hn rfl
    have hm : m = [] := by
      rcases hR.cell with e | ⟨g, off, e, _⟩
      · exact e
      · cases e
    subst hm
    refine wpList_append_own_none hgd s x 24 ho B 37 i 6 Try.underlying24 hi v l.length (nCs l) hs h hx ?_
    refine k v wr (by rw [List.append_nil]; exact h) ⟨rfl, rfl, rfl, Nat.le_refl _, fun _ _ _ => rfl⟩
  | some ad =>
    refine wpList_append_own_wide _ hgd s x 24 ho B 37 i (.agg #[.int .i64 0, .string ⟨#[]⟩, .string ⟨#[]⟩, .bool false, .int .i64 0, .int .i64 0]) 6 64 Try.underlying24 hi hz hsize hby rfl (by decide) v l.length (nCs l) hs h ad m.length cap (nCs m) hx (nCs_length m) ?_ (nCs_oneC _) (by unfold maxLen; omega) (by omega) hB ?_
    · intro j u hu
      rcases hR.cell with e | ⟨g, off, e, _, hc⟩
      · subst e; simp [nCs] at hu
      · cases e
        rw [Addr.add_mid]
        exact hc j u hu
    · intro v' w' h2 h3 _
      refine k v' w' ?_ h3
      unfold NO
      rw [List.length_append, nCs_append]
      exact h2

theorem bl_rng2 {t : TypeId} {w : World} {b : Nat} {cs : List Value} (h : Bl t w b cs) : w.rangeAt b 0 cs := fun j v hv => by
  obtain ⟨hj, e⟩ := List.getElem?_eq_some_iff.1 hv
  rw [Nat.zero_add, ← e]
  exact h.cell j hj
theorem bl_oth2 {t : TypeId} {w : World} {b b2 o : Nat} {v : Value} {cs : List Value} (h : Bl t w b cs) (hne : b ≠ b2) : Bl t (w.setCell ⟨b2, o, none⟩ v) b cs := by
  unfold Bl at *
  rw [heap_setCell_other w _ b v hne]; exact h
theorem own_set {w : World} {base n size : Nat} {e t : TypeId} {v x : Value} {xs cs : List Value} {b o : Nat} (h : w.ownsRow base e size v n xs) (hb : Bl t w b cs) (hne : e ≠ t) : (w.setCell ⟨b, o, none⟩ x).ownsRow base e size v n xs := by
  have ha := block_apart h hb hne
  exact own_keep h fun g hg => heap_setCell_other w _ g x (fun e => ha (by rw [hg]; exact congrArg some e))
theorem own_setr {w : World} {base n size : Nat} {e t : TypeId} {v : Value} {xs cs : List Value} {b : Nat} {x : Array Value} (h : w.ownsRow base e size v n xs) (hb : Bl t w b cs) (hne : e ≠ t) : (w.setRow b x).ownsRow base e size v n xs := by
  have ha := block_apart h hb hne
  exact own_keep h fun g hg => setRow_other _ _ _ _ (fun e => ha (by rw [hg]; exact congrArg some e))

end Go.Proofs.Ytkfchdmlemcjhaa
