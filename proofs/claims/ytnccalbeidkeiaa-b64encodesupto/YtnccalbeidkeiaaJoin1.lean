import Derived.Test.YtnccalbeidkeiaaAwake
import Derived.Test.YtnccalbeidkeiaaBack1
import Derived.Laws.AppendOwnNone
namespace Go.Proofs.Ytnccalbeidkeiaa
open Go.RowKit

/-- A slice's value over a row of its own: it can be read. -/
theorem own_rd {w : World} {base n : Nat} {v : Value} {l : List UInt8} (h : w.ownsRow base 5 1 v n (l.map B)) : ∃ ao cap, v = .slice ao n cap ∧ n = l.length ∧ n ≤ cap ∧ Rd w ao l := by
  have hl : l.length = n := by have := h.1; simpa using this
  rcases h.2 with ⟨rfl, rfl⟩ | ⟨g, cap, cur, rfl, hg, hh, hn, hc, hs, ht⟩
  · exact ⟨none, 0, rfl, hl.symm, Nat.le_refl _, .inl (List.eq_nil_of_length_eq_zero hl)⟩
  · refine ⟨_, cap, rfl, hl.symm, hn, ?_⟩
    subst hl
    exact (Rd.ofOwn h).1

/-- append of bytes that can be read, nil ones too, behind a row of one's own. -/
theorem append_rd {w : World} {ops : Array Oper} {rest : List Oper} {o : Oper} {a : Act} {Q : Exit → Act → World → Prop} (hgd : o.guard = none) (s x : Operand)
    (ho : o.op = .call { callee := .builtin .append, args := #[s, x], argTypes := #[22, 22] })
    (base : Nat) (i : TypeInfo) (hi : Try.prog.info? 5 = some i) (hz : i.zero = some (.int .u8 0)) (hsize : i.size = 1) (hby : i.bytes = 1)
    (v : Value) (n : Nat) (xs : List UInt8) (hs : a.eval s = v) (hown : w.ownsRow base 5 1 v n (xs.map B))
    (ao : Option Addr) (m c : Nat) (l : List UInt8) (hx : a.eval x = .slice ao m c) (hl : l.length = m) (hao : ao = none → m = 0 ∧ c = 0) (hrd : Rd w ao l)
    (hbytes : n + m ≤ 140737488355328) (hbase : base ≤ w.heap.size)
    (h : ∀ v' w', w'.ownsRow base 5 1 v' (n + m) ((xs ++ l).map B) → w.grownBy w' v.ownBlock → wpList Try.prog ops Q rest (a.put o.dst v') w') : wpList Try.prog ops Q (o :: rest) a w := by
  cases ao with
  | none =>
    obtain ⟨rfl, rfl⟩ := hao rfl
    obtain rfl := List.eq_nil_of_length_eq_zero hl
    refine wpList_append_own_none hgd s x 22 ho base 5 i 1 Try.underlying22 hi v n (xs.map B) hs hown hx ?_
    exact h v w (by simpa using hown) (World.grownBy.refl _ _)
  | some ad =>
    refine wpList_append_own w hgd s x 22 ho base 5 i (.int .u8 0) 1 1 Try.underlying22 hi hz hsize hby rfl (by decide) v n (xs.map B) hs hown ad m c (l.map B) hx (by simpa using hl) ?_ (oneB l) (by unfold maxLen; omega) (by omega) hbase ?_
    · intro j u hu
      rcases hrd with h0 | ⟨b, off, e, hb, hc⟩
      · subst h0; simp at hu
      · cases e
        have hj : j < l.length := by
          have := (List.getElem?_eq_some_iff.1 hu).1
          simpa using this
        rw [Addr.add_lit, hc j hj]
        simp [List.getElem?_map, List.getElem?_eq_getElem hj] at hu
        rw [← hu, List.getD_eq_getElem?_getD, List.getElem?_eq_getElem hj, Option.getD_some]
    · intro v' w' h1 h2 _
      exact h v' w' (by rw [List.map_append]; exact h1) h2

/-- Whole groups side by side. -/
theorem enc_app (row : ByteArray) : ∀ (n : Nat) (a b : List UInt8), a.length ≤ n → a.length % 3 = 0 → enc row (a ++ b) = enc row a ++ enc row b
  | n, [], b, _, _ => by simp [enc]
  | n, [x], b, _, h => by simp at h
  | n, [x, y], b, _, h => by simp at h
  | 0, x :: y :: z :: r, b, hn, h => by simp at hn
  | n + 1, x :: y :: z :: r, b, hn, h => by
    simp only [List.length_cons] at hn h
    show enc row (x :: y :: z :: (r ++ b)) = _
    rw [enc_cons3, enc_cons3, enc_app row n r b (by omega) (by omega), List.append_assoc]

theorem fill_app (a b : List UInt8) (h : a.length % 3 = 0) : fill (a ++ b).length = fill b.length ∧ fill a.length = [] := by
  constructor
  · unfold fill
    rw [List.length_append, show (a.length + b.length) % 3 = b.length % 3 by omega]
  · simp [fill, h]

end Go.Proofs.Ytnccalbeidkeiaa
