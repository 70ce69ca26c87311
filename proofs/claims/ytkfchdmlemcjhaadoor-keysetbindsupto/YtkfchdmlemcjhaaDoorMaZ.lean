import Derived.Test.YtkfchdmlemcjhaaDoorFa
import Derived.Test.YtkfchdmlemcjhaaDoorEZ
import Derived.Test.YtkfchdmlemcjhaaDoorCZ
import Derived.Test.YtkfchdmlemcjhaaDoorOrk
namespace Go.Proofs.YtkfchdmlemcjhaaDoor
open Go.RowKit Go.Shelf

/-- append of nodes that can be read behind a list of one's own. -/
theorem append_nds {wr : World} {ops : Array Oper} {rest : List Oper} {o : Oper} {a : Act} {Q : Exit → Act → World → Prop} (hgd : o.guard = none) (s x : Operand)
    (ho : o.op = .call { callee := .builtin .append, args := #[s, x], argTypes := #[22, 22] })
    (B : Nat) (v : Value) (l : List Nd) (hs : a.eval s = v) (h : NO B wr v l) (ao : Option Addr) (cap : Nat) (m : List Nd) (hx : a.eval x = .slice ao m.length cap) (hR : NR wr (.slice ao m.length cap) m ao cap) (hn : ao = none → cap = 0) (hl : l.length + m.length ≤ 1000000000) (hB : B ≤ wr.heap.size)
    (k : ∀ v' w', NO B w' v' (l ++ m) → wr.grownBy w' v.ownBlock → wpList Tryd.prog ops Q rest (a.put o.dst v') w') : wpList Tryd.prog ops Q (o :: rest) a wr := by
  obtain ⟨i, hi, hz, hsize, hby⟩ := info_parts infoN
  cases ao with
  | none =>
    obtain rfl := hn rfl
    have hm : m = [] := by
      rcases hR.cell with e | ⟨g, off, e, _⟩
      · exact e
      · cases e
    subst hm
    refine wpList_append_own_none hgd s x 22 ho B 36 i 6 Tryd.underlying22 hi v l.length (nCs l) hs h hx ?_
    refine k v wr (by rw [List.append_nil]; exact h) ⟨rfl, rfl, rfl, Nat.le_refl _, fun _ _ _ => rfl⟩
  | some ad =>
    refine wpList_append_own_wide _ hgd s x 22 ho B 36 i (.agg #[.int .i64 0, .string ⟨#[]⟩, .string ⟨#[]⟩, .bool false, .int .i64 0, .int .i64 0]) 6 64 Tryd.underlying22 hi hz hsize hby rfl (by decide) v l.length (nCs l) hs h ad m.length cap (nCs m) hx (nCs_length m) ?_ (nCs_oneC _) (by unfold maxLen; omega) (by omega) hB ?_
    · intro j u hu
      rcases hR.cell with e | ⟨g, off, e, _, hc⟩
      · subst e; simp [nCs] at hu
      · cases e
        rw [Addr.add_mid]
        exact hc j u hu
    · intro v' w' h2 h3 _
      refine k v' w' ?_ h3
      unfold NO
      rw [List.length_append, nCs_append]
      exact h2

theorem bl_rng2 {t : TypeId} {w : World} {b : Nat} {cs : List Value} (h : Bl t w b cs) : w.rangeAt b 0 cs := fun j v hv => by
  obtain ⟨hj, e⟩ := List.getElem?_eq_some_iff.1 hv
  rw [Nat.zero_add, ← e]
  exact h.cell j hj
theorem bl_oth2 {t : TypeId} {w : World} {b b2 o : Nat} {v : Value} {cs : List Value} (h : Bl t w b cs) (hne : b ≠ b2) : Bl t (w.setCell ⟨b2, o, none⟩ v) b cs := by
  unfold Bl at *
  rw [heap_setCell_other w _ b v hne]; exact h
theorem own_set {w : World} {base n size : Nat} {e t : TypeId} {v x : Value} {xs cs : List Value} {b o : Nat} (h : w.ownsRow base e size v n xs) (hb : Bl t w b cs) (hne : e ≠ t) : (w.setCell ⟨b, o, none⟩ x).ownsRow base e size v n xs := by
  have ha := block_apart h hb hne
  exact own_keep h fun g hg => heap_setCell_other w _ g x (fun e => ha (by rw [hg]; exact congrArg some e))
end Go.Proofs.YtkfchdmlemcjhaaDoor

namespace Go.Proofs.YtkfchdmlemcjhaaDoor
open Go.RowKit Go.Shelf

/-- The marks behind the lists. -/
def mkN : Nd := ⟨0, [], [109, 97, 114, 107], false, 0, 0⟩
def mkT : List UInt8 := [109, 97, 114, 107]
theorem own_mono2 {w : World} {b0 b1 n size : Nat} {e : TypeId} {v : Value} {xs : List Value} (h : w.ownsRow b1 e size v n xs) (hb : b0 ≤ b1) : w.ownsRow b0 e size v n xs :=
  ⟨h.1, h.2.elim .inl fun ⟨g, cap, cur, e, hg, r⟩ => .inr ⟨g, cap, cur, e, Nat.le_trans hb hg, r⟩⟩
theorem bl_grown' {t : TypeId} {w w' : World} {b : Nat} {cs : List Value} {row : Option Nat} (h : Bl t w b cs) (hg : w.grownBy w' row) (hne : row ≠ some b) : Bl t w' b cs := by
  have := h.lt
  unfold Bl at *
  rw [hg.block b this (fun e => hne e.symm)]; exact h

end Go.Proofs.YtkfchdmlemcjhaaDoor

namespace Go.Proofs.YtkfchdmlemcjhaaDoor
open Go.RowKit Go.Shelf

theorem nr_pre {B : Nat} {w : World} {g n cap : Nat} {l M : List Nd} (h : NO B w (.slice (some ⟨g, 0, none⟩) n cap) (l ++ M)) : NR w (.slice (some ⟨g, 0, none⟩) l.length cap) l (some ⟨g, 0, none⟩) cap := by
  obtain ⟨a, c, e, hc, _⟩ := own_slice h
  cases e
  have hlt := (h.lt g rfl).2
  rw [List.length_append] at hc
  refine ⟨rfl, by omega, .inr ⟨g, 0, rfl, hlt, fun j u hu => ?_⟩⟩
  rw [Nat.zero_add]
  unfold NO at h
  refine (own_cell h j u ?_).1
  rw [nCs_append, List.getElem?_append_left (List.getElem?_eq_some_iff.1 hu).1]
  exact hu
theorem tr_pre {B : Nat} {w : World} {g n cap : Nat} {l M : List (List UInt8)} (h : OT B w (.slice (some ⟨g, 0, none⟩) n cap) (l ++ M)) : TR w (.slice (some ⟨g, 0, none⟩) l.length cap) l (some ⟨g, 0, none⟩) cap := by
  obtain ⟨a, c, e, hc, _⟩ := own_slice h
  cases e
  have hlt := (h.lt g rfl).2
  rw [List.length_append] at hc
  refine ⟨rfl, by omega, .inr ⟨g, 0, rfl, hlt, fun j hj => ?_⟩⟩
  rw [Nat.zero_add]
  unfold OT at h
  refine (own_cell h j _ ?_).1
  rw [List.map_append, List.getElem?_append_left (by simpa using hj), List.getElem?_map, List.getElem?_eq_getElem hj, List.getD_eq_getElem?_getD, List.getElem?_eq_getElem hj]
  rfl
theorem no_mark {B : Nat} {w : World} {g n cap : Nat} {l : List Nd} (h : NO B w (.slice (some ⟨g, 0, none⟩) n cap) (l ++ [mkN, mkN])) (i : Nat) (hi : i < 2) : w.rangeAt g ((l.length + i) * 6) [.int .i64 0, .string ⟨#[]⟩, .string ⟨#[109, 97, 114, 107]⟩, .bool false, .int .i64 0, .int .i64 0] := fun j u hu => by
  obtain ⟨hj, e⟩ := List.getElem?_eq_some_iff.1 hu
  unfold NO at h
  obtain ⟨a, c, e2, _, _⟩ := own_slice h
  cases e2
  refine (own_cell h ((l.length + i) * 6 + j) u ?_).1
  rw [nCs_append, List.getElem?_append_right (by rw [nCs_length]; omega), nCs_length, show (l.length + i) * 6 + j - l.length * 6 = i * 6 + j by omega]
  have hj6 : j < 6 := hj
  have : i = 0 ∨ i = 1 := by omega
  rcases this with rfl | rfl
  · rw [Nat.zero_mul, Nat.zero_add]
    show (([.int .i64 0, .string ⟨#[]⟩, .string ⟨#[109, 97, 114, 107]⟩, .bool false, .int .i64 0, .int .i64 0] : List Value) ++ nCs [mkN])[j]? = _
    rw [List.getElem?_append_left hj]; exact hu
  · show (([.int .i64 0, .string ⟨#[]⟩, .string ⟨#[109, 97, 114, 107]⟩, .bool false, .int .i64 0, .int .i64 0] : List Value) ++ (([.int .i64 0, .string ⟨#[]⟩, .string ⟨#[109, 97, 114, 107]⟩, .bool false, .int .i64 0, .int .i64 0] : List Value) ++ []))[1 * 6 + j]? = _
    rw [List.getElem?_append_right (by simp), List.getElem?_append_left (by simpa using hj)]
    simp only [List.length_cons, List.length_nil]
    rw [show 1 * 6 + j - (0 + 1 + 1 + 1 + 1 + 1 + 1) = j by omega]
    exact hu
theorem ot_mark {B : Nat} {w : World} {g n cap : Nat} {l : List (List UInt8)} (h : OT B w (.slice (some ⟨g, 0, none⟩) n cap) (l ++ [mkT, mkT])) (i : Nat) (hi : i < 2) : w.cell? ⟨g, l.length + i, none⟩ = some (.string ⟨#[109, 97, 114, 107]⟩) := by
  unfold OT at h
  obtain ⟨a, c, e2, _, _⟩ := own_slice h
  cases e2
  refine (own_cell h (l.length + i) _ ?_).1
  rw [List.map_append, List.getElem?_append_right (by simp), List.length_map, show l.length + i - l.length = i by omega]
  have : i = 0 ∨ i = 1 := by omega
  rcases this with rfl | rfl <;> rfl

end Go.Proofs.YtkfchdmlemcjhaaDoor
