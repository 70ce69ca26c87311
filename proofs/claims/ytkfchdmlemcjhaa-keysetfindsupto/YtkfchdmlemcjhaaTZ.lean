import Derived.Test.YtkfchdmlemcjhaaSV
import Derived.Test.YtkfchdmlemcjhaaJZ
namespace Go.Proofs.Ytkfchdmlemcjhaa
open Go.RowKit Go.Shelf

/-- Nodes that can be read. -/
structure NR (w : World) (v : Value) (l : List Nd) (ao : Option Addr) (cap : Nat) : Prop where
  val : v = .slice ao l.length cap
  cap : l.length ≤ cap
  cell : l = [] ∨ ∃ g off : Nat, ao = some ⟨g, off, none⟩ ∧ g < w.heap.size ∧ ∀ j u, (nCs l)[j]? = some u → w.cell? ⟨g, off + j, none⟩ = some u
theorem NR.at {w : World} {v : Value} {l : List Nd} {ao : Option Addr} {cap : Nat} (h : NR w v l ao cap) {i : Nat} (hi : i < l.length) : ∃ g off : Nat, ao = some ⟨g, off, none⟩ ∧ ∀ j u, j < 6 → (nC (l.getD i (nd0 0)))[j]? = some u → w.cell? ⟨g, off + i * 6 + j, none⟩ = some u := by
  rcases h.cell with h0 | ⟨g, off, e, _, hc⟩
  · subst h0; simp at hi
  · refine ⟨g, off, e, fun j u hj hu => ?_⟩
    rw [Nat.add_assoc]
    exact hc (i * 6 + j) u (by rw [nCs_at l i j hi hj]; exact hu)
theorem NR.below {w w' : World} {v : Value} {l : List Nd} {ao : Option Addr} {cap n : Nat} (h : NR w v l ao cap) (hb : Below n w w') (hn : w.heap.size ≤ n) : NR w' v l ao cap := by
  refine ⟨h.val, h.cap, ?_⟩
  rcases h.cell with h0 | ⟨g, off, e, hg, hc⟩
  · exact .inl h0
  · exact .inr ⟨g, off, e, Nat.lt_of_lt_of_le hg hb.size, fun j u hu => cell_but (hc j u hu) fun _ => hb.block g (by omega)⟩
theorem NR.drewN {w : World} {v : Value} {l : List Nd} {ao : Option Addr} {cap : Nat} (h : NR w v l ao cap) (n : Nat) : NR (w.drewN n) v l ao cap := ⟨h.val, h.cap, h.cell⟩
theorem NO.nr {B : Nat} {w : World} {v : Value} {l : List Nd} (h : NO B w v l) : ∃ ao cap, NR w v l ao cap := by
  obtain ⟨a, c, e, hc, hg⟩ := own_slice h
  refine ⟨a, c, e, hc, ?_⟩
  rcases Nat.eq_zero_or_pos l.length with h0 | h0
  · exact .inl (List.eq_nil_of_length_eq_zero h0)
  · obtain ⟨g, rfl⟩ := hg h0
    refine .inr ⟨g, 0, rfl, ?_, fun j u hu => ?_⟩
    · have := (h.lt g (by rw [e]; rfl)).2
      exact this
    · rw [Nat.zero_add]
      unfold NO at h
      rw [e] at h
      exact (own_cell h j u hu).1

end Go.Proofs.Ytkfchdmlemcjhaa

namespace Go.Proofs.Ytkfchdmlemcjhaa
open Go.RowKit Go.Shelf

/-- A list of places of one's own. -/
structure OI (B : Nat) (w0 w : World) (v : Value) (l : List Nat) : Prop where
  own : w.ownsRow B 3 1 v l.length (l.map iV)
  bel : Below B w0 w
end Go.Proofs.Ytkfchdmlemcjhaa

namespace Go.Proofs.Ytkfchdmlemcjhaa
open Go.RowKit Go.Shelf

theorem OI.at {B : Nat} {w0 w : World} {v : Value} {l : List Nat} (h : OI B w0 w v l) : ∃ a c, v = .slice a l.length c ∧ l.length ≤ c ∧ (∀ j, j < l.length → ∃ g, a = some ⟨g, 0, none⟩ ∧ w.cell? ⟨g, j, none⟩ = some (iV (l.getD j 0))) := by
  obtain ⟨a, c, e, hc, hg⟩ := own_slice h.own
  refine ⟨a, c, e, hc, fun j hj => ?_⟩
  obtain ⟨g, rfl⟩ := hg (by omega)
  refine ⟨g, rfl, ?_⟩
  have := h.own
  rw [e] at this
  exact (own_cell this j _ (by simp [List.getD_eq_getElem?_getD, hj])).1

end Go.Proofs.Ytkfchdmlemcjhaa

namespace Go.Proofs.Ytkfchdmlemcjhaa
open Go.RowKit Go.Shelf

theorem fields_node : (Try.prog.fieldsOf 37).toList = [⟨"Kind", 35, 0, false, "", "", 0⟩, ⟨"Key", 9, 1, false, "", "", 8⟩, ⟨"Text", 9, 2, false, "", "", 24⟩, ⟨"Whole", 4, 3, false, "", "", 40⟩, ⟨"Int", 2, 4, false, "", "", 48⟩, ⟨"Kids", 3, 5, false, "", "", 56⟩] := by kernel_rfl

theorem eqf_step {f : Field} {fs : List Field} {d : Nat} {xs ys : Array Value} {w : World} {x y : Value} {r : Bool} (hn : f.name ≠ "_") (hx : (part f.type xs f.offset).run Try.prog w = .ok x w) (hy : (part f.type ys f.offset).run Try.prog w = .ok y w) (he : (Op.equalIn d f.type x y).run Try.prog w = .ok r w) :
    (Op.eqFields d xs ys (f :: fs)).run Try.prog w = if r then (Op.eqFields d xs ys fs).run Try.prog w else .ok false w := by
  conv => lhs; unfold Op.eqFields
  rw [if_pos hn, Sem.run_bind, hx, Result.andThen_ok, Sem.run_bind, hy, Result.andThen_ok, Sem.run_bind, he, Result.andThen_ok]
  cases r
  · rfl
  · rfl

theorem bytes_beq (a b : List UInt8) : ((⟨a.toArray⟩ : ByteArray).toList == (⟨b.toArray⟩ : ByteArray).toList) = decide (a = b) := by
  rw [ByteArray.toList_eq, ByteArray.toList_eq]
  show (a == b) = _
  rw [Bool.eq_iff_iff, beq_iff_eq, decide_eq_true_iff]

set_option maxRecDepth 100000 in
theorem run_nodes (w : World) (n m : Nd) : (binOp .eql 37 (.agg #[.int .i64 n.kind, .string ⟨n.key.toArray⟩, .string ⟨n.text.toArray⟩, .bool n.whole, .int .i64 n.int, .int .i64 n.kids]) (.agg #[.int .i64 m.kind, .string ⟨m.key.toArray⟩, .string ⟨m.text.toArray⟩, .bool m.whole, .int .i64 m.int, .int .i64 m.kids])).run Try.prog w = .ok (.bool (decide (n = m))) w := by
  have ht : Try.prog.underlying 37 = some (.struct (Try.prog.fieldsOf 37)) := by kernel_rfl
  have hp : Try.prog.stoodInHeld 37 = false := by kernel_rfl
  have u31 : Try.prog.underlying 35 = some (.int .i64) := by kernel_rfl
  have u9 : Try.prog.underlying 9 = some .string := by kernel_rfl
  have u4 : Try.prog.underlying 4 = some .bool := by kernel_rfl
  have u2 : Try.prog.underlying 2 = some (.int .i64) := by kernel_rfl
  have u3 : Try.prog.underlying 3 = some (.int .i64) := by kernel_rfl
  have e1 : (Op.equalIn 9999 35 (.int .i64 n.kind) (.int .i64 m.kind)).run Try.prog w = .ok (n.kind == m.kind) w := run_equalIn_int w 9998 35 .i64 .i64 n.kind m.kind u31
  have e2 : (Op.equalIn 9999 9 (.string ⟨n.key.toArray⟩) (.string ⟨m.key.toArray⟩)).run Try.prog w = .ok ((⟨n.key.toArray⟩ : ByteArray).toList == (⟨m.key.toArray⟩ : ByteArray).toList) w := run_equalIn_string w 9998 9 _ _ u9
  have e3 : (Op.equalIn 9999 9 (.string ⟨n.text.toArray⟩) (.string ⟨m.text.toArray⟩)).run Try.prog w = .ok ((⟨n.text.toArray⟩ : ByteArray).toList == (⟨m.text.toArray⟩ : ByteArray).toList) w := run_equalIn_string w 9998 9 _ _ u9
  have e4 : (Op.equalIn 9999 4 (.bool n.whole) (.bool m.whole)).run Try.prog w = .ok (n.whole == m.whole) w := run_equalIn_bool' w 9998 4 _ _ u4
  have e5 : (Op.equalIn 9999 2 (.int .i64 n.int) (.int .i64 m.int)).run Try.prog w = .ok (n.int == m.int) w := run_equalIn_int w 9998 2 .i64 .i64 n.int m.int u2
  have e6 : (Op.equalIn 9999 3 (.int .i64 n.kids) (.int .i64 m.kids)).run Try.prog w = .ok (n.kids == m.kids) w := run_equalIn_int w 9998 3 .i64 .i64 n.kids m.kids u3
  rw [run_eql_struct]
  show Result.andThen ((Op.equalIn (9999 + 1) 37 _ _).run Try.prog w) _ = _
  rw [run_equalIn_struct w 9999 37 _ _ ht hp, fields_node]
  rw [eqf_step (x := .int .i64 n.kind) (y := .int .i64 m.kind) (by decide) (by kernel_rfl) (by kernel_rfl) e1]
  rw [eqf_step (x := .string ⟨n.key.toArray⟩) (y := .string ⟨m.key.toArray⟩) (by decide) (by kernel_rfl) (by kernel_rfl) e2]
  rw [eqf_step (x := .string ⟨n.text.toArray⟩) (y := .string ⟨m.text.toArray⟩) (by decide) (by kernel_rfl) (by kernel_rfl) e3]
  rw [eqf_step (x := .bool n.whole) (y := .bool m.whole) (by decide) (by kernel_rfl) (by kernel_rfl) e4]
  rw [eqf_step (x := .int .i64 n.int) (y := .int .i64 m.int) (by decide) (by kernel_rfl) (by kernel_rfl) e5]
  rw [eqf_step (x := .int .i64 n.kids) (y := .int .i64 m.kids) (by decide) (by kernel_rfl) (by kernel_rfl) e6]
  have hn : (Op.eqFields 9999 #[.int .i64 n.kind, .string ⟨n.key.toArray⟩, .string ⟨n.text.toArray⟩, .bool n.whole, .int .i64 n.int, .int .i64 n.kids] #[.int .i64 m.kind, .string ⟨m.key.toArray⟩, .string ⟨m.text.toArray⟩, .bool m.whole, .int .i64 m.int, .int .i64 m.kids] []).run Try.prog w = .ok true w := rfl
  rw [hn, bytes_beq, bytes_beq]
  obtain ⟨a1, a2, a3, a4, a5, a6⟩ := n
  obtain ⟨b1, b2, b3, b4, b5, b6⟩ := m
  simp only
  have hE : decide ((⟨a1, a2, a3, a4, a5, a6⟩ : Nd) = ⟨b1, b2, b3, b4, b5, b6⟩) = ((a1 == b1) && (decide (a2 = b2) && (decide (a3 = b3) && ((a4 == b4) && ((a5 == b5) && (a6 == b6)))))) := by
    rw [Bool.eq_iff_iff]
    simp
  rw [hE]
  cases (a1 == b1) <;> cases decide (a2 = b2) <;> cases decide (a3 = b3) <;> cases (a4 == b4) <;> cases (a5 == b5) <;> cases (a6 == b6) <;> rfl

end Go.Proofs.Ytkfchdmlemcjhaa
