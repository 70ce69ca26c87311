import Derived.Test.YtpbjamhalkahmaaGreatDoorFa
import Derived.Test.YtpbjamhalkahmaaGreatDoorEZ
import Derived.Test.YtpbjamhalkahmaaGreatDoorCZ
namespace Go.Proofs.YtpbjamhalkahmaaGreatDoor
open Go.RowKit Go.Shelf

/-- append of nodes that can be read behind a list of one's own. -/
theorem append_nds {wr : World} {ops : Array Oper} {rest : List Oper} {o : Oper} {a : Act} {Q : Exit → Act → World → Prop} (hgd : o.guard = none) (s x : Operand)
    (ho : o.op = .call { callee := .builtin .append, args := #[s, x], argTypes := #[23, 23] })
    (B : Nat) (v : Value) (l : List Nd) (hs : a.eval s = v) (h : NO B wr v l) (ao : Option Addr) (cap : Nat) (m : List Nd) (hx : a.eval x = .slice ao m.length cap) (hR : NR wr (.slice ao m.length cap) m ao cap) (hn : ao = none → cap = 0) (hl : l.length + m.length ≤ 1000000000) (hB : B ≤ wr.heap.size)
    (k : ∀ v' w', NO B w' v' (l ++ m) → wr.grownBy w' v.ownBlock → wpList Tryz.prog ops Q rest (a.put o.dst v') w') : wpList Tryz.prog ops Q (o :: rest) a wr := by
  obtain ⟨i, hi, hz, hsize, hby⟩ := info_parts infoN
  cases ao with
  | none =>
    obtain rfl := hn rfl
    have hm : m = [] := by
      rcases hR.cell with e | ⟨g, off, e, _⟩
      · exact e
      · cases e
    subst hm
    refine wpList_append_own_none hgd s x 23 ho B 40 i 6 Tryz.underlying23 hi v l.length (nCs l) hs h hx ?_
    refine k v wr (by rw [List.append_nil]; exact h) ⟨rfl, rfl, rfl, Nat.le_refl _, fun _ _ _ => rfl⟩
  | some ad =>
    refine wpList_append_own_wide _ hgd s x 23 ho B 40 i (.agg #[.int .i64 0, .string ⟨#[]⟩, .string ⟨#[]⟩, .bool false, .int .i64 0, .int .i64 0]) 6 64 Tryz.underlying23 hi hz hsize hby rfl (by decide) v l.length (nCs l) hs h ad m.length cap (nCs m) hx (nCs_length m) ?_ (nCs_oneC _) (by unfold maxLen; omega) (by omega) hB ?_
    · intro j u hu
      rcases hR.cell with e | ⟨g, off, e, _, hc⟩
      · subst e; simp [nCs] at hu
      · cases e
        rw [Addr.add_mid]
        exact hc j u hu
    · intro v' w' h2 h3 _
      refine k v' w' ?_ h3
      unfold NO
      rw [List.length_append, nCs_append]
      exact h2

end Go.Proofs.YtpbjamhalkahmaaGreatDoor
