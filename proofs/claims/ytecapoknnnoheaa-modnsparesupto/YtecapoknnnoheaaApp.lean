import Derived.Test.YtecapoknnnoheaaSame
import Derived.Test.YtecapoknnnoheaaDiv
import Derived.Deep.DeepAppendWide
import Derived.OwnWalk
import Derived.Laws.AppendOwnNone
namespace Go.Proofs.Ytecapoknnnoheaa
open Go.RowKit

/-- A row of one's own, made since a world. -/
structure OB (B0 : Nat) (w ws : World) (v : Value) (xs : List Nat) : Prop where
  own : Ow ws B0 v xs
  bel : Below B0 w ws

theorem OB.nil (w : World) : OB w.heap.size w w (.slice none 0 0) [] := ⟨Ow.nil _ _, Below.refl _ _⟩
theorem OB.shape {B0 : Nat} {w ws : World} {v : Value} {xs : List Nat} (h : OB B0 w ws v xs) : ∃ a c, v = .slice a xs.length c := by
  rcases h.own.2 with ⟨e, h0⟩ | ⟨g, cap, cur, e, _⟩
  · exact ⟨none, 0, by rw [h0]; exact e⟩
  · exact ⟨_, _, e⟩
theorem own_block {w : World} {base n : Nat} {e : TypeId} {v : Value} {xs : List Value} (h : w.ownsRow base e 1 v n xs) : ∀ k, v.ownBlock = some k → base ≤ k := fun k hk => (h.lt k hk).1

/-- append of limbs that can be read, nil ones too, behind a row of one's own. -/
theorem append_rn {w : World} {ops : Array Oper} {rest : List Oper} {o : Oper} {a : Act} {Q : Exit → Act → World → Prop} (hgd : o.guard = none) (s x : Operand)
    (ho : o.op = .call { callee := .builtin .append, args := #[s, x], argTypes := #[23, 23] })
    (base : Nat) (v : Value) (xs : List Nat) (hs : a.eval s = v) (hown : Ow w base v xs)
    (ao : Option Addr) (m c : Nat) (l : List Nat) (hx : a.eval x = .slice ao m c) (hl : l.length = m) (hao : ao = none → m = 0 ∧ c = 0) (hrd : Rn w ao l)
    (hbytes : xs.length + m ≤ 10000000000) (hbase : base ≤ w.heap.size)
    (h : ∀ v' w', Ow w' base v' (xs ++ l) → w.grownBy w' v.ownBlock → wpList Try.prog ops Q rest (a.put o.dst v') w') : wpList Try.prog ops Q (o :: rest) a w := by
  obtain ⟨i, hi, hz, hsize, hby⟩ := info_parts infoU
  cases ao with
  | none =>
    obtain ⟨rfl, rfl⟩ := hao rfl
    obtain rfl := List.eq_nil_of_length_eq_zero hl
    refine wpList_append_own_none hgd s x 23 ho base 29 i 1 Try.underlying23 hi v xs.length (xs.map U) hs hown hx ?_
    exact h v w (by rw [List.append_nil]; exact hown) (World.grownBy.refl _ _)
  | some ad =>
    refine wpList_append_own_wide w hgd s x 23 ho base 29 i (.int .u32 0) 1 4 Try.underlying23 hi hz hsize hby rfl (by decide) v xs.length (xs.map U) hs hown ad m c (l.map U) hx (by simpa using hl) ?_ (oneU l) (by unfold maxLen; omega) (by omega) hbase ?_
    · intro j u hu
      rcases hrd with h0 | ⟨b, off, e, hb, hc⟩
      · subst h0; simp at hu
      · cases e
        have hj : j < l.length := by
          have := (List.getElem?_eq_some_iff.1 hu).1
          simpa using this
        rw [Addr.add_lit, hc j hj]
        simp [List.getElem?_map, List.getElem?_eq_getElem hj] at hu
        rw [← hu, getD_eq _ _ hj]
    · intro v' w' h1 h2 _
      refine h v' w' ?_ h2
      unfold Ow
      rw [List.map_append, List.length_append, hl]
      exact h1

/-- append of one limb. -/
theorem append_one {w wr : World} {ops : Array Oper} {rest : List Oper} {o : Oper} {a : Act} {Q : Exit → Act → World → Prop} (hgd : o.guard = none) (s x : Operand)
    (ho : o.op = .call { callee := .builtin .append, args := #[s, x], argTypes := #[23, 23] })
    (B0 : Nat) (v : Value) (xs : List Nat) (z : Nat) (hs : a.eval s = v) (hob : OB B0 w wr v xs) (hx : a.eval x = .slice (some ⟨wr.heap.size, 0, none⟩) 1 1) (hl : xs.length ≤ 1000000000) (hB : B0 ≤ w.heap.size)
    (h : ∀ v' w', OB B0 w w' v' (xs ++ [z]) → wpList Try.prog ops Q rest (a.put o.dst v') w') : wpList Try.prog ops Q (o :: rest) a (wr.alloc (.cells #[.int .u32 (z : Int)] 29)) := by
  have hs2 : B0 ≤ wr.heap.size := Nat.le_trans hB hob.bel.size
  have hbl := alloc_bl wr (([z] : List Nat).map U) 29
  refine append_rn hgd s x ho B0 v xs hs (hob.own.below (alloc_below wr _) (Nat.le_refl _)) (some ⟨wr.heap.size, 0, none⟩) 1 1 [z] hx rfl (fun e => by cases e) hbl.rn (by omega) (by rw [World.size_alloc]; omega) ?_
  intro v' w' h1 h2
  exact h v' w' ⟨h1, hob.bel.trans ((((alloc_below wr _).mono hs2)).grown h2 (by rw [World.size_alloc]; omega) (own_block hob.own))⟩

set_option maxHeartbeats 400000 in
theorem rlimb_any (ao : Option Addr) (n c k : Nat) (xs : List Nat) (w : World) (hx : Rn w ao xs) (sx : Sm Bs xs) (hn : n = xs.length) :
    Calls Try.prog 64 #[.slice ao n c, .int .i64 (k : Int)] w fun e w' => e = .returned (.int .u64 ((xs.getD k 0 : Nat) : Int)) ∧ w' = w := by
  have Hn : Hid (n = xs.length) := hn
  clear hn
  by_cases h2 : k < n
  · obtain ⟨g, off, rfl, _, hcell⟩ := hx.cell (by have := Hn.out; omega)
    have gc := hcell k (by have := Hn.out; omega)
    have hb : xs.getD k 0 < 4294967296 := by rw [← Bs_eq]; exact sx.getD Bs_pos k
    generalize xs.getD k 0 = x at gc hb ⊢
    clear hcell sx
    go_enter Try.func64, Try.ntmps64
    go_wp2
    go_ret
    exact ⟨rfl, rfl⟩
  · rw [getD_none _ _ (by have := Hn.out; omega)]
    go_enter Try.func64, Try.ntmps64
    go_wp2
    go_ret
    exact ⟨rfl, rfl⟩

end Go.Proofs.Ytecapoknnnoheaa
