import Derived.Test.YtklfaoiddiigkaaDoorKa
import Derived.Test.YtklfaoiddiigkaaDoorCards
import Derived.Test.YtklfaoiddiigkaaDoorTie
import Derived.ProofKit
import Derived.OpenShut
import Derived.ShutString
import Derived.ChangeOld
import Derived.SizedLaws
import Derived.JoinedCond
import Derived.Deep.DeepHandedRow
import Derived.Deep.Slices
import Derived.Deep.Strs
import Derived.Lay
import Derived.Stop.LaidErr
import Derived.Deep.DeepWitnessRowRef
import Derived.Lib.LaidTab
import Derived.Lib.LaidU8
import Derived.Carry
namespace Go.Proofs.YtklfaoiddiigkaaDoor
open Go.ChangeShapes Go.WideShapes Go.ChangeAt Go.RowKit Go.Deep

theorem ownK : ownKnob Tryd.prog.godebug = none := by kernel_rfl
theorem laidO : laidOutB Tryd.prog = true := by kernel_rfl
theorem str_of (a : ByteArray) : a = ⟨a.data.toList.toArray⟩ := by cases a; simp

set_option maxRecDepth 100000 in
theorem alg_row : ∀ i, i < 13 → algCs[i * 3]? = some (.string ⟨(algN i).toArray⟩) ∧ algCs[i * 3 + 1]? = some (.int .i64 (algK i)) ∧ algCs[i * 3 + 2]? = some (.string ⟨(algC i).toArray⟩) := by
  intro k hk
  rcases (show k = 0 ∨ k = 1 ∨ k = 2 ∨ k = 3 ∨ k = 4 ∨ k = 5 ∨ k = 6 ∨ k = 7 ∨ k = 8 ∨ k = 9 ∨ k = 10 ∨ k = 11 ∨ k = 12 by omega) with rfl | rfl | rfl | rfl | rfl | rfl | rfl | rfl | rfl | rfl | rfl | rfl | rfl <;> exact ⟨rfl, rfl, rfl⟩

theorem cellsS : Tryd.prog.cellsOf 9 = 1 := by kernel_rfl
theorem cellsKt : Tryd.prog.cellsOf 27 = 1 := by kernel_rfl
theorem cellsAo : Tryd.prog.cellsOf 43 = 3 := by kernel_rfl
theorem cellsAs : Tryd.prog.cellsOf 44 = 39 := by kernel_rfl

set_option maxRecDepth 100000 in
/-- A table that reads as the algorithms holds them, cell for cell. -/
theorem cells_of_algs {H : Type} {enc : TypeId × Value → H} {w : World} {base : Nat} {sp : Nat → Bool} {held : Bool} {fuel : Nat} {cs : List Value} {p : List MemPlace}
    (h : DataW.trod enc Tryd.prog w base sp held fuel 44 cs = some (.agg (algT.map fun r => .agg [.lit (.string r.1), .lit (.int .i64 r.2.1), .lit (.string r.2.2)]), p)) :
    ∀ i, i < 13 → cs[i * 3]? = some (.string ⟨(algN i).toArray⟩) ∧ cs[i * 3 + 1]? = some (.int .i64 (algK i)) ∧ cs[i * 3 + 2]? = some (.string ⟨(algC i).toArray⟩) := by
  have ht := Tryd.underlying44
  cases fuel with
  | zero => simp [DataW.trod] at h
  | succ fuel =>
    simp only [DataW.trod, ht, cellsAo, cellsAs] at h
    split at h
    · rename_i hl
      obtain ⟨xs, hm, hx⟩ := Option.map_eq_some_iff.1 h
      have hxs : xs.map (·.1) = algT.map fun r => (DataW.agg [.lit (.string r.1), .lit (.int .i64 r.2.1), .lit (.string r.2.2)] : DataW H) := by
        have := congrArg Prod.fst hx
        simpa using this
      intro i hi
      obtain ⟨b, hb, hf⟩ := Lib.mapM_at hm i i (by simp [hi])
      have hr : ∃ r, algT[i]? = some r ∧ b.1 = .agg [.lit (.string r.1), .lit (.int .i64 r.2.1), .lit (.string r.2.2)] := by
        have h2 : (xs.map (·.1))[i]? = some b.1 := by rw [List.getElem?_map, hb]; rfl
        rw [hxs, List.getElem?_map, Option.map_eq_some_iff] at h2
        obtain ⟨r, h3, h4⟩ := h2
        exact ⟨r, h3, h4.symm⟩
      obtain ⟨r, hr1, hr2⟩ := hr
      have hN : algN i = r.1 ∧ algK i = r.2.1 ∧ algC i = r.2.2 := by
        unfold algN algK algC
        rw [List.getD_eq_getElem?_getD, hr1]
        exact ⟨rfl, rfl, rfl⟩
      obtain ⟨y0, y1, y2, n, hy, hln, h0, h1, h2⟩ := trod_struct3 Tryd.underlying43 hf
      have h0 : DataW.trod enc Tryd.prog w base sp held n 9 ((((cs.drop (i * 3)).take 3).drop 0).take 1) = some y0 := h0
      have h1 : DataW.trod enc Tryd.prog w base sp held n 27 ((((cs.drop (i * 3)).take 3).drop 1).take 1) = some y1 := h1
      have h2 : DataW.trod enc Tryd.prog w base sp held n 9 ((((cs.drop (i * 3)).take 3).drop 2).take 1) = some y2 := h2
      obtain ⟨s0, e0, f0, _⟩ := DataW.trod_string Tryd.underlying9 h0
      obtain ⟨k1, e1, f1, _⟩ := DataW.trod_int Tryd.underlying27 h1
      obtain ⟨s2, e2, f2, _⟩ := DataW.trod_string Tryd.underlying9 h2
      have g0 : cs[i * 3]? = some (.string s0) := by
        have := congrArg (·[0]?) e0
        simpa [List.getElem?_take, List.getElem?_drop] using this
      have g1 : cs[i * 3 + 1]? = some (.int .i64 k1) := by
        have := congrArg (·[0]?) e1
        simpa [List.getElem?_take, List.getElem?_drop] using this
      have g2 : cs[i * 3 + 2]? = some (.string s2) := by
        have := congrArg (·[0]?) e2
        simpa [List.getElem?_take, List.getElem?_drop] using this
      rw [hy] at hr2
      simp only [f0, f1, f2, DataW.agg.injEq, List.cons.injEq, DataW.lit.injEq, Lit.string.injEq, Lit.int.injEq, true_and, and_true] at hr2
      rw [hN.1, hN.2.1, hN.2.2, ← hr2.1, ← hr2.2.1, ← hr2.2.2, g0, g1, g2]
      exact ⟨by rw [← str_of], rfl, by rw [← str_of]⟩
    · cases h

set_option maxRecDepth 100000 in
theorem alg_reads {W : World} (h : Lib.VarReads Tryd.prog W "signet/keyset.algorithms" Rows.laid_signet_keyset_algorithms) : Alg W := by
  obtain ⟨g', t', cs, fuel, p, hg', ht', hvar, hd⟩ := h
  have hg : Tryd.prog.globalNamed "signet/keyset.algorithms" = some 0 := by kernel_rfl
  obtain rfl := Option.some.inj (hg.symm.trans hg')
  have hty : (Tryd.prog.globals[0]?).map (·.type) = some 44 := by kernel_rfl
  obtain rfl := Option.some.inj (hty.symm.trans ht')
  have e := cells_of_algs hd
  intro j v hv
  have hj : j < 39 := (List.getElem?_eq_some_iff.1 hv).1
  have hc := World.var?_cell hg hvar j
  rw [Nat.zero_add]
  rw [hc, ← Array.getElem?_toList]
  obtain ⟨a0, a1, a2⟩ := alg_row (j / 3) (by omega)
  obtain ⟨b0, b1, b2⟩ := e (j / 3) (by omega)
  rcases (show j = j / 3 * 3 ∨ j = j / 3 * 3 + 1 ∨ j = j / 3 * 3 + 2 by omega) with h | h | h
  · rw [h] at hv ⊢
    exact b0.trans (a0.symm.trans hv)
  · rw [h] at hv ⊢
    exact b1.trans (a1.symm.trans hv)
  · rw [h] at hv ⊢
    exact b2.trans (a2.symm.trans hv)

end Go.Proofs.YtklfaoiddiigkaaDoor
