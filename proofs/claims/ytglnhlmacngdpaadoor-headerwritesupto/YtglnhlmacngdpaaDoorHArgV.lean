import Derived.Test.YtglnhlmacngdpaaDoorHZ
import Derived.Test.YtglnhlmacngdpaaDoorWZ
import Derived.Test.YtglnhlmacngdpaaDoorCards
import Derived.Test.YtglnhlmacngdpaaDoorTie
import Derived.ProofKit
import Derived.OpenShut
import Derived.ShutString
import Derived.ChangeOld
import Derived.SizedLaws
import Derived.JoinedCond
import Derived.Deep.DeepHandedRow
import Derived.Deep.Slices
import Derived.Deep.Strs
import Derived.Lay
import Derived.Stop.LaidErr
import Derived.Deep.DeepWitnessRowRef
import Derived.Lib.LaidTab
import Derived.Lib.LaidU8T
import Derived.Carry
namespace Go.Proofs.YtglnhlmacngdpaaDoor
open Go.ChangeShapes Go.WideShapes Go.ChangeAt Go.RowKit Go.Deep

theorem ownK : ownKnob Tryd.prog.godebug = none := by kernel_rfl
theorem laidO : laidOutB Tryd.prog = true := by kernel_rfl
theorem str_of (a : ByteArray) : a = ⟨a.data.toList.toArray⟩ := by cases a; simp

theorem gRange : Tryd.prog.globalNamed "strconv.ErrRange" = some 5 := by kernel_rfl
theorem gRangeType : (Tryd.prog.globals[5]?).map (·.type) = some 99 := by kernel_rfl
theorem gSyntax : Tryd.prog.globalNamed "strconv.ErrSyntax" = some 4 := by kernel_rfl
theorem gSyntaxType : (Tryd.prog.globals[4]?).map (·.type) = some 99 := by kernel_rfl
theorem cellsErr : Tryd.prog.cellsOf 126 = 1 := by kernel_rfl
theorem cellsStr : Tryd.prog.cellsOf 9 = 1 := by kernel_rfl
theorem starErr : "*" ++ "errors.errorString" = "*errors.errorString" := by decide
theorem rowErr (u : TypeId) (h : Tryd.prog.typeName? 3 u = some "*errors.errorString") : u = 124 :=
  typeName_ptr_named (nm := "errors.errorString") (by rw [starErr]; kernel_rfl) (by kernel_rfl) (by decide) u (by rw [starErr]; exact h)
theorem dFirst : (Rows.laid_unicode_utf8_first : DataW Unit) = Lib.firstData := by kernel_rfl
theorem dAcc : (Rows.laid_unicode_utf8_acceptRanges : DataW Unit) = Lib.acceptData := by kernel_rfl

set_option maxRecDepth 100000 in
theorem alg_row : ∀ i, i < 13 → algCs[i * 3]? = some (.string ⟨(algN i).toArray⟩) ∧ algCs[i * 3 + 1]? = some (.int .i64 (algK i)) ∧ algCs[i * 3 + 2]? = some (.string ⟨(algC i).toArray⟩) := by
  intro k hk
  rcases (show k = 0 ∨ k = 1 ∨ k = 2 ∨ k = 3 ∨ k = 4 ∨ k = 5 ∨ k = 6 ∨ k = 7 ∨ k = 8 ∨ k = 9 ∨ k = 10 ∨ k = 11 ∨ k = 12 by omega) with rfl | rfl | rfl | rfl | rfl | rfl | rfl | rfl | rfl | rfl | rfl | rfl | rfl <;> exact ⟨rfl, rfl, rfl⟩

theorem cellsAo : Tryd.prog.cellsOf 39 = 3 := by kernel_rfl
theorem cellsAs : Tryd.prog.cellsOf 40 = 39 := by kernel_rfl

set_option maxRecDepth 100000 in
/-- A table that reads as the algorithms holds them, cell for cell. -/
theorem cells_of_algs {H : Type} {enc : TypeId × Value → H} {w : World} {base : Nat} {sp : Nat → Bool} {held : Bool} {fuel : Nat} {cs : List Value} {p : List MemPlace}
    (h : DataW.trod enc Tryd.prog w base sp held fuel 40 cs = some (.agg (algT.map fun r => .agg [.lit (.string r.1), .lit (.int .i64 r.2.1), .lit (.string r.2.2)]), p)) :
    ∀ i, i < 13 → cs[i * 3]? = some (.string ⟨(algN i).toArray⟩) ∧ cs[i * 3 + 1]? = some (.int .i64 (algK i)) ∧ cs[i * 3 + 2]? = some (.string ⟨(algC i).toArray⟩) := by
  have ht := Tryd.underlying40
  cases fuel with
  | zero => simp [DataW.trod] at h
  | succ fuel =>
    simp only [DataW.trod, ht, cellsAo, cellsAs] at h
    split at h
    · rename_i hl
      obtain ⟨xs, hm, hx⟩ := Option.map_eq_some_iff.1 h
      have hxs : xs.map (·.1) = algT.map fun r => (DataW.agg [.lit (.string r.1), .lit (.int .i64 r.2.1), .lit (.string r.2.2)] : DataW H) := by
        have := congrArg Prod.fst hx
        simpa using this
      intro i hi
      obtain ⟨b, hb, hf⟩ := Lib.mapM_at hm i i (by simp [hi])
      have hr : ∃ r, algT[i]? = some r ∧ b.1 = .agg [.lit (.string r.1), .lit (.int .i64 r.2.1), .lit (.string r.2.2)] := by
        have h2 : (xs.map (·.1))[i]? = some b.1 := by rw [List.getElem?_map, hb]; rfl
        rw [hxs, List.getElem?_map, Option.map_eq_some_iff] at h2
        obtain ⟨r, h3, h4⟩ := h2
        exact ⟨r, h3, h4.symm⟩
      obtain ⟨r, hr1, hr2⟩ := hr
      have hN : algN i = r.1 ∧ algK i = r.2.1 ∧ algC i = r.2.2 := by
        unfold algN algK algC
        rw [List.getD_eq_getElem?_getD, hr1]
        exact ⟨rfl, rfl, rfl⟩
      obtain ⟨y0, y1, y2, n, hy, hln, h0, h1, h2⟩ := trod_struct3 Tryd.underlying39 hf
      have h0 : DataW.trod enc Tryd.prog w base sp held n 9 ((((cs.drop (i * 3)).take 3).drop 0).take 1) = some y0 := h0
      have h1 : DataW.trod enc Tryd.prog w base sp held n 37 ((((cs.drop (i * 3)).take 3).drop 1).take 1) = some y1 := h1
      have h2 : DataW.trod enc Tryd.prog w base sp held n 9 ((((cs.drop (i * 3)).take 3).drop 2).take 1) = some y2 := h2
      obtain ⟨s0, e0, f0, _⟩ := DataW.trod_string Tryd.underlying9 h0
      obtain ⟨k1, e1, f1, _⟩ := DataW.trod_int Tryd.underlying37 h1
      obtain ⟨s2, e2, f2, _⟩ := DataW.trod_string Tryd.underlying9 h2
      have g0 : cs[i * 3]? = some (.string s0) := by
        have := congrArg (·[0]?) e0
        simpa [List.getElem?_take, List.getElem?_drop] using this
      have g1 : cs[i * 3 + 1]? = some (.int .i64 k1) := by
        have := congrArg (·[0]?) e1
        simpa [List.getElem?_take, List.getElem?_drop] using this
      have g2 : cs[i * 3 + 2]? = some (.string s2) := by
        have := congrArg (·[0]?) e2
        simpa [List.getElem?_take, List.getElem?_drop] using this
      rw [hy] at hr2
      simp only [f0, f1, f2, DataW.agg.injEq, List.cons.injEq, DataW.lit.injEq, Lit.string.injEq, Lit.int.injEq, true_and, and_true] at hr2
      rw [hN.1, hN.2.1, hN.2.2, ← hr2.1, ← hr2.2.1, ← hr2.2.2, g0, g1, g2]
      exact ⟨by rw [← str_of], rfl, by rw [← str_of]⟩
    · cases h

set_option maxRecDepth 100000 in
theorem alg_reads {W : World} (h : Lib.VarReads Tryd.prog W "signet/keyset.algorithms" Rows.laid_signet_keyset_algorithms) : Alg W := by
  obtain ⟨g', t', cs, fuel, p, hg', ht', hvar, hd⟩ := h
  have hg : Tryd.prog.globalNamed "signet/keyset.algorithms" = some 0 := by kernel_rfl
  obtain rfl := Option.some.inj (hg.symm.trans hg')
  have hty : (Tryd.prog.globals[0]?).map (·.type) = some 40 := by kernel_rfl
  obtain rfl := Option.some.inj (hty.symm.trans ht')
  have e := cells_of_algs hd
  intro j v hv
  have hj : j < 39 := (List.getElem?_eq_some_iff.1 hv).1
  have hc := World.var?_cell hg hvar j
  rw [Nat.zero_add]
  rw [hc, ← Array.getElem?_toList]
  obtain ⟨a0, a1, a2⟩ := alg_row (j / 3) (by omega)
  obtain ⟨b0, b1, b2⟩ := e (j / 3) (by omega)
  rcases (show j = j / 3 * 3 ∨ j = j / 3 * 3 + 1 ∨ j = j / 3 * 3 + 2 by omega) with h | h | h
  · rw [h] at hv ⊢
    exact b0.trans (a0.symm.trans hv)
  · rw [h] at hv ⊢
    exact b1.trans (a1.symm.trans hv)
  · rw [h] at hv ⊢
    exact b2.trans (a2.symm.trans hv)

theorem cellsHd : Tryd.prog.cellsOf 24 = 4 := by kernel_rfl
theorem cellsB32 : Tryd.prog.cellsOf 141 = 32 := by kernel_rfl
theorem cellsU8' : Tryd.prog.cellsOf 5 = 1 := by kernel_rfl
instance : Inhabited (List UInt8) := ⟨[]⟩

/-- What the row's list gives: unicode/utf8's tables, the two errors that strconv names, the algorithms. -/
theorem laidGA {W : World} (h : laidMetH Tryd.prog [("math/bits.deBruijn32tab", Rows.laid_math_bits_deBruijn32tab), ("math/bits.deBruijn64tab", Rows.laid_math_bits_deBruijn64tab), ("internal/strconv.uint64pow10", Rows.laid_internal_strconv_uint64pow10), ("unicode/utf8.acceptRanges", Rows.laid_unicode_utf8_acceptRanges), ("strconv.ErrRange", Rows.laid_strconv_ErrRange), ("strconv.ErrSyntax", Rows.laid_strconv_ErrSyntax), ("signet/keyset.algorithms", Rows.laid_signet_keyset_algorithms), ("unicode/utf8.first", Rows.laid_unicode_utf8_first)] W) : GL W.heap.size W ∧ Alg W := by
  rw [MakeChecks.laidMetH_plain _ _ _ (by kernel_rfl)] at h
  have h4 := h.tail.tail.tail.tail
  obtain ⟨a2, s2, hv2, _⟩ := laid_sentinel h4 gRange gRangeType Tryd.underlying99 rowErr Tryd.underlying124 Tryd.underlying126 rfl rfl Tryd.underlying9 cellsErr cellsStr
  obtain ⟨a1, s1, hv1, _⟩ := laid_sentinel h4.tail gSyntax gSyntaxType Tryd.underlying99 rowErr Tryd.underlying124 Tryd.underlying126 rfl rfl Tryd.underlying9 cellsErr cellsStr
  have hU : U8 W := utf8Tabs_of_readsT (ρ := Tryd.laysValid_ren) (U8Types.of196 Tryd.laysValid) ⟨by kernel_rfl, by kernel_rfl, by kernel_rfl, by kernel_rfl, by kernel_rfl, by kernel_rfl, by kernel_rfl⟩
    (dFirst ▸ Lib.laidMet.reads h (.tail _ (.tail _ (.tail _ (.tail _ (.tail _ (.tail _ (.tail _ (.head _))))))))) (dAcc ▸ Lib.laidMet.reads h (.tail _ (.tail _ (.tail _ (.head _)))))
  have hAl : Alg W := alg_reads (Lib.laidMet.reads h (.tail _ (.tail _ (.tail _ (.tail _ (.tail _ (.tail _ (.head _))))))))
  have h8 : 8 ≤ W.heap.size := by
    obtain ⟨g', t', cs, fuel, p, hg', ht', hvar, hd⟩ := Lib.laidMet.reads h (.head _)
    have hg : Tryd.prog.globalNamed "math/bits.deBruijn32tab" = some 7 := by kernel_rfl
    obtain rfl := Option.some.inj (hg.symm.trans hg')
    have hty : (Tryd.prog.globals[7]?).map (·.type) = some 141 := by kernel_rfl
    obtain rfl := Option.some.inj (hty.symm.trans ht')
    have hc := World.var?_cell hg hvar 0
    have hlen : cs.toList.length = 32 := by
      cases fuel with
      | zero => simp [DataW.trod] at hd
      | succ fuel =>
        simp only [DataW.trod, Tryd.underlying141, cellsU8', cellsB32] at hd
        split at hd
        · rename_i hl
          simpa using hl
        · cases hd
    have h0 : 0 < cs.size := by rw [← Array.length_toList, hlen]; decide
    rw [Array.getElem?_eq_getElem h0] at hc
    exact World.block_lt_of_cell? _ _ hc
  exact ⟨⟨h8, hU, ⟨_, _, _, _, hv1, hv2⟩⟩, hAl⟩

set_option maxRecDepth 100000 in
/-- A header that came in. -/
theorem open_header {H : Type} {enc : TypeId × Value → H} {W : World} {held : Bool} {v : Value} {d : DataW H} {p : List MemPlace} {fuel base : Nat} (hv : Value.okWide Tryd.prog W .any base 24 v)
    (hf : DataW.trod enc Tryd.prog W 0 (fun _ => true) held fuel 24 v.cells.toList = some (d, p)) :
    ∃ x : Hd, v = hdV x ∧ x.kid.length ≤ Rows.uptoBulk d ∧ x.typ.length ≤ Rows.uptoBulk d := by
  obtain ⟨vs, rfl, _⟩ := okWide_struct Tryd.underlying24 hv
  have hcs : (Value.agg vs).cells.toList = vs.toList := rfl
  rw [hcs] at hf
  obtain ⟨xs, n, _, hx, hl, hlen, hff⟩ := DataW.trod_struct Tryd.underlying24 hf
  rw [cellsHd] at hl
  match xs, hlen with
  | [y0, y1, y2, y3], _ =>
    have h0 := hff 0 _ rfl
    have h1 := hff 1 _ rfl
    have h2 := hff 2 _ rfl
    have h3 := hff 3 _ rfl
    obtain ⟨cs⟩ := vs
    dsimp only at *
    match cs, hl with
    | [c0, c1, c2, c3], _ =>
      have h0 : DataW.trod enc Tryd.prog W 0 (fun _ => true) held n 22 [c0] = some y0 := h0
      have h1 : DataW.trod enc Tryd.prog W 0 (fun _ => true) held n 9 [c1] = some y1 := h1
      have h2 : DataW.trod enc Tryd.prog W 0 (fun _ => true) held n 9 [c2] = some y2 := h2
      have h3 : DataW.trod enc Tryd.prog W 0 (fun _ => true) held n 4 [c3] = some y3 := h3
      obtain ⟨k, e0, _, _⟩ := DataW.trod_int Tryd.underlying22 h0
      obtain ⟨s1, e1, f1, _⟩ := DataW.trod_string Tryd.underlying9 h1
      obtain ⟨s2, e2, f2, _⟩ := DataW.trod_string Tryd.underlying9 h2
      obtain ⟨b, e3, _⟩ := DataW.trod_bool Tryd.underlying4 h3
      simp only [List.cons.injEq, and_true] at e0 e1 e2 e3
      have hd := (Prod.mk.inj hx).1
      refine ⟨⟨k, s1.data.toList, s2.data.toList, b⟩, by rw [e0, e1, e2, e3]; simp [hdV], ?_, ?_⟩
      · rw [hd]
        simp only [List.map_cons, Rows.uptoBulk, Rows.uptoBulkAll, f1]
        omega
      · rw [hd]
        simp only [List.map_cons, Rows.uptoBulk, Rows.uptoBulkAll, f2]
        omega

end Go.Proofs.YtglnhlmacngdpaaDoor
