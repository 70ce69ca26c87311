import Derived.Test.YtkfchdmlemcjhaaDoorKbX
import Derived.Test.YtkfchdmlemcjhaaDoorCards
import Derived.Test.YtkfchdmlemcjhaaDoorTie
import Derived.ProofKit
import Derived.OpenShut
import Derived.ShutString
import Derived.ChangeOld
import Derived.SizedLaws
import Derived.JoinedCond
import Derived.Deep.DeepHandedRow
import Derived.Deep.Slices
import Derived.Deep.Strs
import Derived.Lay
import Derived.Stop.LaidErr
import Derived.Deep.DeepWitnessRowRef
import Derived.Lib.LaidTab
import Derived.Lib.LaidU8T
import Derived.Carry
namespace Go.Proofs.YtkfchdmlemcjhaaDoor
open Go.ChangeShapes Go.WideShapes Go.ChangeAt Go.RowKit Go.Deep

theorem ownK : ownKnob Tryd.prog.godebug = none := by kernel_rfl
theorem laidO : laidOutB Tryd.prog = true := by kernel_rfl
theorem str_of (a : ByteArray) : a = ⟨a.data.toList.toArray⟩ := by cases a; simp

theorem gRange : Tryd.prog.globalNamed "strconv.ErrRange" = some 4 := by kernel_rfl
theorem gRangeType : (Tryd.prog.globals[4]?).map (·.type) = some 101 := by kernel_rfl
theorem gSyntax : Tryd.prog.globalNamed "strconv.ErrSyntax" = some 3 := by kernel_rfl
theorem gSyntaxType : (Tryd.prog.globals[3]?).map (·.type) = some 101 := by kernel_rfl
theorem cellsErr : Tryd.prog.cellsOf 130 = 1 := by kernel_rfl
theorem cellsStr : Tryd.prog.cellsOf 9 = 1 := by kernel_rfl
theorem starErr : "*" ++ "errors.errorString" = "*errors.errorString" := by decide
theorem rowErr (u : TypeId) (h : Tryd.prog.typeName? 3 u = some "*errors.errorString") : u = 128 :=
  typeName_ptr_named (nm := "errors.errorString") (by rw [starErr]; kernel_rfl) (by kernel_rfl) (by decide) u (by rw [starErr]; exact h)
theorem dFirst : (Rows.laid_unicode_utf8_first : DataW Unit) = Lib.firstData := by kernel_rfl
theorem dAcc : (Rows.laid_unicode_utf8_acceptRanges : DataW Unit) = Lib.acceptData := by kernel_rfl

theorem cellsB64 : Tryd.prog.cellsOf 146 = 64 := by kernel_rfl
theorem cellsU8' : Tryd.prog.cellsOf 5 = 1 := by kernel_rfl
set_option maxRecDepth 100000 in
theorem alg_row : ∀ i, i < 13 → algCs[i * 3]? = some (.string ⟨(algN i).toArray⟩) ∧ algCs[i * 3 + 1]? = some (.int .i64 (algK i)) ∧ algCs[i * 3 + 2]? = some (.string ⟨(algC i).toArray⟩) := by
  intro k hk
  rcases (show k = 0 ∨ k = 1 ∨ k = 2 ∨ k = 3 ∨ k = 4 ∨ k = 5 ∨ k = 6 ∨ k = 7 ∨ k = 8 ∨ k = 9 ∨ k = 10 ∨ k = 11 ∨ k = 12 by omega) with rfl | rfl | rfl | rfl | rfl | rfl | rfl | rfl | rfl | rfl | rfl | rfl | rfl <;> exact ⟨rfl, rfl, rfl⟩

theorem cellsAo : Tryd.prog.cellsOf 42 = 3 := by kernel_rfl
theorem cellsAs : Tryd.prog.cellsOf 43 = 39 := by kernel_rfl

set_option maxRecDepth 100000 in
/-- A table that reads as the algorithms holds them, cell for cell. -/
theorem cells_of_algs {H : Type} {enc : TypeId × Value → H} {w : World} {base : Nat} {sp : Nat → Bool} {held : Bool} {fuel : Nat} {cs : List Value} {p : List MemPlace}
    (h : DataW.trod enc Tryd.prog w base sp held fuel 43 cs = some (.agg (algT.map fun r => .agg [.lit (.string r.1), .lit (.int .i64 r.2.1), .lit (.string r.2.2)]), p)) :
    ∀ i, i < 13 → cs[i * 3]? = some (.string ⟨(algN i).toArray⟩) ∧ cs[i * 3 + 1]? = some (.int .i64 (algK i)) ∧ cs[i * 3 + 2]? = some (.string ⟨(algC i).toArray⟩) := by
  have ht := Tryd.underlying43
  cases fuel with
  | zero => simp [DataW.trod] at h
  | succ fuel =>
    simp only [DataW.trod, ht, cellsAo, cellsAs] at h
    split at h
    · rename_i hl
      obtain ⟨xs, hm, hx⟩ := Option.map_eq_some_iff.1 h
      have hxs : xs.map (·.1) = algT.map fun r => (DataW.agg [.lit (.string r.1), .lit (.int .i64 r.2.1), .lit (.string r.2.2)] : DataW H) := by
        have := congrArg Prod.fst hx
        simpa using this
      intro i hi
      obtain ⟨b, hb, hf⟩ := Lib.mapM_at hm i i (by simp [hi])
      have hr : ∃ r, algT[i]? = some r ∧ b.1 = .agg [.lit (.string r.1), .lit (.int .i64 r.2.1), .lit (.string r.2.2)] := by
        have h2 : (xs.map (·.1))[i]? = some b.1 := by rw [List.getElem?_map, hb]; rfl
        rw [hxs, List.getElem?_map, Option.map_eq_some_iff] at h2
        obtain ⟨r, h3, h4⟩ := h2
        exact ⟨r, h3, h4.symm⟩
      obtain ⟨r, hr1, hr2⟩ := hr
      have hN : algN i = r.1 ∧ algK i = r.2.1 ∧ algC i = r.2.2 := by
        unfold algN algK algC
        rw [List.getD_eq_getElem?_getD, hr1]
        exact ⟨rfl, rfl, rfl⟩
      obtain ⟨y0, y1, y2, n, hy, hln, h0, h1, h2⟩ := trod_struct3 Tryd.underlying42 hf
      have h0 : DataW.trod enc Tryd.prog w base sp held n 9 ((((cs.drop (i * 3)).take 3).drop 0).take 1) = some y0 := h0
      have h1 : DataW.trod enc Tryd.prog w base sp held n 23 ((((cs.drop (i * 3)).take 3).drop 1).take 1) = some y1 := h1
      have h2 : DataW.trod enc Tryd.prog w base sp held n 9 ((((cs.drop (i * 3)).take 3).drop 2).take 1) = some y2 := h2
      obtain ⟨s0, e0, f0, _⟩ := DataW.trod_string Tryd.underlying9 h0
      obtain ⟨k1, e1, f1, _⟩ := DataW.trod_int Tryd.underlying23 h1
      obtain ⟨s2, e2, f2, _⟩ := DataW.trod_string Tryd.underlying9 h2
      have g0 : cs[i * 3]? = some (.string s0) := by
        have := congrArg (·[0]?) e0
        simpa [List.getElem?_take, List.getElem?_drop] using this
      have g1 : cs[i * 3 + 1]? = some (.int .i64 k1) := by
        have := congrArg (·[0]?) e1
        simpa [List.getElem?_take, List.getElem?_drop] using this
      have g2 : cs[i * 3 + 2]? = some (.string s2) := by
        have := congrArg (·[0]?) e2
        simpa [List.getElem?_take, List.getElem?_drop] using this
      rw [hy] at hr2
      simp only [f0, f1, f2, DataW.agg.injEq, List.cons.injEq, DataW.lit.injEq, Lit.string.injEq, Lit.int.injEq, true_and, and_true] at hr2
      rw [hN.1, hN.2.1, hN.2.2, ← hr2.1, ← hr2.2.1, ← hr2.2.2, g0, g1, g2]
      exact ⟨by rw [← str_of], rfl, by rw [← str_of]⟩
    · cases h

set_option maxRecDepth 100000 in
theorem alg_reads {W : World} (h : Lib.VarReads Tryd.prog W "signet/keyset.algorithms" Rows.laid_signet_keyset_algorithms) : Alg W := by
  obtain ⟨g', t', cs, fuel, p, hg', ht', hvar, hd⟩ := h
  have hg : Tryd.prog.globalNamed "signet/keyset.algorithms" = some 0 := by kernel_rfl
  obtain rfl := Option.some.inj (hg.symm.trans hg')
  have hty : (Tryd.prog.globals[0]?).map (·.type) = some 43 := by kernel_rfl
  obtain rfl := Option.some.inj (hty.symm.trans ht')
  have e := cells_of_algs hd
  intro j v hv
  have hj : j < 39 := (List.getElem?_eq_some_iff.1 hv).1
  have hc := World.var?_cell hg hvar j
  rw [Nat.zero_add]
  rw [hc, ← Array.getElem?_toList]
  obtain ⟨a0, a1, a2⟩ := alg_row (j / 3) (by omega)
  obtain ⟨b0, b1, b2⟩ := e (j / 3) (by omega)
  rcases (show j = j / 3 * 3 ∨ j = j / 3 * 3 + 1 ∨ j = j / 3 * 3 + 2 by omega) with h | h | h
  · rw [h] at hv ⊢
    exact b0.trans (a0.symm.trans hv)
  · rw [h] at hv ⊢
    exact b1.trans (a1.symm.trans hv)
  · rw [h] at hv ⊢
    exact b2.trans (a2.symm.trans hv)

/-- What the row's list gives: unicode/utf8's tables, the two errors that strconv names. -/
theorem laidGL {W : World} (h : laidMetH Tryd.prog [("math/bits.deBruijn32tab", Rows.laid_math_bits_deBruijn32tab), ("math/bits.deBruijn64tab", Rows.laid_math_bits_deBruijn64tab), ("internal/strconv.uint64pow10", Rows.laid_internal_strconv_uint64pow10), ("unicode/utf8.acceptRanges", Rows.laid_unicode_utf8_acceptRanges), ("strconv.ErrRange", Rows.laid_strconv_ErrRange), ("strconv.ErrSyntax", Rows.laid_strconv_ErrSyntax), ("signet/keyset.algorithms", Rows.laid_signet_keyset_algorithms), ("unicode/utf8.first", Rows.laid_unicode_utf8_first)] W) : GL W.heap.size W ∧ Alg W ∧ 0 < W.heap.size := by
  rw [MakeChecks.laidMetH_plain _ _ _ (by kernel_rfl)] at h
  have h4 := h.tail.tail.tail.tail
  obtain ⟨a2, s2, hv2, _⟩ := laid_sentinel h4 gRange gRangeType Tryd.underlying101 rowErr Tryd.underlying128 Tryd.underlying130 rfl rfl Tryd.underlying9 cellsErr cellsStr
  obtain ⟨a1, s1, hv1, _⟩ := laid_sentinel h4.tail gSyntax gSyntaxType Tryd.underlying101 rowErr Tryd.underlying128 Tryd.underlying130 rfl rfl Tryd.underlying9 cellsErr cellsStr
  have hU : U8 W := utf8Tabs_of_readsT (ρ := Tryd.laysValid_ren) (U8Types.of196 Tryd.laysValid) ⟨by kernel_rfl, by kernel_rfl, by kernel_rfl, by kernel_rfl, by kernel_rfl, by kernel_rfl, by kernel_rfl⟩
    (dFirst ▸ Lib.laidMet.reads h (.tail _ (.tail _ (.tail _ (.tail _ (.tail _ (.tail _ (.tail _ (.head _))))))))) (dAcc ▸ Lib.laidMet.reads h (.tail _ (.tail _ (.tail _ (.head _)))))
  have h8 : 8 ≤ W.heap.size := by
    obtain ⟨g', t', cs, fuel, p, hg', ht', hvar, hd⟩ := Lib.laidMet.reads h (.tail _ (.head _))
    have hg : Tryd.prog.globalNamed "math/bits.deBruijn64tab" = some 7 := by kernel_rfl
    obtain rfl := Option.some.inj (hg.symm.trans hg')
    have hty : (Tryd.prog.globals[7]?).map (·.type) = some 146 := by kernel_rfl
    obtain rfl := Option.some.inj (hty.symm.trans ht')
    have hc := World.var?_cell hg hvar 0
    have hlen : cs.toList.length = 64 := by
      cases fuel with
      | zero => simp [DataW.trod] at hd
      | succ fuel =>
        simp only [DataW.trod, Tryd.underlying146, cellsU8', cellsB64] at hd
        split at hd
        · rename_i hl
          simpa using hl
        · cases hd
    have h0 : 0 < cs.size := by rw [← Array.length_toList, hlen]; decide
    rw [Array.getElem?_eq_getElem h0] at hc
    exact World.block_lt_of_cell? _ _ hc
  have hA : Alg W := alg_reads (Lib.laidMet.reads h (.tail _ (.tail _ (.tail _ (.tail _ (.tail _ (.tail _ (.head _))))))))
  exact ⟨⟨h8, hU, ⟨_, _, _, _, hv1, hv2⟩⟩, hA, World.block_lt_of_cell? _ _ (hA 0 _ (show algCs[0]? = some _ from rfl))⟩

theorem bulk_pos {H : Type} (d : DataW H) : 1 ≤ Rows.uptoBulk d := by
  cases d with
  | lit l => cases l <;> simp [Rows.uptoBulk]
  | _ => simp [Rows.uptoBulk]
theorem bulk_len {H : Type} : ∀ l : List (DataW H), l.length ≤ Rows.uptoBulkAll l
  | [] => by simp [Rows.uptoBulkAll]
  | d :: r => by
    have h1 := bulk_pos d
    have h2 := bulk_len r
    simp only [Rows.uptoBulkAll, List.length_cons]
    omega
theorem bulk_mem {H : Type} : ∀ (l : List (DataW H)) (d : DataW H), d ∈ l → Rows.uptoBulk d ≤ Rows.uptoBulkAll l
  | [], _, h => by simp at h
  | x :: r, d, h => by
    simp only [Rows.uptoBulkAll]
    rcases List.mem_cons.1 h with rfl | h
    · omega
    · have := bulk_mem r d h
      omega
theorem bulk_slice {H : Type} (es ss : List (DataW H)) : es.length + ss.length ≤ Rows.uptoBulk (.slice es ss) := by
  have := bulk_len es
  have := bulk_len ss
  simp only [Rows.uptoBulk]
  omega

instance : Inhabited Nd := ⟨nd0 0⟩

theorem cellsNd : Tryd.prog.cellsOf 36 = 6 := by kernel_rfl

set_option maxRecDepth 100000 in
/-- A node, by its cells. -/
theorem open_node {H : Type} {enc : TypeId × Value → H} {W : World} {held : Bool} {cs : List Value} {d : DataW H} {p : List MemPlace} {fuel : Nat}
    (hf : DataW.trod enc Tryd.prog W 0 (fun _ => true) held fuel 36 cs = some (d, p)) :
    ∃ x : Nd, cs = nC x ∧ x.text.length ≤ Rows.uptoBulk d ∧ x.key.length ≤ Rows.uptoBulk d := by
  obtain ⟨xs, n, _, hx, hl, hlen, hff⟩ := DataW.trod_struct Tryd.underlying36 hf
  rw [cellsNd] at hl
  match xs, hlen with
  | [y0, y1, y2, y3, y4, y5], _ =>
    have h0 := hff 0 _ rfl
    have h1 := hff 1 _ rfl
    have h2 := hff 2 _ rfl
    have h3 := hff 3 _ rfl
    have h4 := hff 4 _ rfl
    have h5 := hff 5 _ rfl
    match cs, hl with
    | [c0, c1, c2, c3, c4, c5], _ =>
      have h0 : DataW.trod enc Tryd.prog W 0 (fun _ => true) held n 34 [c0] = some y0 := h0
      have h1 : DataW.trod enc Tryd.prog W 0 (fun _ => true) held n 9 [c1] = some y1 := h1
      have h2 : DataW.trod enc Tryd.prog W 0 (fun _ => true) held n 9 [c2] = some y2 := h2
      have h3 : DataW.trod enc Tryd.prog W 0 (fun _ => true) held n 4 [c3] = some y3 := h3
      have h4 : DataW.trod enc Tryd.prog W 0 (fun _ => true) held n 2 [c4] = some y4 := h4
      have h5 : DataW.trod enc Tryd.prog W 0 (fun _ => true) held n 3 [c5] = some y5 := h5
      obtain ⟨k, e0, _, _⟩ := DataW.trod_int Tryd.underlying34 h0
      obtain ⟨s1, e1, f1, _⟩ := DataW.trod_string Tryd.underlying9 h1
      obtain ⟨s2, e2, f2, _⟩ := DataW.trod_string Tryd.underlying9 h2
      obtain ⟨b, e3, _⟩ := DataW.trod_bool Tryd.underlying4 h3
      obtain ⟨i, e4, _, _⟩ := DataW.trod_int Tryd.underlying2 h4
      obtain ⟨m, e5, _, _⟩ := DataW.trod_int Tryd.underlying3 h5
      simp only [List.cons.injEq, and_true] at e0 e1 e2 e3 e4 e5
      have hd := (Prod.mk.inj hx).1
      refine ⟨⟨k, s1.data.toList, s2.data.toList, b, i, m⟩, by rw [e0, e1, e2, e3, e4, e5]; simp [nC], ?_, ?_⟩
      · rw [hd]
        simp only [List.map_cons, Rows.uptoBulk, Rows.uptoBulkAll, f2]
        omega
      · rw [hd]
        simp only [List.map_cons, Rows.uptoBulk, Rows.uptoBulkAll, f1]
        omega

theorem nCs_ix {l : List Nd} {j : Nat} {u : Value} (h : (nCs l)[j]? = some u) : j / 6 < l.length ∧ (nC (l.getD (j / 6) (nd0 0)))[j % 6]? = some u := by
  induction l generalizing j with
  | nil => simp [nCs] at h
  | cons n l ih =>
    have e : nCs (n :: l) = nC n ++ nCs l := rfl
    rw [e] at h
    have h6 : (nC n).length = 6 := rfl
    by_cases hj : j < 6
    · rw [List.getElem?_append_left (by omega)] at h
      rw [Nat.div_eq_of_lt hj, Nat.mod_eq_of_lt hj]
      exact ⟨by simp, by simpa using h⟩
    · rw [List.getElem?_append_right (by omega), h6] at h
      obtain ⟨h1, h2⟩ := ih h
      have hd : j / 6 = (j - 6) / 6 + 1 := by omega
      have hm : j % 6 = (j - 6) % 6 := by omega
      rw [hd, hm]
      exact ⟨by simp; omega, by rw [List.getD_cons_succ]; exact h2⟩

/-- A list of nodes that came in. -/
theorem open_nodes {H : Type} {enc : TypeId × Value → H} {W : World} {held : Bool} {v : Value} {d : DataW H} {p : List MemPlace} {fuel : Nat} {a : Option Addr} {len cap : Nat} (hv : v = .slice a len cap)
    (hf : DataW.trod enc Tryd.prog W 0 (fun _ => true) held fuel 22 v.cells.toList = some (d, p)) :
    ∃ os : List Nd, NR W v os a cap ∧ os.length ≤ Rows.uptoBulk d ∧ (∀ x ∈ os, x.text.length ≤ Rows.uptoBulk d ∧ x.key.length ≤ Rows.uptoBulk d) ∧ (a = none → cap = 0) := by
  subst hv
  rcases open_slice Tryd.underlying22 hf with ⟨hcs, hx⟩ | ⟨x, len', cap', m, n, D, Pl, hcs, _, hl, hm, hmm, hx, hall⟩
  · simp [Value.cells] at hcs
    obtain ⟨rfl, rfl, rfl⟩ := hcs
    exact ⟨[], ⟨rfl, Nat.le_refl _, .inl rfl⟩, Nat.zero_le _, (fun p hp => by cases hp), fun _ => rfl⟩
  · simp [Value.cells] at hcs
    obtain ⟨rfl, rfl, rfl⟩ := hcs
    simp only [if_true] at hmm
    subst hmm
    simp only [Prod.mk.injEq] at hx
    have hz : ∀ i, i < m → ∃ s : Nd, (∀ j u, j < 6 → (nC s)[j]? = some u → W.cell? (x.add (i * 6 + j)) = some u) ∧ (s.text.length ≤ Rows.uptoBulk (D i) ∧ s.key.length ≤ Rows.uptoBulk (D i)) := fun i hi => by
      obtain ⟨cs, h1, h2⟩ := hall i hi
      obtain ⟨s, e, h3⟩ := open_node h2
      rw [cellsNd] at h1
      obtain ⟨_, _, hcell⟩ := World.cells?_some h1
      rw [e] at hcell
      refine ⟨s, fun j u hj hu => ?_, h3⟩
      have c0 := hcell j hj
      rw [add_add] at c0
      rw [c0]
      exact hu
    obtain ⟨Q, hQ⟩ := choose_lt (α := Nd) (p := fun i s => (∀ j u, j < 6 → (nC s)[j]? = some u → W.cell? (x.add (i * 6 + j)) = some u) ∧ (s.text.length ≤ Rows.uptoBulk (D i) ∧ s.key.length ≤ Rows.uptoBulk (D i))) hz
    have hbk : len ≤ Rows.uptoBulk d := by
      rw [hx.1]
      refine Nat.le_trans ?_ (bulk_slice _ _)
      simp
    have hgq : ∀ i, i < len → ((List.range len).map Q).getD i (nd0 0) = Q i := fun i hi => by
      rw [List.getD_eq_getElem?_getD, List.getElem?_map, List.getElem?_range hi]
      rfl
    refine ⟨(List.range len).map Q, ⟨by simp, by simpa using hl, ?_⟩, by simpa using hbk, fun q hq => ?_, fun e => by cases e⟩
    · by_cases h0 : len = 0
      · subst h0; exact .inl (by simp)
      · obtain ⟨b, off, spot⟩ := x
        have hc := (hQ 0 (by omega)).1 0 _ (by omega) rfl
        have hspot : spot = none := by simpa [Addr.add] using World.cell?_spot hc
        subst hspot
        refine .inr ⟨b, off, rfl, World.block_lt_of_cell? W _ (by simpa [Addr.add] using hc), fun j u hu => ?_⟩
        obtain ⟨h1, h2⟩ := nCs_ix hu
        have hj : j / 6 < len := by simpa using h1
        rw [hgq _ hj] at h2
        have h3 := (hQ (j / 6) (by omega)).1 (j % 6) u (Nat.mod_lt _ (by omega)) h2
        rw [Addr.add_lit, show j / 6 * 6 + j % 6 = j by omega] at h3
        exact h3
    · obtain ⟨i, hi, rfl⟩ := List.mem_map.1 hq
      have hi' := List.mem_range.1 hi
      have h1 := (hQ i (by omega)).2
      have h2 : Rows.uptoBulk (D i) ≤ Rows.uptoBulk d := by
        rw [hx.1]
        have := bulk_mem ((List.range len).map D) (D i) (List.mem_map.2 ⟨i, hi, rfl⟩)
        simp only [Rows.uptoBulk]
        omega
      omega

/-- Texts that came in. -/
theorem open_texts {H : Type} {enc : TypeId × Value → H} {W : World} {held : Bool} {c : Value} {d : DataW H} {p : List MemPlace} {fuel : Nat}
    (hf : DataW.trod enc Tryd.prog W 0 (fun _ => true) held fuel 24 [c] = some (d, p)) :
    ∃ (ao : Option Addr) (cap : Nat) (l : List (List UInt8)), c = .slice ao l.length cap ∧ TR W (.slice ao l.length cap) l ao cap ∧ l.length ≤ maxLen ∧ l.length ≤ Rows.uptoBulk d ∧ (ao = none → cap = 0) ∧ ∀ x ∈ l, x.length ≤ Rows.uptoBulk d := by
  rcases open_slice Tryd.underlying24 hf with ⟨hcs, hx⟩ | ⟨x, len, cap, m, n, D, Pl, hcs, _, hl, hm, hmm, hx, hall⟩
  · simp only [List.cons.injEq, and_true] at hcs
    exact ⟨none, 0, [], hcs, ⟨rfl, Nat.le_refl _, .inl rfl⟩, Nat.zero_le _, Nat.zero_le _, fun _ => rfl, fun x hx => by simp at hx⟩
  · simp only [List.cons.injEq, and_true] at hcs
    simp only [if_true] at hmm
    subst hmm
    simp only [Prod.mk.injEq] at hx
    have hz : ∀ i, i < m → ∃ s : List UInt8, W.cell? (x.add i) = some (.string ⟨s.toArray⟩) ∧ s.length ≤ Rows.uptoBulk (D i) := fun i hi => by
      obtain ⟨cs, h1, h2⟩ := hall i hi
      obtain ⟨s, e, hsl, _⟩ := DataW.trod_string Tryd.underlying9 h2
      rw [cellsStr, Nat.mul_one] at h1
      obtain ⟨_, _, hcell⟩ := World.cells?_some h1
      have c0 := hcell 0 (by decide)
      rw [e] at c0
      refine ⟨s.data.toList, ?_, by rw [(Prod.mk.inj hsl).1]; simp only [Rows.uptoBulk]; omega⟩
      rw [← str_of]
      simpa [Addr.add] using c0
    obtain ⟨Q, hQ⟩ := choose_lt (α := List UInt8) (p := fun i s => W.cell? (x.add i) = some (.string ⟨s.toArray⟩) ∧ s.length ≤ Rows.uptoBulk (D i)) hz
    have hbk : len ≤ Rows.uptoBulk d := by
      rw [hx.1]
      refine Nat.le_trans ?_ (bulk_slice _ _)
      simp
    have hgq : ∀ i, i < len → ((List.range len).map Q).getD i [] = Q i := fun i hi => by
      rw [List.getD_eq_getElem?_getD, List.getElem?_map, List.getElem?_range hi]
      rfl
    have hln : ((List.range len).map Q).length = len := by simp
    refine ⟨some x, m, (List.range len).map Q, by rw [hln]; exact hcs, ⟨rfl, by rw [hln]; exact hl, ?_⟩, by rw [hln]; omega, by rw [hln]; exact hbk, fun e => (by cases e), fun y hy => by
      obtain ⟨i, hi, rfl⟩ := List.mem_map.1 hy
      have hi' := List.mem_range.1 hi
      have h1 := (hQ i (by omega)).2
      have h2 : Rows.uptoBulk (D i) ≤ Rows.uptoBulk d := by
        rw [hx.1]
        have := bulk_mem ((List.range len).map D) (D i) (List.mem_map.2 ⟨i, hi, rfl⟩)
        simp only [Rows.uptoBulk]
        omega
      omega⟩
    by_cases h0 : len = 0
    · subst h0; exact .inl (by simp)
    · obtain ⟨b, off, spot⟩ := x
      have hc := (hQ 0 (by omega)).1
      have hspot : spot = none := by simpa [Addr.add] using World.cell?_spot hc
      subst hspot
      refine .inr ⟨b, off, rfl, World.block_lt_of_cell? W _ (by simpa [Addr.add] using hc), fun j hj => ?_⟩
      rw [hln] at hj
      rw [hgq j hj]
      have h3 := (hQ j (by omega)).1
      rwa [Addr.add_lit] at h3

instance : Inhabited Ex := ⟨zeroX⟩
theorem cellsEn : Tryd.prog.cellsOf 26 = 10 := by kernel_rfl
theorem open_nodesC {H : Type} {enc : TypeId × Value → H} {W : World} {held : Bool} {c : Value} {d : DataW H} {p : List MemPlace} {fuel : Nat}
    (hf : DataW.trod enc Tryd.prog W 0 (fun _ => true) held fuel 22 [c] = some (d, p)) :
    ∃ (ao : Option Addr) (cap : Nat) (l : List Nd), c = .slice ao l.length cap ∧ NR W (.slice ao l.length cap) l ao cap ∧ l.length ≤ Rows.uptoBulk d ∧ (∀ x ∈ l, x.text.length ≤ Rows.uptoBulk d ∧ x.key.length ≤ Rows.uptoBulk d) ∧ (ao = none → cap = 0) := by
  have hc : ∃ a len cap, c = .slice a len cap := by
    rcases open_slice Tryd.underlying22 hf with ⟨hcs, _⟩ | ⟨x, len, cap, m, n, D, Pl, hcs, _⟩
    · simp only [List.cons.injEq, and_true] at hcs
      exact ⟨_, _, _, hcs⟩
    · simp only [List.cons.injEq, and_true] at hcs
      exact ⟨_, _, _, hcs⟩
  obtain ⟨a, len, cap, rfl⟩ := hc
  obtain ⟨os, h1, h2, h3, h4⟩ := open_nodes (v := .slice a len cap) rfl hf
  obtain ⟨e, _, _⟩ := id h1
  injection e with e1 e2 e3
  subst e2
  exact ⟨a, cap, os, rfl, h1, h2, h3, h4⟩

set_option maxRecDepth 100000 in
/-- An entry, by its cells. -/
theorem open_entry {H : Type} {enc : TypeId × Value → H} {W : World} {held : Bool} {cs : List Value} {d : DataW H} {p : List MemPlace} {fuel : Nat}
    (hf : DataW.trod enc Tryd.prog W 0 (fun _ => true) held fuel 26 cs = some (d, p)) :
    ∃ x : Ex, cs = xC x ∧ XR W x ∧ x.e.val.length ≤ Rows.uptoBulk d ∧ x.e.ops.length ≤ Rows.uptoBulk d ∧ (∀ z ∈ x.e.val, z.text.length ≤ Rows.uptoBulk d ∧ z.key.length ≤ Rows.uptoBulk d) ∧ ∀ z ∈ x.e.ops, z.length ≤ Rows.uptoBulk d := by
  obtain ⟨xs, n, _, hx, hl, hlen, hff⟩ := DataW.trod_struct Tryd.underlying26 hf
  rw [cellsEn] at hl
  match xs, hlen with
  | [y0, y1, y2, y3, y4, y5, y6, y7, y8, y9], _ =>
    match cs, hl with
    | [c0, c1, c2, c3, c4, c5, c6, c7, c8, c9], _ =>
      have h0 : DataW.trod enc Tryd.prog W 0 (fun _ => true) held n 22 [c0] = some y0 := hff 0 _ rfl
      have h1 : DataW.trod enc Tryd.prog W 0 (fun _ => true) held n 23 [c1] = some y1 := hff 1 _ rfl
      have h2 : DataW.trod enc Tryd.prog W 0 (fun _ => true) held n 9 [c2] = some y2 := hff 2 _ rfl
      have h3 : DataW.trod enc Tryd.prog W 0 (fun _ => true) held n 4 [c3] = some y3 := hff 3 _ rfl
      have h4 : DataW.trod enc Tryd.prog W 0 (fun _ => true) held n 9 [c4] = some y4 := hff 4 _ rfl
      have h5 : DataW.trod enc Tryd.prog W 0 (fun _ => true) held n 4 [c5] = some y5 := hff 5 _ rfl
      have h6 : DataW.trod enc Tryd.prog W 0 (fun _ => true) held n 9 [c6] = some y6 := hff 6 _ rfl
      have h7 : DataW.trod enc Tryd.prog W 0 (fun _ => true) held n 4 [c7] = some y7 := hff 7 _ rfl
      have h8 : DataW.trod enc Tryd.prog W 0 (fun _ => true) held n 24 [c8] = some y8 := hff 8 _ rfl
      have h9 : DataW.trod enc Tryd.prog W 0 (fun _ => true) held n 4 [c9] = some y9 := hff 9 _ rfl
      obtain ⟨va, vc, val, e0, r0, b0, t0, n0⟩ := open_nodesC (d := y0.1) (p := y0.2) h0
      obtain ⟨kty, e1, _, _⟩ := DataW.trod_int Tryd.underlying23 h1
      obtain ⟨kid, e2, _, _⟩ := DataW.trod_string Tryd.underlying9 h2
      obtain ⟨hKid, e3, _⟩ := DataW.trod_bool Tryd.underlying4 h3
      obtain ⟨use, e4, _, _⟩ := DataW.trod_string Tryd.underlying9 h4
      obtain ⟨hUse, e5, _⟩ := DataW.trod_bool Tryd.underlying4 h5
      obtain ⟨alg, e6, _, _⟩ := DataW.trod_string Tryd.underlying9 h6
      obtain ⟨hAlg, e7, _⟩ := DataW.trod_bool Tryd.underlying4 h7
      obtain ⟨aa, ac, ops, e8, r8, _, b8, n8, t8⟩ := open_texts (d := y8.1) (p := y8.2) h8
      obtain ⟨hOps, e9, _⟩ := DataW.trod_bool Tryd.underlying4 h9
      simp only [List.cons.injEq, and_true] at e1 e2 e3 e4 e5 e6 e7 e9
      have hd := (Prod.mk.inj hx).1
      refine ⟨⟨⟨val, kty, kid.data.toList, hKid, use.data.toList, hUse, alg.data.toList, hAlg, ops, hOps⟩, va, vc, aa, ac⟩, by rw [e0, e1, e2, e3, e4, e5, e6, e7, e8, e9]; simp [xC], ⟨r0, r8, n0, n8⟩, ?_⟩
      have hb : Rows.uptoBulk y0.1 ≤ Rows.uptoBulk d ∧ Rows.uptoBulk y8.1 ≤ Rows.uptoBulk d := by
        rw [hd]
        simp only [List.map_cons, Rows.uptoBulk, Rows.uptoBulkAll]
        omega
      exact ⟨by dsimp only; omega, by dsimp only; omega, fun z hz => by have := t0 z hz; omega, fun z hz => by have := t8 z hz; omega⟩

set_option maxRecDepth 100000 in
/-- An entry that came in. -/
theorem open_entryV {H : Type} {enc : TypeId × Value → H} {W : World} {held : Bool} {v : Value} {d : DataW H} {p : List MemPlace} {fuel base : Nat} (hv : Value.okWide Tryd.prog W .any base 26 v)
    (hf : DataW.trod enc Tryd.prog W 0 (fun _ => true) held fuel 26 v.cells.toList = some (d, p)) :
    ∃ x : Ex, v = .agg (xC x).toArray ∧ XR W x ∧ x.e.val.length ≤ Rows.uptoBulk d ∧ x.e.ops.length ≤ Rows.uptoBulk d ∧ (∀ z ∈ x.e.val, z.text.length ≤ Rows.uptoBulk d ∧ z.key.length ≤ Rows.uptoBulk d) ∧ ∀ z ∈ x.e.ops, z.length ≤ Rows.uptoBulk d := by
  obtain ⟨vs, rfl, _⟩ := okWide_struct Tryd.underlying26 hv
  have hcs : (Value.agg vs).cells.toList = vs.toList := rfl
  rw [hcs] at hf
  obtain ⟨x, e, r⟩ := open_entry hf
  obtain ⟨cs⟩ := vs
  have e2 : cs = xC x := e
  subst e2
  exact ⟨x, rfl, r⟩

set_option maxRecDepth 100000 in
/-- What the law wants of every world behind. -/
theorem laidLQ {W : World} (h : GL W.heap.size W ∧ Alg W ∧ 0 < W.heap.size) : ∀ wq, Below W.heap.size W wq → GL wq.heap.size wq ∧ Alg wq ∧ 0 < wq.heap.size :=
  fun _ hq => ⟨(h.1.below hq).up hq.size, h.2.1.below hq h.2.2, Nat.lt_of_lt_of_le h.2.2 hq.size⟩

set_option maxRecDepth 100000 in
/-- The law, rebound's contract in it. -/
theorem binds16_top (x : Ex) (a : Int) (k : Nat) (w : World) (h : XR w x) (hL : GL w.heap.size w ∧ Alg w ∧ 0 < w.heap.size) (hk : k ≤ 1048576) (hln : x.e.val.length ≤ k) (hla : x.e.ops.length ≤ k) (hts : ∀ z ∈ x.e.val, z.text.length ≤ k ∧ z.key.length ≤ k) (hml : ∀ z ∈ x.e.ops, z.length ≤ k) :
    Calls Tryd.prog 3 #[.agg (xC x).toArray, .int .i64 a] w fun r w' => r = .returned (.bool true) ∧ Below w.heap.size w w' :=
  binds16_any x a w h (laidLQ hL) (fun z hz => ⟨Nat.le_trans (hts z hz).1 hk, Nat.le_trans (hts z hz).2 hk⟩) (fun z hz => Nat.le_trans (hml z hz) hk) (Nat.le_trans hln hk) (Nat.le_trans hla hk)
    (fun wq hq => rebound_any a wq fun wz hz => laidLQ hL wz (hq.trans (hz.mono hq.size)))

end Go.Proofs.YtkfchdmlemcjhaaDoor
