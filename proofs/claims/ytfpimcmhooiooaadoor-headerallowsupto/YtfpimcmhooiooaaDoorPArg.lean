import Derived.Test.YtfpimcmhooiooaaDoorHe
import Derived.Test.YtfpimcmhooiooaaDoorCards
import Derived.Test.YtfpimcmhooiooaaDoorTie
import Derived.ProofKit
import Derived.OpenShut
import Derived.ShutString
import Derived.ChangeOld
import Derived.SizedLaws
import Derived.JoinedCond
import Derived.Deep.DeepHandedRow
import Derived.Deep.Slices
import Derived.Deep.Strs
import Derived.Lay
import Derived.Stop.LaidErr
import Derived.Deep.DeepWitnessRowRef
import Derived.Lib.LaidTab
import Derived.Lib.LaidU8
import Derived.Carry
namespace Go.Proofs.YtfpimcmhooiooaaDoor
open Go.ChangeShapes Go.WideShapes Go.ChangeAt Go.RowKit Go.Deep

theorem ownK : ownKnob Tryd.prog.godebug = none := by kernel_rfl
theorem laidO : laidOutB Tryd.prog = true := by kernel_rfl
theorem str_of (a : ByteArray) : a = ⟨a.data.toList.toArray⟩ := by cases a; simp

theorem cellsStr : Tryd.prog.cellsOf 9 = 1 := by kernel_rfl

set_option maxRecDepth 100000 in
theorem alg_row : ∀ i, i < 13 → algCs[i * 3]? = some (.string ⟨(algN i).toArray⟩) ∧ algCs[i * 3 + 1]? = some (.int .i64 (algK i)) ∧ algCs[i * 3 + 2]? = some (.string ⟨(algC i).toArray⟩) := by
  intro k hk
  rcases (show k = 0 ∨ k = 1 ∨ k = 2 ∨ k = 3 ∨ k = 4 ∨ k = 5 ∨ k = 6 ∨ k = 7 ∨ k = 8 ∨ k = 9 ∨ k = 10 ∨ k = 11 ∨ k = 12 by omega) with rfl | rfl | rfl | rfl | rfl | rfl | rfl | rfl | rfl | rfl | rfl | rfl | rfl <;> exact ⟨rfl, rfl, rfl⟩

theorem cellsS : Tryd.prog.cellsOf 9 = 1 := by kernel_rfl
theorem cellsKt : Tryd.prog.cellsOf 45 = 1 := by kernel_rfl
theorem cellsAo : Tryd.prog.cellsOf 47 = 3 := by kernel_rfl
theorem cellsAs : Tryd.prog.cellsOf 48 = 39 := by kernel_rfl

set_option maxRecDepth 100000 in
/-- A table that reads as the algorithms holds them, cell for cell. -/
theorem cells_of_algs {H : Type} {enc : TypeId × Value → H} {w : World} {base : Nat} {sp : Nat → Bool} {held : Bool} {fuel : Nat} {cs : List Value} {p : List MemPlace}
    (h : DataW.trod enc Tryd.prog w base sp held fuel 48 cs = some (.agg (algT.map fun r => .agg [.lit (.string r.1), .lit (.int .i64 r.2.1), .lit (.string r.2.2)]), p)) :
    ∀ i, i < 13 → cs[i * 3]? = some (.string ⟨(algN i).toArray⟩) ∧ cs[i * 3 + 1]? = some (.int .i64 (algK i)) ∧ cs[i * 3 + 2]? = some (.string ⟨(algC i).toArray⟩) := by
  have ht := Tryd.underlying48
  cases fuel with
  | zero => simp [DataW.trod] at h
  | succ fuel =>
    simp only [DataW.trod, ht, cellsAo, cellsAs] at h
    split at h
    · rename_i hl
      obtain ⟨xs, hm, hx⟩ := Option.map_eq_some_iff.1 h
      have hxs : xs.map (·.1) = algT.map fun r => (DataW.agg [.lit (.string r.1), .lit (.int .i64 r.2.1), .lit (.string r.2.2)] : DataW H) := by
        have := congrArg Prod.fst hx
        simpa using this
      intro i hi
      obtain ⟨b, hb, hf⟩ := Lib.mapM_at hm i i (by simp [hi])
      have hr : ∃ r, algT[i]? = some r ∧ b.1 = .agg [.lit (.string r.1), .lit (.int .i64 r.2.1), .lit (.string r.2.2)] := by
        have h2 : (xs.map (·.1))[i]? = some b.1 := by rw [List.getElem?_map, hb]; rfl
        rw [hxs, List.getElem?_map, Option.map_eq_some_iff] at h2
        obtain ⟨r, h3, h4⟩ := h2
        exact ⟨r, h3, h4.symm⟩
      obtain ⟨r, hr1, hr2⟩ := hr
      have hN : algN i = r.1 ∧ algK i = r.2.1 ∧ algC i = r.2.2 := by
        unfold algN algK algC
        rw [List.getD_eq_getElem?_getD, hr1]
        exact ⟨rfl, rfl, rfl⟩
      obtain ⟨y0, y1, y2, n, hy, hln, h0, h1, h2⟩ := trod_struct3 Tryd.underlying47 hf
      have h0 : DataW.trod enc Tryd.prog w base sp held n 9 ((((cs.drop (i * 3)).take 3).drop 0).take 1) = some y0 := h0
      have h1 : DataW.trod enc Tryd.prog w base sp held n 45 ((((cs.drop (i * 3)).take 3).drop 1).take 1) = some y1 := h1
      have h2 : DataW.trod enc Tryd.prog w base sp held n 9 ((((cs.drop (i * 3)).take 3).drop 2).take 1) = some y2 := h2
      obtain ⟨s0, e0, f0, _⟩ := DataW.trod_string Tryd.underlying9 h0
      obtain ⟨k1, e1, f1, _⟩ := DataW.trod_int Tryd.underlying45 h1
      obtain ⟨s2, e2, f2, _⟩ := DataW.trod_string Tryd.underlying9 h2
      have g0 : cs[i * 3]? = some (.string s0) := by
        have := congrArg (·[0]?) e0
        simpa [List.getElem?_take, List.getElem?_drop] using this
      have g1 : cs[i * 3 + 1]? = some (.int .i64 k1) := by
        have := congrArg (·[0]?) e1
        simpa [List.getElem?_take, List.getElem?_drop] using this
      have g2 : cs[i * 3 + 2]? = some (.string s2) := by
        have := congrArg (·[0]?) e2
        simpa [List.getElem?_take, List.getElem?_drop] using this
      rw [hy] at hr2
      simp only [f0, f1, f2, DataW.agg.injEq, List.cons.injEq, DataW.lit.injEq, Lit.string.injEq, Lit.int.injEq, true_and, and_true] at hr2
      rw [hN.1, hN.2.1, hN.2.2, ← hr2.1, ← hr2.2.1, ← hr2.2.2, g0, g1, g2]
      exact ⟨by rw [← str_of], rfl, by rw [← str_of]⟩
    · cases h

set_option maxRecDepth 100000 in
theorem alg_reads {W : World} (h : Lib.VarReads Tryd.prog W "signet/keyset.algorithms" Rows.laid_signet_keyset_algorithms) : Alg W := by
  obtain ⟨g', t', cs, fuel, p, hg', ht', hvar, hd⟩ := h
  have hg : Tryd.prog.globalNamed "signet/keyset.algorithms" = some 0 := by kernel_rfl
  obtain rfl := Option.some.inj (hg.symm.trans hg')
  have hty : (Tryd.prog.globals[0]?).map (·.type) = some 48 := by kernel_rfl
  obtain rfl := Option.some.inj (hty.symm.trans ht')
  have e := cells_of_algs hd
  intro j v hv
  have hj : j < 39 := (List.getElem?_eq_some_iff.1 hv).1
  have hc := World.var?_cell hg hvar j
  rw [Nat.zero_add]
  rw [hc, ← Array.getElem?_toList]
  obtain ⟨a0, a1, a2⟩ := alg_row (j / 3) (by omega)
  obtain ⟨b0, b1, b2⟩ := e (j / 3) (by omega)
  rcases (show j = j / 3 * 3 ∨ j = j / 3 * 3 + 1 ∨ j = j / 3 * 3 + 2 by omega) with h | h | h
  · rw [h] at hv ⊢
    exact b0.trans (a0.symm.trans hv)
  · rw [h] at hv ⊢
    exact b1.trans (a1.symm.trans hv)
  · rw [h] at hv ⊢
    exact b2.trans (a2.symm.trans hv)

theorem bulk_pos {H : Type} (d : DataW H) : 1 ≤ Rows.uptoBulk d := by
  cases d with
  | lit l => cases l <;> simp [Rows.uptoBulk]
  | _ => simp [Rows.uptoBulk]
theorem bulk_len {H : Type} : ∀ l : List (DataW H), l.length ≤ Rows.uptoBulkAll l
  | [] => by simp [Rows.uptoBulkAll]
  | d :: r => by
    have h1 := bulk_pos d
    have h2 := bulk_len r
    simp only [Rows.uptoBulkAll, List.length_cons]
    omega
theorem bulk_mem {H : Type} : ∀ (l : List (DataW H)) (d : DataW H), d ∈ l → Rows.uptoBulk d ≤ Rows.uptoBulkAll l
  | [], _, h => by simp at h
  | x :: r, d, h => by
    simp only [Rows.uptoBulkAll]
    rcases List.mem_cons.1 h with rfl | h
    · omega
    · have := bulk_mem r d h
      omega
theorem bulk_slice {H : Type} (es ss : List (DataW H)) : es.length + ss.length ≤ Rows.uptoBulk (.slice es ss) := by
  have := bulk_len es
  have := bulk_len ss
  simp only [Rows.uptoBulk]
  omega


theorem cellsHd : Tryd.prog.cellsOf 27 = 4 := by kernel_rfl
theorem cellsPl : Tryd.prog.cellsOf 24 = 9 := by kernel_rfl
instance : Inhabited (List UInt8) := ⟨[]⟩

/-- What the row's list gives: the algorithms. -/
theorem laidA {W : World} (h : laidMetH Tryd.prog [("signet/keyset.algorithms", Rows.laid_signet_keyset_algorithms)] W) : Alg W := by
  rw [MakeChecks.laidMetH_plain _ _ _ (by kernel_rfl)] at h
  exact alg_reads (Lib.laidMet.reads h (.head _))

set_option maxRecDepth 100000 in
/-- A header that came in. -/
theorem open_header {H : Type} {enc : TypeId × Value → H} {W : World} {held : Bool} {v : Value} {d : DataW H} {p : List MemPlace} {fuel base : Nat} (hv : Value.okWide Tryd.prog W .any base 27 v)
    (hf : DataW.trod enc Tryd.prog W 0 (fun _ => true) held fuel 27 v.cells.toList = some (d, p)) :
    ∃ x : Hd, v = hdV x ∧ x.kid.length ≤ Rows.uptoBulk d ∧ x.typ.length ≤ Rows.uptoBulk d := by
  obtain ⟨vs, rfl, _⟩ := okWide_struct Tryd.underlying27 hv
  have hcs : (Value.agg vs).cells.toList = vs.toList := rfl
  rw [hcs] at hf
  obtain ⟨xs, n, _, hx, hl, hlen, hff⟩ := DataW.trod_struct Tryd.underlying27 hf
  rw [cellsHd] at hl
  match xs, hlen with
  | [y0, y1, y2, y3], _ =>
    have h0 := hff 0 _ rfl
    have h1 := hff 1 _ rfl
    have h2 := hff 2 _ rfl
    have h3 := hff 3 _ rfl
    obtain ⟨cs⟩ := vs
    dsimp only at *
    match cs, hl with
    | [c0, c1, c2, c3], _ =>
      have h0 : DataW.trod enc Tryd.prog W 0 (fun _ => true) held n 25 [c0] = some y0 := h0
      have h1 : DataW.trod enc Tryd.prog W 0 (fun _ => true) held n 9 [c1] = some y1 := h1
      have h2 : DataW.trod enc Tryd.prog W 0 (fun _ => true) held n 9 [c2] = some y2 := h2
      have h3 : DataW.trod enc Tryd.prog W 0 (fun _ => true) held n 4 [c3] = some y3 := h3
      obtain ⟨k, e0, _, _⟩ := DataW.trod_int Tryd.underlying25 h0
      obtain ⟨s1, e1, f1, _⟩ := DataW.trod_string Tryd.underlying9 h1
      obtain ⟨s2, e2, f2, _⟩ := DataW.trod_string Tryd.underlying9 h2
      obtain ⟨b, e3, _⟩ := DataW.trod_bool Tryd.underlying4 h3
      simp only [List.cons.injEq, and_true] at e0 e1 e2 e3
      have hd := (Prod.mk.inj hx).1
      refine ⟨⟨k, s1.data.toList, s2.data.toList, b⟩, by rw [e0, e1, e2, e3]; simp [hdV], ?_, ?_⟩
      · rw [hd]
        simp only [List.map_cons, Rows.uptoBulk, Rows.uptoBulkAll, f1]
        omega
      · rw [hd]
        simp only [List.map_cons, Rows.uptoBulk, Rows.uptoBulkAll, f2]
        omega

/-- Texts that came in. -/
theorem open_texts {H : Type} {enc : TypeId × Value → H} {W : World} {held : Bool} {c : Value} {d : DataW H} {p : List MemPlace} {fuel : Nat}
    (hf : DataW.trod enc Tryd.prog W 0 (fun _ => true) held fuel 22 [c] = some (d, p)) :
    ∃ (ao : Option Addr) (cap : Nat) (l : List (List UInt8)), c = .slice ao l.length cap ∧ TR W (.slice ao l.length cap) l ao cap ∧ l.length ≤ maxLen ∧ l.length ≤ Rows.uptoBulk d ∧ (ao = none → cap = 0) := by
  rcases open_slice Tryd.underlying22 hf with ⟨hcs, hx⟩ | ⟨x, len, cap, m, n, D, Pl, hcs, _, hl, hm, hmm, hx, hall⟩
  · simp only [List.cons.injEq, and_true] at hcs
    exact ⟨none, 0, [], hcs, ⟨rfl, Nat.le_refl _, .inl rfl⟩, Nat.zero_le _, Nat.zero_le _, fun _ => rfl⟩
  · simp only [List.cons.injEq, and_true] at hcs
    simp only [if_true] at hmm
    subst hmm
    simp only [Prod.mk.injEq] at hx
    have hz : ∀ i, i < m → ∃ s : List UInt8, W.cell? (x.add i) = some (.string ⟨s.toArray⟩) := fun i hi => by
      obtain ⟨cs, h1, h2⟩ := hall i hi
      obtain ⟨s, e, _, _⟩ := DataW.trod_string Tryd.underlying9 h2
      rw [cellsStr, Nat.mul_one] at h1
      obtain ⟨_, _, hcell⟩ := World.cells?_some h1
      have c0 := hcell 0 (by decide)
      rw [e] at c0
      refine ⟨s.data.toList, ?_⟩
      rw [← str_of]
      simpa [Addr.add] using c0
    obtain ⟨Q, hQ⟩ := choose_lt (α := List UInt8) (p := fun i s => W.cell? (x.add i) = some (.string ⟨s.toArray⟩)) hz
    have hbk : len ≤ Rows.uptoBulk d := by
      rw [hx.1]
      refine Nat.le_trans ?_ (bulk_slice _ _)
      simp
    have hgq : ∀ i, i < len → ((List.range len).map Q).getD i [] = Q i := fun i hi => by
      rw [List.getD_eq_getElem?_getD, List.getElem?_map, List.getElem?_range hi]
      rfl
    have hln : ((List.range len).map Q).length = len := by simp
    refine ⟨some x, m, (List.range len).map Q, by rw [hln]; exact hcs, ⟨rfl, by rw [hln]; exact hl, ?_⟩, by rw [hln]; omega, by rw [hln]; exact hbk, fun e => by cases e⟩
    by_cases h0 : len = 0
    · subst h0; exact .inl (by simp)
    · obtain ⟨b, off, spot⟩ := x
      have hc := hQ 0 (by omega)
      have hspot : spot = none := by simpa [Addr.add] using World.cell?_spot hc
      subst hspot
      refine .inr ⟨b, off, rfl, World.block_lt_of_cell? W _ (by simpa [Addr.add] using hc), fun j hj => ?_⟩
      rw [hln] at hj
      rw [hgq j hj]
      have h3 := hQ j (by omega)
      rwa [Addr.add_lit] at h3

set_option maxRecDepth 100000 in
/-- A policy that came in. -/
theorem open_policy {H : Type} {enc : TypeId × Value → H} {W : World} {held : Bool} {v : Value} {d : DataW H} {p : List MemPlace} {fuel base : Nat} (hv : Value.okWide Tryd.prog W .any base 24 v)
    (hf : DataW.trod enc Tryd.prog W 0 (fun _ => true) held fuel 24 v.cells.toList = some (d, p)) :
    ∃ (ao : Option Addr) (cap : Nat) (l : List (List UInt8)) (iss : ByteArray) (hi : Bool) (aud : ByteArray) (ha : Bool) (ty : List UInt8) (wt : Bool) (lee : Int) (na : Option Addr) (nc : Nat) (nl : List (List UInt8)), v = plV (.slice ao l.length cap) iss hi aud ha ty wt lee (.slice na nl.length nc) ∧
      (TR W (.slice ao l.length cap) l ao cap ∧ l.length ≤ maxLen ∧ l.length ≤ Rows.uptoBulk d ∧ (ao = none → cap = 0)) ∧ (TR W (.slice na nl.length nc) nl na nc ∧ nl.length ≤ maxLen ∧ nl.length ≤ Rows.uptoBulk d ∧ (na = none → nc = 0)) := by
  obtain ⟨vs, rfl, _⟩ := okWide_struct Tryd.underlying24 hv
  have hcs : (Value.agg vs).cells.toList = vs.toList := rfl
  rw [hcs] at hf
  obtain ⟨xs, n, _, hx, hl, hlen, hff⟩ := DataW.trod_struct Tryd.underlying24 hf
  rw [cellsPl] at hl
  match xs, hlen with
  | [y0, y1, y2, y3, y4, y5, y6, y7, y8], _ =>
    have h0 := hff 0 _ rfl
    have h1 := hff 1 _ rfl
    have h2 := hff 2 _ rfl
    have h3 := hff 3 _ rfl
    have h4 := hff 4 _ rfl
    have h5 := hff 5 _ rfl
    have h6 := hff 6 _ rfl
    have h7 := hff 7 _ rfl
    have h8 := hff 8 _ rfl
    obtain ⟨cs⟩ := vs
    dsimp only at *
    match cs, hl with
    | [c0, c1, c2, c3, c4, c5, c6, c7, c8], _ =>
      have g0 : DataW.trod enc Tryd.prog W 0 (fun _ => true) held n 22 [c0] = some y0 := h0
      have g1 : DataW.trod enc Tryd.prog W 0 (fun _ => true) held n 9 [c1] = some y1 := h1
      have g2 : DataW.trod enc Tryd.prog W 0 (fun _ => true) held n 4 [c2] = some y2 := h2
      have g3 : DataW.trod enc Tryd.prog W 0 (fun _ => true) held n 9 [c3] = some y3 := h3
      have g4 : DataW.trod enc Tryd.prog W 0 (fun _ => true) held n 4 [c4] = some y4 := h4
      have g5 : DataW.trod enc Tryd.prog W 0 (fun _ => true) held n 9 [c5] = some y5 := h5
      have g6 : DataW.trod enc Tryd.prog W 0 (fun _ => true) held n 4 [c6] = some y6 := h6
      have g7 : DataW.trod enc Tryd.prog W 0 (fun _ => true) held n 2 [c7] = some y7 := h7
      have g8 : DataW.trod enc Tryd.prog W 0 (fun _ => true) held n 22 [c8] = some y8 := h8
      obtain ⟨d0, q0⟩ := y0
      obtain ⟨d8, q8⟩ := y8
      obtain ⟨ao, cap, l, e0, t0, t1, t2, t3⟩ := open_texts g0
      obtain ⟨s1, e1, _, _⟩ := DataW.trod_string Tryd.underlying9 g1
      obtain ⟨b2, e2, _⟩ := DataW.trod_bool Tryd.underlying4 g2
      obtain ⟨s3, e3, _, _⟩ := DataW.trod_string Tryd.underlying9 g3
      obtain ⟨b4, e4, _⟩ := DataW.trod_bool Tryd.underlying4 g4
      obtain ⟨s5, e5, _, _⟩ := DataW.trod_string Tryd.underlying9 g5
      obtain ⟨b6, e6, _⟩ := DataW.trod_bool Tryd.underlying4 g6
      obtain ⟨i7, e7, _, _⟩ := DataW.trod_int Tryd.underlying2 g7
      obtain ⟨na, nc, nl, e8, u0, u1, u2, u3⟩ := open_texts g8
      simp only [List.cons.injEq, and_true] at e1
      simp only [List.cons.injEq, and_true] at e2
      simp only [List.cons.injEq, and_true] at e3
      simp only [List.cons.injEq, and_true] at e4
      simp only [List.cons.injEq, and_true] at e5
      simp only [List.cons.injEq, and_true] at e6
      simp only [List.cons.injEq, and_true] at e7
      have hd := (Prod.mk.inj hx).1
      refine ⟨ao, cap, l, s1, b2, s3, b4, s5.data.toList, b6, i7, na, nc, nl, by rw [e0, e1, e2, e3, e4, e5, e6, e7, e8]; simp [plV], ⟨t0, t1, ?_, t3⟩, ⟨u0, u1, ?_, u3⟩⟩
      · rw [hd]
        simp only [List.map_cons, Rows.uptoBulk, Rows.uptoBulkAll]
        omega
      · rw [hd]
        simp only [List.map_cons, Rows.uptoBulk, Rows.uptoBulkAll]
        omega

end Go.Proofs.YtfpimcmhooiooaaDoor
