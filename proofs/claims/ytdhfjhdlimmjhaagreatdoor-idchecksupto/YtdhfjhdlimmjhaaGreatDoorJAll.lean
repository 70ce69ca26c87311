import Derived.Test.YtdhfjhdlimmjhaaGreatDoorWAll
import Derived.Test.YtdhfjhdlimmjhaaGreatDoorQ1
import Derived.Test.YtdhfjhdlimmjhaaGreatDoorShY
import Derived.Test.YtdhfjhdlimmjhaaGreatDoorCards
import Derived.Test.YtdhfjhdlimmjhaaGreatDoorTie
import Derived.ProofKit
import Derived.OpenShut
import Derived.ShutString
import Derived.ChangeOld
import Derived.SizedLaws
import Derived.JoinedCond
import Derived.Deep.DeepHandedRow
import Derived.Deep.Slices
import Derived.Deep.Strs
import Derived.Lay
import Derived.Stop.LaidErr
import Derived.Deep.DeepWitnessRowRef
import Derived.Lib.LaidTab
import Derived.Lib.LaidU8T
import Derived.Carry
import Derived.Test.YtdhfjhdlimmjhaaGreatDoorQBZ
namespace Go.Proofs.YtdhfjhdlimmjhaaGreatDoor
open Go.ChangeShapes Go.WideShapes Go.ChangeAt Go.RowKit Go.Deep

theorem ownK : ownKnob Tryz.prog.godebug = none := by kernel_rfl
theorem laidO : laidOutB Tryz.prog = true := by kernel_rfl
theorem str_of (a : ByteArray) : a = ⟨a.data.toList.toArray⟩ := by cases a; simp

theorem gRange : Tryz.prog.globalNamed "strconv.ErrRange" = some 9 := by kernel_rfl
theorem gRangeType : (Tryz.prog.globals[9]?).map (·.type) = some 127 := by kernel_rfl
theorem gSyntax : Tryz.prog.globalNamed "strconv.ErrSyntax" = some 8 := by kernel_rfl
theorem gSyntaxType : (Tryz.prog.globals[8]?).map (·.type) = some 127 := by kernel_rfl
theorem cellsErr : Tryz.prog.cellsOf 169 = 1 := by kernel_rfl
theorem cellsStr : Tryz.prog.cellsOf 9 = 1 := by kernel_rfl
theorem starErr : "*" ++ "errors.errorString" = "*errors.errorString" := by decide
theorem rowErr (u : TypeId) (h : Tryz.prog.typeName? 3 u = some "*errors.errorString") : u = 167 :=
  typeName_ptr_named (nm := "errors.errorString") (by rw [starErr]; kernel_rfl) (by kernel_rfl) (by decide) u (by rw [starErr]; exact h)
theorem dFirst : (Rows.laid_unicode_utf8_first : DataW Unit) = Lib.firstData := by kernel_rfl
theorem dAcc : (Rows.laid_unicode_utf8_acceptRanges : DataW Unit) = Lib.acceptData := by kernel_rfl

theorem cellsB64 : Tryz.prog.cellsOf 183 = 64 := by kernel_rfl
theorem cellsU8' : Tryz.prog.cellsOf 5 = 1 := by kernel_rfl
theorem big_heap {W : World} {L : List (String × DataW Unit)} (h : laidMet Tryz.prog (("math/bits.deBruijn32tab", Rows.laid_math_bits_deBruijn32tab) :: ("math/bits.deBruijn64tab", Rows.laid_math_bits_deBruijn64tab) :: L) W) : 13 < W.heap.size := by
  obtain ⟨g', t', cs, fuel, p, hg', ht', hvar, hd⟩ := Lib.laidMet.reads h (.tail _ (.head _))
  have hg : Tryz.prog.globalNamed "math/bits.deBruijn64tab" = some 13 := by kernel_rfl
  obtain rfl := Option.some.inj (hg.symm.trans hg')
  have hty : (Tryz.prog.globals[13]?).map (·.type) = some 183 := by kernel_rfl
  obtain rfl := Option.some.inj (hty.symm.trans ht')
  have hc := World.var?_cell hg hvar 0
  have hlen : cs.toList.length = 64 := by
    cases fuel with
    | zero => simp [DataW.trod] at hd
    | succ fuel =>
      simp only [DataW.trod, Tryz.underlying183, cellsU8', cellsB64] at hd
      split at hd
      · rename_i hl
        simpa using hl
      · cases hd
  have h0 : 0 < cs.size := by rw [← Array.length_toList, hlen]; decide
  rw [Array.getElem?_eq_getElem h0] at hc
  exact World.block_lt_of_cell? _ _ hc

set_option maxRecDepth 100000 in
theorem laidGR {W : World} (h : laidMetH Tryz.prog [("math/bits.deBruijn32tab", Rows.laid_math_bits_deBruijn32tab), ("math/bits.deBruijn64tab", Rows.laid_math_bits_deBruijn64tab), ("internal/strconv.uint64pow10", Rows.laid_internal_strconv_uint64pow10), ("unicode/utf8.acceptRanges", Rows.laid_unicode_utf8_acceptRanges), ("strconv.ErrRange", Rows.laid_strconv_ErrRange), ("strconv.ErrSyntax", Rows.laid_strconv_ErrSyntax), ("signet/sha.squareRoots", Rows.laid_signet_sha_squareRoots), ("signet/sha.cubeRoots", Rows.laid_signet_sha_cubeRoots), ("signet/signetref4.k256", Rows.laid_signet_signetref4_k256), ("signet/signetref4.k512", Rows.laid_signet_signetref4_k512), ("signet/signetref4.start256", Rows.laid_signet_signetref4_start256), ("signet/signetref4.start384", Rows.laid_signet_signetref4_start384), ("signet/signetref4.start512", Rows.laid_signet_signetref4_start512), ("unicode/utf8.first", Rows.laid_unicode_utf8_first)] W) : GL W.heap.size W ∧ Sha.Tb W ∧ Sha.Rt W := by
  rw [MakeChecks.laidMetH_plain _ _ _ (by kernel_rfl)] at h
  have h0 : laidMet Tryz.prog (("math/bits.deBruijn32tab", Rows.laid_math_bits_deBruijn32tab) :: [("math/bits.deBruijn64tab", Rows.laid_math_bits_deBruijn64tab), ("internal/strconv.uint64pow10", Rows.laid_internal_strconv_uint64pow10), ("unicode/utf8.acceptRanges", Rows.laid_unicode_utf8_acceptRanges), ("strconv.ErrRange", Rows.laid_strconv_ErrRange), ("strconv.ErrSyntax", Rows.laid_strconv_ErrSyntax), ("signet/sha.squareRoots", Rows.laid_signet_sha_squareRoots), ("signet/sha.cubeRoots", Rows.laid_signet_sha_cubeRoots), ("signet/signetref4.k256", Rows.laid_signet_signetref4_k256), ("signet/signetref4.k512", Rows.laid_signet_signetref4_k512), ("signet/signetref4.start256", Rows.laid_signet_signetref4_start256), ("signet/signetref4.start384", Rows.laid_signet_signetref4_start384), ("signet/signetref4.start512", Rows.laid_signet_signetref4_start512), ("unicode/utf8.first", Rows.laid_unicode_utf8_first)]) W := h
  have h1 : laidMet Tryz.prog (("math/bits.deBruijn64tab", Rows.laid_math_bits_deBruijn64tab) :: [("internal/strconv.uint64pow10", Rows.laid_internal_strconv_uint64pow10), ("unicode/utf8.acceptRanges", Rows.laid_unicode_utf8_acceptRanges), ("strconv.ErrRange", Rows.laid_strconv_ErrRange), ("strconv.ErrSyntax", Rows.laid_strconv_ErrSyntax), ("signet/sha.squareRoots", Rows.laid_signet_sha_squareRoots), ("signet/sha.cubeRoots", Rows.laid_signet_sha_cubeRoots), ("signet/signetref4.k256", Rows.laid_signet_signetref4_k256), ("signet/signetref4.k512", Rows.laid_signet_signetref4_k512), ("signet/signetref4.start256", Rows.laid_signet_signetref4_start256), ("signet/signetref4.start384", Rows.laid_signet_signetref4_start384), ("signet/signetref4.start512", Rows.laid_signet_signetref4_start512), ("unicode/utf8.first", Rows.laid_unicode_utf8_first)]) W := laidMet.tail h0
  have h2 : laidMet Tryz.prog (("internal/strconv.uint64pow10", Rows.laid_internal_strconv_uint64pow10) :: [("unicode/utf8.acceptRanges", Rows.laid_unicode_utf8_acceptRanges), ("strconv.ErrRange", Rows.laid_strconv_ErrRange), ("strconv.ErrSyntax", Rows.laid_strconv_ErrSyntax), ("signet/sha.squareRoots", Rows.laid_signet_sha_squareRoots), ("signet/sha.cubeRoots", Rows.laid_signet_sha_cubeRoots), ("signet/signetref4.k256", Rows.laid_signet_signetref4_k256), ("signet/signetref4.k512", Rows.laid_signet_signetref4_k512), ("signet/signetref4.start256", Rows.laid_signet_signetref4_start256), ("signet/signetref4.start384", Rows.laid_signet_signetref4_start384), ("signet/signetref4.start512", Rows.laid_signet_signetref4_start512), ("unicode/utf8.first", Rows.laid_unicode_utf8_first)]) W := laidMet.tail h1
  have h3 : laidMet Tryz.prog (("unicode/utf8.acceptRanges", Rows.laid_unicode_utf8_acceptRanges) :: [("strconv.ErrRange", Rows.laid_strconv_ErrRange), ("strconv.ErrSyntax", Rows.laid_strconv_ErrSyntax), ("signet/sha.squareRoots", Rows.laid_signet_sha_squareRoots), ("signet/sha.cubeRoots", Rows.laid_signet_sha_cubeRoots), ("signet/signetref4.k256", Rows.laid_signet_signetref4_k256), ("signet/signetref4.k512", Rows.laid_signet_signetref4_k512), ("signet/signetref4.start256", Rows.laid_signet_signetref4_start256), ("signet/signetref4.start384", Rows.laid_signet_signetref4_start384), ("signet/signetref4.start512", Rows.laid_signet_signetref4_start512), ("unicode/utf8.first", Rows.laid_unicode_utf8_first)]) W := laidMet.tail h2
  have h4 : laidMet Tryz.prog (("strconv.ErrRange", Rows.laid_strconv_ErrRange) :: [("strconv.ErrSyntax", Rows.laid_strconv_ErrSyntax), ("signet/sha.squareRoots", Rows.laid_signet_sha_squareRoots), ("signet/sha.cubeRoots", Rows.laid_signet_sha_cubeRoots), ("signet/signetref4.k256", Rows.laid_signet_signetref4_k256), ("signet/signetref4.k512", Rows.laid_signet_signetref4_k512), ("signet/signetref4.start256", Rows.laid_signet_signetref4_start256), ("signet/signetref4.start384", Rows.laid_signet_signetref4_start384), ("signet/signetref4.start512", Rows.laid_signet_signetref4_start512), ("unicode/utf8.first", Rows.laid_unicode_utf8_first)]) W := laidMet.tail h3
  have h5 : laidMet Tryz.prog (("strconv.ErrSyntax", Rows.laid_strconv_ErrSyntax) :: [("signet/sha.squareRoots", Rows.laid_signet_sha_squareRoots), ("signet/sha.cubeRoots", Rows.laid_signet_sha_cubeRoots), ("signet/signetref4.k256", Rows.laid_signet_signetref4_k256), ("signet/signetref4.k512", Rows.laid_signet_signetref4_k512), ("signet/signetref4.start256", Rows.laid_signet_signetref4_start256), ("signet/signetref4.start384", Rows.laid_signet_signetref4_start384), ("signet/signetref4.start512", Rows.laid_signet_signetref4_start512), ("unicode/utf8.first", Rows.laid_unicode_utf8_first)]) W := laidMet.tail h4
  have h6 : laidMet Tryz.prog (("signet/sha.squareRoots", Rows.laid_signet_sha_squareRoots) :: [("signet/sha.cubeRoots", Rows.laid_signet_sha_cubeRoots), ("signet/signetref4.k256", Rows.laid_signet_signetref4_k256), ("signet/signetref4.k512", Rows.laid_signet_signetref4_k512), ("signet/signetref4.start256", Rows.laid_signet_signetref4_start256), ("signet/signetref4.start384", Rows.laid_signet_signetref4_start384), ("signet/signetref4.start512", Rows.laid_signet_signetref4_start512), ("unicode/utf8.first", Rows.laid_unicode_utf8_first)]) W := laidMet.tail h5
  have h7 : laidMet Tryz.prog (("signet/sha.cubeRoots", Rows.laid_signet_sha_cubeRoots) :: [("signet/signetref4.k256", Rows.laid_signet_signetref4_k256), ("signet/signetref4.k512", Rows.laid_signet_signetref4_k512), ("signet/signetref4.start256", Rows.laid_signet_signetref4_start256), ("signet/signetref4.start384", Rows.laid_signet_signetref4_start384), ("signet/signetref4.start512", Rows.laid_signet_signetref4_start512), ("unicode/utf8.first", Rows.laid_unicode_utf8_first)]) W := laidMet.tail h6
  have h8 : laidMet Tryz.prog (("signet/signetref4.k256", Rows.laid_signet_signetref4_k256) :: [("signet/signetref4.k512", Rows.laid_signet_signetref4_k512), ("signet/signetref4.start256", Rows.laid_signet_signetref4_start256), ("signet/signetref4.start384", Rows.laid_signet_signetref4_start384), ("signet/signetref4.start512", Rows.laid_signet_signetref4_start512), ("unicode/utf8.first", Rows.laid_unicode_utf8_first)]) W := laidMet.tail h7
  have h9 : laidMet Tryz.prog (("signet/signetref4.k512", Rows.laid_signet_signetref4_k512) :: [("signet/signetref4.start256", Rows.laid_signet_signetref4_start256), ("signet/signetref4.start384", Rows.laid_signet_signetref4_start384), ("signet/signetref4.start512", Rows.laid_signet_signetref4_start512), ("unicode/utf8.first", Rows.laid_unicode_utf8_first)]) W := laidMet.tail h8
  have h10 : laidMet Tryz.prog (("signet/signetref4.start256", Rows.laid_signet_signetref4_start256) :: [("signet/signetref4.start384", Rows.laid_signet_signetref4_start384), ("signet/signetref4.start512", Rows.laid_signet_signetref4_start512), ("unicode/utf8.first", Rows.laid_unicode_utf8_first)]) W := laidMet.tail h9
  have h11 : laidMet Tryz.prog (("signet/signetref4.start384", Rows.laid_signet_signetref4_start384) :: [("signet/signetref4.start512", Rows.laid_signet_signetref4_start512), ("unicode/utf8.first", Rows.laid_unicode_utf8_first)]) W := laidMet.tail h10
  have h12 : laidMet Tryz.prog (("signet/signetref4.start512", Rows.laid_signet_signetref4_start512) :: [("unicode/utf8.first", Rows.laid_unicode_utf8_first)]) W := laidMet.tail h11
  have h13 : laidMet Tryz.prog (("unicode/utf8.first", Rows.laid_unicode_utf8_first) :: []) W := laidMet.tail h12
  have t6 : Lib.TabIs Tryz.prog W "signet/sha.squareRoots" .u64 Sha.SQ := Lib.tabIs_of_head (by kernel_rfl : Tryz.prog.globalNamed "signet/sha.squareRoots" = some 7) (by kernel_rfl) Tryz.underlying148 Tryz.underlying99 (by kernel_rfl) (by kernel_rfl) (show laidMet Tryz.prog (("signet/sha.squareRoots", Lib.tabData .u64 Sha.SQ) :: [("signet/sha.cubeRoots", Rows.laid_signet_sha_cubeRoots), ("signet/signetref4.k256", Rows.laid_signet_signetref4_k256), ("signet/signetref4.k512", Rows.laid_signet_signetref4_k512), ("signet/signetref4.start256", Rows.laid_signet_signetref4_start256), ("signet/signetref4.start384", Rows.laid_signet_signetref4_start384), ("signet/signetref4.start512", Rows.laid_signet_signetref4_start512), ("unicode/utf8.first", Rows.laid_unicode_utf8_first)]) W from h6)
  have t7 : Lib.TabIs Tryz.prog W "signet/sha.cubeRoots" .u64 Sha.KT := Lib.tabIs_of_head (by kernel_rfl : Tryz.prog.globalNamed "signet/sha.cubeRoots" = some 10) (by kernel_rfl) Tryz.underlying122 Tryz.underlying99 (by kernel_rfl) (by kernel_rfl) (show laidMet Tryz.prog (("signet/sha.cubeRoots", Lib.tabData .u64 Sha.KT) :: [("signet/signetref4.k256", Rows.laid_signet_signetref4_k256), ("signet/signetref4.k512", Rows.laid_signet_signetref4_k512), ("signet/signetref4.start256", Rows.laid_signet_signetref4_start256), ("signet/signetref4.start384", Rows.laid_signet_signetref4_start384), ("signet/signetref4.start512", Rows.laid_signet_signetref4_start512), ("unicode/utf8.first", Rows.laid_unicode_utf8_first)]) W from h7)
  have t8 : Lib.TabIs Tryz.prog W "signet/signetref4.k256" .u32 Sha.K2 := Lib.tabIs_of_head (by kernel_rfl : Tryz.prog.globalNamed "signet/signetref4.k256" = some 5) (by kernel_rfl) Tryz.underlying120 Tryz.underlying117 (by kernel_rfl) (by kernel_rfl) (show laidMet Tryz.prog (("signet/signetref4.k256", Lib.tabData .u32 Sha.K2) :: [("signet/signetref4.k512", Rows.laid_signet_signetref4_k512), ("signet/signetref4.start256", Rows.laid_signet_signetref4_start256), ("signet/signetref4.start384", Rows.laid_signet_signetref4_start384), ("signet/signetref4.start512", Rows.laid_signet_signetref4_start512), ("unicode/utf8.first", Rows.laid_unicode_utf8_first)]) W from h8)
  have t9 : Lib.TabIs Tryz.prog W "signet/signetref4.k512" .u64 Sha.K5 := Lib.tabIs_of_head (by kernel_rfl : Tryz.prog.globalNamed "signet/signetref4.k512" = some 6) (by kernel_rfl) Tryz.underlying122 Tryz.underlying99 (by kernel_rfl) (by kernel_rfl) (show laidMet Tryz.prog (("signet/signetref4.k512", Lib.tabData .u64 Sha.K5) :: [("signet/signetref4.start256", Rows.laid_signet_signetref4_start256), ("signet/signetref4.start384", Rows.laid_signet_signetref4_start384), ("signet/signetref4.start512", Rows.laid_signet_signetref4_start512), ("unicode/utf8.first", Rows.laid_unicode_utf8_first)]) W from h9)
  have t10 : Lib.TabIs Tryz.prog W "signet/signetref4.start256" .u32 Sha.S2 := Lib.tabIs_of_head (by kernel_rfl : Tryz.prog.globalNamed "signet/signetref4.start256" = some 4) (by kernel_rfl) Tryz.underlying118 Tryz.underlying117 (by kernel_rfl) (by kernel_rfl) (show laidMet Tryz.prog (("signet/signetref4.start256", Lib.tabData .u32 Sha.S2) :: [("signet/signetref4.start384", Rows.laid_signet_signetref4_start384), ("signet/signetref4.start512", Rows.laid_signet_signetref4_start512), ("unicode/utf8.first", Rows.laid_unicode_utf8_first)]) W from h10)
  have t11 : Lib.TabIs Tryz.prog W "signet/signetref4.start384" .u64 Sha.S3 := Lib.tabIs_of_head (by kernel_rfl : Tryz.prog.globalNamed "signet/signetref4.start384" = some 0) (by kernel_rfl) Tryz.underlying100 Tryz.underlying99 (by kernel_rfl) (by kernel_rfl) (show laidMet Tryz.prog (("signet/signetref4.start384", Lib.tabData .u64 Sha.S3) :: [("signet/signetref4.start512", Rows.laid_signet_signetref4_start512), ("unicode/utf8.first", Rows.laid_unicode_utf8_first)]) W from h11)
  have t12 : Lib.TabIs Tryz.prog W "signet/signetref4.start512" .u64 Sha.S5 := Lib.tabIs_of_head (by kernel_rfl : Tryz.prog.globalNamed "signet/signetref4.start512" = some 1) (by kernel_rfl) Tryz.underlying100 Tryz.underlying99 (by kernel_rfl) (by kernel_rfl) (show laidMet Tryz.prog (("signet/signetref4.start512", Lib.tabData .u64 Sha.S5) :: [("unicode/utf8.first", Rows.laid_unicode_utf8_first)]) W from h12)
  obtain ⟨a2, s2, hv2, _⟩ := laid_sentinel h4 gRange gRangeType Tryz.underlying127 rowErr Tryz.underlying167 Tryz.underlying169 rfl rfl Tryz.underlying9 cellsErr cellsStr
  obtain ⟨a1, s1, hv1, _⟩ := laid_sentinel h5 gSyntax gSyntaxType Tryz.underlying127 rowErr Tryz.underlying167 Tryz.underlying169 rfl rfl Tryz.underlying9 cellsErr cellsStr
  have hU : U8 W := utf8Tabs_of_readsT (ρ := Tryz.laysValid_ren) (U8Types.of196 Tryz.laysValid) ⟨by kernel_rfl, by kernel_rfl, by kernel_rfl, by kernel_rfl, by kernel_rfl, by kernel_rfl, by kernel_rfl⟩
    (dFirst ▸ Lib.laidMet.reads h (.tail _ (.tail _ (.tail _ (.tail _ (.tail _ (.tail _ (.tail _ (.tail _ (.tail _ (.tail _ (.tail _ (.tail _ (.tail _ (.head _))))))))))))))) (dAcc ▸ Lib.laidMet.reads h (.tail _ (.tail _ (.tail _ (.head _)))))
  have hg15 : 13 < W.heap.size := big_heap h
  exact ⟨⟨by omega, hU, ⟨_, _, _, _, hv1, hv2⟩⟩, ⟨fun i hi => t7.cell (by kernel_rfl) i hi, fun i hi => t6.cell (by kernel_rfl) i hi⟩, ⟨fun i hi => t8.cell (by kernel_rfl) i hi, fun i hi => t9.cell (by kernel_rfl) i hi, fun i hi => t10.cell (by kernel_rfl) i hi, fun i hi => t11.cell (by kernel_rfl) i hi, fun i hi => t12.cell (by kernel_rfl) i hi⟩⟩

theorem bulk_pos {H : Type} (d : DataW H) : 1 ≤ Rows.uptoBulk d := by
  cases d with
  | lit l => cases l <;> simp [Rows.uptoBulk]
  | _ => simp [Rows.uptoBulk]
theorem bulk_len {H : Type} : ∀ l : List (DataW H), l.length ≤ Rows.uptoBulkAll l
  | [] => by simp [Rows.uptoBulkAll]
  | d :: r => by
    have h1 := bulk_pos d
    have h2 := bulk_len r
    simp only [Rows.uptoBulkAll, List.length_cons]
    omega
theorem bulk_mem {H : Type} : ∀ (l : List (DataW H)) (d : DataW H), d ∈ l → Rows.uptoBulk d ≤ Rows.uptoBulkAll l
  | [], _, h => by simp at h
  | x :: r, d, h => by
    simp only [Rows.uptoBulkAll]
    rcases List.mem_cons.1 h with rfl | h
    · omega
    · have := bulk_mem r d h
      omega
theorem bulk_slice {H : Type} (es ss : List (DataW H)) : es.length + ss.length ≤ Rows.uptoBulk (.slice es ss) := by
  have := bulk_len es
  have := bulk_len ss
  simp only [Rows.uptoBulk]
  omega

instance : Inhabited Nd := ⟨nd0 0⟩

theorem cellsNd : Tryz.prog.cellsOf 35 = 6 := by kernel_rfl

theorem nCs_ix {l : List Nd} {j : Nat} {u : Value} (h : (nCs l)[j]? = some u) : j / 6 < l.length ∧ (nC (l.getD (j / 6) (nd0 0)))[j % 6]? = some u := by
  induction l generalizing j with
  | nil => simp [nCs] at h
  | cons n l ih =>
    have e : nCs (n :: l) = nC n ++ nCs l := rfl
    rw [e] at h
    have h6 : (nC n).length = 6 := rfl
    by_cases hj : j < 6
    · rw [List.getElem?_append_left (by omega)] at h
      rw [Nat.div_eq_of_lt hj, Nat.mod_eq_of_lt hj]
      exact ⟨by simp, by simpa using h⟩
    · rw [List.getElem?_append_right (by omega), h6] at h
      obtain ⟨h1, h2⟩ := ih h
      have hd : j / 6 = (j - 6) / 6 + 1 := by omega
      have hm : j % 6 = (j - 6) % 6 := by omega
      rw [hd, hm]
      exact ⟨by simp; omega, by rw [List.getD_cons_succ]; exact h2⟩

end Go.Proofs.YtdhfjhdlimmjhaaGreatDoor

namespace Go.Proofs.YtdhfjhdlimmjhaaGreatDoor
open Go.ChangeShapes Go.WideShapes Go.ChangeAt Go.RowKit Go.Deep

theorem cellsWt : Tryz.prog.cellsOf 30 = 10 := by kernel_rfl
theorem cellsCl : Tryz.prog.cellsOf 27 = 15 := by kernel_rfl
instance : Inhabited (List UInt8) := ⟨[]⟩

theorem open_texts {H : Type} {enc : TypeId × Value → H} {W : World} {held : Bool} {c : Value} {d : DataW H} {p : List MemPlace} {fuel : Nat}
    (hf : DataW.trod enc Tryz.prog W 0 (fun _ => true) held fuel 23 [c] = some (d, p)) :
    ∃ (ao : Option Addr) (cap : Nat) (l : List (List UInt8)), c = .slice ao l.length cap ∧ TR W (.slice ao l.length cap) l ao cap ∧ l.length ≤ maxLen ∧ l.length ≤ Rows.uptoBulk d ∧ (ao = none → cap = 0) ∧ ∀ x ∈ l, x.length ≤ Rows.uptoBulk d := by
  rcases open_slice Tryz.underlying23 hf with ⟨hcs, hx⟩ | ⟨x, len, cap, m, n, D, Pl, hcs, _, hl, hm, hmm, hx, hall⟩
  · simp only [List.cons.injEq, and_true] at hcs
    exact ⟨none, 0, [], hcs, ⟨rfl, Nat.le_refl _, .inl rfl⟩, Nat.zero_le _, Nat.zero_le _, fun _ => rfl, fun x hx => by simp at hx⟩
  · simp only [List.cons.injEq, and_true] at hcs
    simp only [if_true] at hmm
    subst hmm
    simp only [Prod.mk.injEq] at hx
    have hz : ∀ i, i < m → ∃ s : List UInt8, W.cell? (x.add i) = some (.string ⟨s.toArray⟩) ∧ s.length ≤ Rows.uptoBulk (D i) := fun i hi => by
      obtain ⟨cs, h1, h2⟩ := hall i hi
      obtain ⟨s, e, hsl, _⟩ := DataW.trod_string Tryz.underlying9 h2
      rw [cellsStr, Nat.mul_one] at h1
      obtain ⟨_, _, hcell⟩ := World.cells?_some h1
      have c0 := hcell 0 (by decide)
      rw [e] at c0
      refine ⟨s.data.toList, ?_, by rw [(Prod.mk.inj hsl).1]; simp only [Rows.uptoBulk]; omega⟩
      rw [← str_of]
      simpa [Addr.add] using c0
    obtain ⟨Q, hQ⟩ := choose_lt (α := List UInt8) (p := fun i s => W.cell? (x.add i) = some (.string ⟨s.toArray⟩) ∧ s.length ≤ Rows.uptoBulk (D i)) hz
    have hbk : len ≤ Rows.uptoBulk d := by
      rw [hx.1]
      refine Nat.le_trans ?_ (bulk_slice _ _)
      simp
    have hgq : ∀ i, i < len → ((List.range len).map Q).getD i [] = Q i := fun i hi => by
      rw [List.getD_eq_getElem?_getD, List.getElem?_map, List.getElem?_range hi]
      rfl
    have hln : ((List.range len).map Q).length = len := by simp
    refine ⟨some x, m, (List.range len).map Q, by rw [hln]; exact hcs, ⟨rfl, by rw [hln]; exact hl, ?_⟩, by rw [hln]; omega, by rw [hln]; exact hbk, fun e => (by cases e), fun y hy => by
      obtain ⟨i, hi, rfl⟩ := List.mem_map.1 hy
      have hi' := List.mem_range.1 hi
      have h1 := (hQ i (by omega)).2
      have h2 : Rows.uptoBulk (D i) ≤ Rows.uptoBulk d := by
        rw [hx.1]
        have := bulk_mem ((List.range len).map D) (D i) (List.mem_map.2 ⟨i, hi, rfl⟩)
        simp only [Rows.uptoBulk]
        omega
      omega⟩
    by_cases h0 : len = 0
    · subst h0; exact .inl (by simp)
    · obtain ⟨b, off, spot⟩ := x
      have hc := (hQ 0 (by omega)).1
      have hspot : spot = none := by simpa [Addr.add] using World.cell?_spot hc
      subst hspot
      refine .inr ⟨b, off, rfl, World.block_lt_of_cell? W _ (by simpa [Addr.add] using hc), fun j hj => ?_⟩
      rw [hln] at hj
      rw [hgq j hj]
      have h3 := (hQ j (by omega)).1
      rwa [Addr.add_lit] at h3

set_option maxRecDepth 100000 in
theorem lit_i64 {x : Int} (h : (Lit.int .i64 x).wf = true) : I64 x := by
  simp only [Lit.wf, Bool.and_eq_true, decide_eq_true_eq] at h
  rw [show IntKind.i64.min = -9223372036854775808 from by decide, show IntKind.i64.max = 9223372036854775807 from by decide] at h
  exact h
set_option maxRecDepth 100000 in
theorem open_nodeB {H : Type} {enc : TypeId × Value → H} {W : World} {held : Bool} {cs : List Value} {d : DataW H} {p : List MemPlace} {fuel : Nat}
    (hf : DataW.trod enc Tryz.prog W 0 (fun _ => true) held fuel 35 cs = some (d, p)) :
    ∃ x : Nd, cs = nC x ∧ x.text.length ≤ Rows.uptoBulk d ∧ x.key.length ≤ Rows.uptoBulk d ∧ I64 x.int := by
  obtain ⟨xs, n, _, hx, hl, hlen, hff⟩ := DataW.trod_struct Tryz.underlying35 hf
  rw [cellsNd] at hl
  match xs, hlen with
  | [y0, y1, y2, y3, y4, y5], _ =>
    have h0 := hff 0 _ rfl
    have h1 := hff 1 _ rfl
    have h2 := hff 2 _ rfl
    have h3 := hff 3 _ rfl
    have h4 := hff 4 _ rfl
    have h5 := hff 5 _ rfl
    match cs, hl with
    | [c0, c1, c2, c3, c4, c5], _ =>
      have h0 : DataW.trod enc Tryz.prog W 0 (fun _ => true) held n 33 [c0] = some y0 := h0
      have h1 : DataW.trod enc Tryz.prog W 0 (fun _ => true) held n 9 [c1] = some y1 := h1
      have h2 : DataW.trod enc Tryz.prog W 0 (fun _ => true) held n 9 [c2] = some y2 := h2
      have h3 : DataW.trod enc Tryz.prog W 0 (fun _ => true) held n 4 [c3] = some y3 := h3
      have h4 : DataW.trod enc Tryz.prog W 0 (fun _ => true) held n 2 [c4] = some y4 := h4
      have h5 : DataW.trod enc Tryz.prog W 0 (fun _ => true) held n 3 [c5] = some y5 := h5
      obtain ⟨k, e0, _, _⟩ := DataW.trod_int Tryz.underlying33 h0
      obtain ⟨s1, e1, f1, _⟩ := DataW.trod_string Tryz.underlying9 h1
      obtain ⟨s2, e2, f2, _⟩ := DataW.trod_string Tryz.underlying9 h2
      obtain ⟨b, e3, _⟩ := DataW.trod_bool Tryz.underlying4 h3
      obtain ⟨i, e4, _, z4⟩ := DataW.trod_int Tryz.underlying2 h4
      obtain ⟨m, e5, _, _⟩ := DataW.trod_int Tryz.underlying3 h5
      simp only [List.cons.injEq, and_true] at e0 e1 e2 e3 e4 e5
      have hd := (Prod.mk.inj hx).1
      refine ⟨⟨k, s1.data.toList, s2.data.toList, b, i, m⟩, by rw [e0, e1, e2, e3, e4, e5]; simp [nC], ?_, ?_, lit_i64 z4⟩
      · rw [hd]
        simp only [List.map_cons, Rows.uptoBulk, Rows.uptoBulkAll, f2]
        omega
      · rw [hd]
        simp only [List.map_cons, Rows.uptoBulk, Rows.uptoBulkAll, f1]
        omega

theorem open_nodesB {H : Type} {enc : TypeId × Value → H} {W : World} {held : Bool} {v : Value} {d : DataW H} {p : List MemPlace} {fuel : Nat} {a : Option Addr} {len cap : Nat} (hv : v = .slice a len cap)
    (hf : DataW.trod enc Tryz.prog W 0 (fun _ => true) held fuel 22 v.cells.toList = some (d, p)) :
    ∃ os : List Nd, NR W v os a cap ∧ os.length ≤ Rows.uptoBulk d ∧ (∀ x ∈ os, x.text.length ≤ Rows.uptoBulk d ∧ x.key.length ≤ Rows.uptoBulk d ∧ I64 x.int) ∧ (a = none → cap = 0) := by
  subst hv
  rcases open_slice Tryz.underlying22 hf with ⟨hcs, hx⟩ | ⟨x, len', cap', m, n, D, Pl, hcs, _, hl, hm, hmm, hx, hall⟩
  · simp [Value.cells] at hcs
    obtain ⟨rfl, rfl, rfl⟩ := hcs
    exact ⟨[], ⟨rfl, Nat.le_refl _, .inl rfl⟩, Nat.zero_le _, (fun p hp => by cases hp), fun _ => rfl⟩
  · simp [Value.cells] at hcs
    obtain ⟨rfl, rfl, rfl⟩ := hcs
    simp only [if_true] at hmm
    subst hmm
    simp only [Prod.mk.injEq] at hx
    have hz : ∀ i, i < m → ∃ s : Nd, (∀ j u, j < 6 → (nC s)[j]? = some u → W.cell? (x.add (i * 6 + j)) = some u) ∧ (s.text.length ≤ Rows.uptoBulk (D i) ∧ s.key.length ≤ Rows.uptoBulk (D i) ∧ I64 s.int) := fun i hi => by
      obtain ⟨cs, h1, h2⟩ := hall i hi
      obtain ⟨s, e, h3⟩ := open_nodeB h2
      rw [cellsNd] at h1
      obtain ⟨_, _, hcell⟩ := World.cells?_some h1
      rw [e] at hcell
      refine ⟨s, fun j u hj hu => ?_, h3⟩
      have c0 := hcell j hj
      rw [add_add] at c0
      rw [c0]
      exact hu
    obtain ⟨Q, hQ⟩ := choose_lt (α := Nd) (p := fun i s => (∀ j u, j < 6 → (nC s)[j]? = some u → W.cell? (x.add (i * 6 + j)) = some u) ∧ (s.text.length ≤ Rows.uptoBulk (D i) ∧ s.key.length ≤ Rows.uptoBulk (D i) ∧ I64 s.int)) hz
    have hbk : len ≤ Rows.uptoBulk d := by
      rw [hx.1]
      refine Nat.le_trans ?_ (bulk_slice _ _)
      simp
    have hgq : ∀ i, i < len → ((List.range len).map Q).getD i (nd0 0) = Q i := fun i hi => by
      rw [List.getD_eq_getElem?_getD, List.getElem?_map, List.getElem?_range hi]
      rfl
    refine ⟨(List.range len).map Q, ⟨by simp, by simpa using hl, ?_⟩, by simpa using hbk, fun q hq => ?_, fun e => by cases e⟩
    · by_cases h0 : len = 0
      · subst h0; exact .inl (by simp)
      · obtain ⟨b, off, spot⟩ := x
        have hc := (hQ 0 (by omega)).1 0 _ (by omega) rfl
        have hspot : spot = none := by simpa [Addr.add] using World.cell?_spot hc
        subst hspot
        refine .inr ⟨b, off, rfl, World.block_lt_of_cell? W _ (by simpa [Addr.add] using hc), fun j u hu => ?_⟩
        obtain ⟨h1, h2⟩ := nCs_ix hu
        have hj : j / 6 < len := by simpa using h1
        rw [hgq _ hj] at h2
        have h3 := (hQ (j / 6) (by omega)).1 (j % 6) u (Nat.mod_lt _ (by omega)) h2
        rw [Addr.add_lit, show j / 6 * 6 + j % 6 = j by omega] at h3
        exact h3
    · obtain ⟨i, hi, rfl⟩ := List.mem_map.1 hq
      have hi' := List.mem_range.1 hi
      have h1 := (hQ i (by omega)).2
      have h2 : Rows.uptoBulk (D i) ≤ Rows.uptoBulk d := by
        rw [hx.1]
        have := bulk_mem ((List.range len).map D) (D i) (List.mem_map.2 ⟨i, hi, rfl⟩)
        simp only [Rows.uptoBulk]
        omega
      exact ⟨by omega, by omega, h1.2.2⟩

set_option maxRecDepth 100000 in
theorem open_time {H : Type} {enc : TypeId × Value → H} {W : World} {held : Bool} {c0 c1 : Value} {y : DataW H × List MemPlace} {fuel : Nat}
    (hf : DataW.trod enc Tryz.prog W 0 (fun _ => true) held fuel 25 [c0, c1] = some y) : ∃ t : Tm, c0 = .bool t.has ∧ c1 = .int .i64 t.at_ ∧ I64 t.at_ := by
  obtain ⟨y0, y1, n, _, _, h0, h1⟩ := trod_struct2 Tryz.underlying25 hf
  have h0 : DataW.trod enc Tryz.prog W 0 (fun _ => true) held n 4 [c0] = some y0 := h0
  have h1 : DataW.trod enc Tryz.prog W 0 (fun _ => true) held n 2 [c1] = some y1 := h1
  obtain ⟨b, e0, _⟩ := DataW.trod_bool Tryz.underlying4 h0
  obtain ⟨i, e1, _, e3⟩ := DataW.trod_int Tryz.underlying2 h1
  simp only [List.cons.injEq, and_true] at e0 e1
  exact ⟨⟨b, i⟩, e0, e1, lit_i64 e3⟩

set_option maxRecDepth 100000 in
theorem open_claims {H : Type} {enc : TypeId × Value → H} {W : World} {held : Bool} {v : Value} {d : DataW H} {p : List MemPlace} {fuel base : Nat} (hv : Value.okWide Tryz.prog W .any base 27 v)
    (hf : DataW.trod enc Tryz.prog W 0 (fun _ => true) held fuel 27 v.cells.toList = some (d, p)) :
    ∃ (va : Option Addr) (vc : Nat) (aa : Option Addr) (ac : Nat) (c : Cm), v = clV (.slice va c.val.length vc) (.slice aa c.aud.length ac) c ∧ I64 c.exp.at_ ∧ I64 c.nbf.at_ ∧ I64 c.iat.at_ ∧
      (NR W (.slice va c.val.length vc) c.val va vc ∧ c.val.length ≤ maxLen ∧ c.val.length ≤ Rows.uptoBulk d ∧ (∀ x ∈ c.val, x.text.length ≤ Rows.uptoBulk d ∧ x.key.length ≤ Rows.uptoBulk d ∧ I64 x.int) ∧ (va = none → vc = 0)) ∧
      (TR W (.slice aa c.aud.length ac) c.aud aa ac ∧ c.aud.length ≤ maxLen ∧ c.aud.length ≤ Rows.uptoBulk d ∧ (aa = none → ac = 0) ∧ ∀ x ∈ c.aud, x.length ≤ Rows.uptoBulk d) := by
  obtain ⟨vs, rfl, _⟩ := okWide_struct Tryz.underlying27 hv
  have hcs : (Value.agg vs).cells.toList = vs.toList := rfl
  rw [hcs] at hf
  obtain ⟨xs, n, _, hx, hl, hlen, hff⟩ := DataW.trod_struct Tryz.underlying27 hf
  rw [cellsCl] at hl
  match xs, hlen with
  | [y0, y1, y2, y3, y4, y5, y6, y7, y8, y9, y10, y11], _ =>
    have h0 := hff 0 _ rfl
    have h1 := hff 1 _ rfl
    have h2 := hff 2 _ rfl
    have h3 := hff 3 _ rfl
    have h4 := hff 4 _ rfl
    have h5 := hff 5 _ rfl
    have h6 := hff 6 _ rfl
    have h7 := hff 7 _ rfl
    have h8 := hff 8 _ rfl
    have h9 := hff 9 _ rfl
    have h10 := hff 10 _ rfl
    have h11 := hff 11 _ rfl
    obtain ⟨cs⟩ := vs
    dsimp only at *
    match cs, hl with
    | [c0, c1, c2, c3, c4, c5, c6, c7, c8, c9, c10, c11, c12, c13, c14], _ =>
      have g0 : DataW.trod enc Tryz.prog W 0 (fun _ => true) held n 22 [c0] = some y0 := h0
      have g1 : DataW.trod enc Tryz.prog W 0 (fun _ => true) held n 9 [c1] = some y1 := h1
      have g2 : DataW.trod enc Tryz.prog W 0 (fun _ => true) held n 4 [c2] = some y2 := h2
      have g3 : DataW.trod enc Tryz.prog W 0 (fun _ => true) held n 9 [c3] = some y3 := h3
      have g4 : DataW.trod enc Tryz.prog W 0 (fun _ => true) held n 4 [c4] = some y4 := h4
      have g5 : DataW.trod enc Tryz.prog W 0 (fun _ => true) held n 23 [c5] = some y5 := h5
      have g6 : DataW.trod enc Tryz.prog W 0 (fun _ => true) held n 4 [c6] = some y6 := h6
      have g7 : DataW.trod enc Tryz.prog W 0 (fun _ => true) held n 9 [c7] = some y7 := h7
      have g8 : DataW.trod enc Tryz.prog W 0 (fun _ => true) held n 4 [c8] = some y8 := h8
      have g9 : DataW.trod enc Tryz.prog W 0 (fun _ => true) held n 25 [c9, c10] = some y9 := h9
      have g10 : DataW.trod enc Tryz.prog W 0 (fun _ => true) held n 25 [c11, c12] = some y10 := h10
      have g11 : DataW.trod enc Tryz.prog W 0 (fun _ => true) held n 25 [c13, c14] = some y11 := h11
      obtain ⟨d0, q0⟩ := y0
      obtain ⟨d5, q5⟩ := y5
      obtain ⟨va, vl, vc, e0⟩ : ∃ a len cap, c0 = .slice a len cap := by
        rcases open_slice Tryz.underlying22 g0 with ⟨hcs, _⟩ | ⟨x, len, cap, m, n, D, Pl, hcs, _⟩
        · simp only [List.cons.injEq, and_true] at hcs; exact ⟨_, _, _, hcs⟩
        · simp only [List.cons.injEq, and_true] at hcs; exact ⟨_, _, _, hcs⟩
      subst e0
      have hml : vl ≤ maxLen := by
        rcases open_slice Tryz.underlying22 g0 with ⟨hcs, _⟩ | ⟨x, len, cap, m, n, D, Pl, hcs, _, hl2, hm2, _⟩
        · simp only [List.cons.injEq, and_true, Value.slice.injEq] at hcs; omega
        · simp only [List.cons.injEq, and_true, Value.slice.injEq] at hcs; omega
      obtain ⟨l, t0, t1, t2, t3⟩ := open_nodesB (v := .slice va vl vc) rfl g0
      obtain ⟨aa, ac, al, e5, u0, u1, u2, u3⟩ := open_texts g5
      obtain ⟨s1, e1, _, _⟩ := DataW.trod_string Tryz.underlying9 g1
      simp only [List.cons.injEq, and_true] at e1
      obtain ⟨b2, e2, _⟩ := DataW.trod_bool Tryz.underlying4 g2
      simp only [List.cons.injEq, and_true] at e2
      obtain ⟨s3, e3, _, _⟩ := DataW.trod_string Tryz.underlying9 g3
      simp only [List.cons.injEq, and_true] at e3
      obtain ⟨b4, e4, _⟩ := DataW.trod_bool Tryz.underlying4 g4
      simp only [List.cons.injEq, and_true] at e4
      obtain ⟨b6, e6, _⟩ := DataW.trod_bool Tryz.underlying4 g6
      simp only [List.cons.injEq, and_true] at e6
      obtain ⟨s7, e7, _, _⟩ := DataW.trod_string Tryz.underlying9 g7
      simp only [List.cons.injEq, and_true] at e7
      obtain ⟨b8, e8, _⟩ := DataW.trod_bool Tryz.underlying4 g8
      simp only [List.cons.injEq, and_true] at e8
      obtain ⟨m9, e9, f9, z9⟩ := open_time g9
      obtain ⟨m10, e10, f10, z10⟩ := open_time g10
      obtain ⟨m11, e11, f11, z11⟩ := open_time g11
      have hd := (Prod.mk.inj hx).1
      have hval := t0.val
      obtain ⟨-, rfl, -⟩ := Value.slice.inj hval
      refine ⟨va, vc, aa, ac, ⟨l, s1.data.toList, b2, s3.data.toList, b4, al, b6, s7.data.toList, b8, m9, m10, m11⟩, by rw [e1, e2, e3, e4, e5, e6, e7, e8, e9, f9, e10, f10, e11, f11]; simp [clV], z9, z10, z11, ⟨t0, hml, ?_, fun x hx => ?_, t3⟩, ⟨u0, u1, ?_, u3.1, fun x hx => ?_⟩⟩
      · rw [hd]
        simp only [List.map_cons, Rows.uptoBulk, Rows.uptoBulkAll]
        omega
      · rw [hd]
        have h := t2 x hx
        simp only [List.map_cons, Rows.uptoBulk, Rows.uptoBulkAll]
        exact ⟨by omega, by omega, h.2.2⟩
      · rw [hd]
        simp only [List.map_cons, Rows.uptoBulk, Rows.uptoBulkAll]
        omega
      · rw [hd]
        have := u3.2 x hx
        simp only [List.map_cons, Rows.uptoBulk, Rows.uptoBulkAll]
        omega

set_option maxRecDepth 100000 in
theorem open_want {H : Type} {enc : TypeId × Value → H} {W : World} {held : Bool} {v : Value} {d : DataW H} {p : List MemPlace} {fuel base : Nat} (hv : Value.okWide Tryz.prog W .any base 30 v)
    (hf : DataW.trod enc Tryz.prog W 0 (fun _ => true) held fuel 30 v.cells.toList = some (d, p)) :
    ∃ t : Wt, v = wtV t ∧ I64 t.age ∧ I64 t.lee ∧ t.client.length ≤ Rows.uptoBulk d ∧ t.nonce.length ≤ Rows.uptoBulk d ∧ t.access.length ≤ Rows.uptoBulk d ∧ t.code.length ≤ Rows.uptoBulk d := by
  obtain ⟨vs, rfl, _⟩ := okWide_struct Tryz.underlying30 hv
  have hcs : (Value.agg vs).cells.toList = vs.toList := rfl
  rw [hcs] at hf
  obtain ⟨xs, n, _, hx, hl, hlen, hff⟩ := DataW.trod_struct Tryz.underlying30 hf
  rw [cellsWt] at hl
  match xs, hlen with
  | [y0, y1, y2, y3, y4, y5, y6, y7, y8, y9], _ =>
    have h0 := hff 0 _ rfl
    have h1 := hff 1 _ rfl
    have h2 := hff 2 _ rfl
    have h3 := hff 3 _ rfl
    have h4 := hff 4 _ rfl
    have h5 := hff 5 _ rfl
    have h6 := hff 6 _ rfl
    have h7 := hff 7 _ rfl
    have h8 := hff 8 _ rfl
    have h9 := hff 9 _ rfl
    obtain ⟨cs⟩ := vs
    dsimp only at *
    match cs, hl with
    | [c0, c1, c2, c3, c4, c5, c6, c7, c8, c9], _ =>
      have g0 : DataW.trod enc Tryz.prog W 0 (fun _ => true) held n 9 [c0] = some y0 := h0
      have g1 : DataW.trod enc Tryz.prog W 0 (fun _ => true) held n 9 [c1] = some y1 := h1
      have g2 : DataW.trod enc Tryz.prog W 0 (fun _ => true) held n 4 [c2] = some y2 := h2
      have g3 : DataW.trod enc Tryz.prog W 0 (fun _ => true) held n 9 [c3] = some y3 := h3
      have g4 : DataW.trod enc Tryz.prog W 0 (fun _ => true) held n 4 [c4] = some y4 := h4
      have g5 : DataW.trod enc Tryz.prog W 0 (fun _ => true) held n 9 [c5] = some y5 := h5
      have g6 : DataW.trod enc Tryz.prog W 0 (fun _ => true) held n 4 [c6] = some y6 := h6
      have g7 : DataW.trod enc Tryz.prog W 0 (fun _ => true) held n 2 [c7] = some y7 := h7
      have g8 : DataW.trod enc Tryz.prog W 0 (fun _ => true) held n 4 [c8] = some y8 := h8
      have g9 : DataW.trod enc Tryz.prog W 0 (fun _ => true) held n 2 [c9] = some y9 := h9
      obtain ⟨s0, e0, f0, _⟩ := DataW.trod_string Tryz.underlying9 g0
      simp only [List.cons.injEq, and_true] at e0
      obtain ⟨s1, e1, f1, _⟩ := DataW.trod_string Tryz.underlying9 g1
      simp only [List.cons.injEq, and_true] at e1
      obtain ⟨b2, e2, _⟩ := DataW.trod_bool Tryz.underlying4 g2
      simp only [List.cons.injEq, and_true] at e2
      obtain ⟨s3, e3, f3, _⟩ := DataW.trod_string Tryz.underlying9 g3
      simp only [List.cons.injEq, and_true] at e3
      obtain ⟨b4, e4, _⟩ := DataW.trod_bool Tryz.underlying4 g4
      simp only [List.cons.injEq, and_true] at e4
      obtain ⟨s5, e5, f5, _⟩ := DataW.trod_string Tryz.underlying9 g5
      simp only [List.cons.injEq, and_true] at e5
      obtain ⟨b6, e6, _⟩ := DataW.trod_bool Tryz.underlying4 g6
      simp only [List.cons.injEq, and_true] at e6
      obtain ⟨i7, e7, _, z7⟩ := DataW.trod_int Tryz.underlying2 g7
      simp only [List.cons.injEq, and_true] at e7
      obtain ⟨b8, e8, _⟩ := DataW.trod_bool Tryz.underlying4 g8
      simp only [List.cons.injEq, and_true] at e8
      obtain ⟨i9, e9, _, z9⟩ := DataW.trod_int Tryz.underlying2 g9
      simp only [List.cons.injEq, and_true] at e9
      have hd := (Prod.mk.inj hx).1
      refine ⟨⟨s0.data.toList, s1.data.toList, b2, s3.data.toList, b4, s5.data.toList, b6, i7, b8, i9⟩, by rw [e0, e1, e2, e3, e4, e5, e6, e7, e8, e9]; simp [wtV], lit_i64 z7, lit_i64 z9, ?_, ?_, ?_, ?_⟩
      · rw [hd]
        simp only [List.map_cons, Rows.uptoBulk, Rows.uptoBulkAll, f0]
        omega
      · rw [hd]
        simp only [List.map_cons, Rows.uptoBulk, Rows.uptoBulkAll, f1]
        omega
      · rw [hd]
        simp only [List.map_cons, Rows.uptoBulk, Rows.uptoBulkAll, f3]
        omega
      · rw [hd]
        simp only [List.map_cons, Rows.uptoBulk, Rows.uptoBulkAll, f5]
        omega

section
variable {H : Type} {enc : TypeId × Value → H} {P : Program} {w : World} {base : Nat} {spare : Nat → Bool} {held : Bool}
end

end Go.Proofs.YtdhfjhdlimmjhaaGreatDoor
