import Derived.Test.YtghfoppojdkhkaaGreatDoorEE
import Derived.Test.YtghfoppojdkhkaaGreatDoorCArg
namespace Go.Proofs.YtghfoppojdkhkaaGreatDoor
open Go.ChangeShapes Go.WideShapes Go.ChangeAt Go.RowKit

set_option maxRecDepth 100000 in
theorem ecdsaEquation_tb {W : World} (h : laidMetH Tryz.prog Rows.ecdsaEquationUptoRow.laid W) : Sha.Tb W := by
  rw [MakeChecks.laidMetH_plain _ _ _ (by kernel_rfl)] at h
  have h0 : laidMet Tryz.prog (("math/bits.deBruijn32tab", Rows.laid_math_bits_deBruijn32tab) :: [("math/bits.deBruijn64tab", Rows.laid_math_bits_deBruijn64tab), ("internal/strconv.uint64pow10", Rows.laid_internal_strconv_uint64pow10), ("strconv.ErrRange", Rows.laid_strconv_ErrRange), ("strconv.ErrSyntax", Rows.laid_strconv_ErrSyntax), ("signet/sha.squareRoots", Rows.laid_signet_sha_squareRoots), ("signet/sha.cubeRoots", Rows.laid_signet_sha_cubeRoots)]) W := h
  have h1 : laidMet Tryz.prog (("math/bits.deBruijn64tab", Rows.laid_math_bits_deBruijn64tab) :: [("internal/strconv.uint64pow10", Rows.laid_internal_strconv_uint64pow10), ("strconv.ErrRange", Rows.laid_strconv_ErrRange), ("strconv.ErrSyntax", Rows.laid_strconv_ErrSyntax), ("signet/sha.squareRoots", Rows.laid_signet_sha_squareRoots), ("signet/sha.cubeRoots", Rows.laid_signet_sha_cubeRoots)]) W := laidMet.tail h0
  have h2 : laidMet Tryz.prog (("internal/strconv.uint64pow10", Rows.laid_internal_strconv_uint64pow10) :: [("strconv.ErrRange", Rows.laid_strconv_ErrRange), ("strconv.ErrSyntax", Rows.laid_strconv_ErrSyntax), ("signet/sha.squareRoots", Rows.laid_signet_sha_squareRoots), ("signet/sha.cubeRoots", Rows.laid_signet_sha_cubeRoots)]) W := laidMet.tail h1
  have h3 : laidMet Tryz.prog (("strconv.ErrRange", Rows.laid_strconv_ErrRange) :: [("strconv.ErrSyntax", Rows.laid_strconv_ErrSyntax), ("signet/sha.squareRoots", Rows.laid_signet_sha_squareRoots), ("signet/sha.cubeRoots", Rows.laid_signet_sha_cubeRoots)]) W := laidMet.tail h2
  have h4 : laidMet Tryz.prog (("strconv.ErrSyntax", Rows.laid_strconv_ErrSyntax) :: [("signet/sha.squareRoots", Rows.laid_signet_sha_squareRoots), ("signet/sha.cubeRoots", Rows.laid_signet_sha_cubeRoots)]) W := laidMet.tail h3
  have h5 : laidMet Tryz.prog (("signet/sha.squareRoots", Rows.laid_signet_sha_squareRoots) :: [("signet/sha.cubeRoots", Rows.laid_signet_sha_cubeRoots)]) W := laidMet.tail h4
  have t5 : Lib.TabIs Tryz.prog W "signet/sha.squareRoots" .u64 Sha.SQ := Lib.tabIs_of_head (by kernel_rfl : Tryz.prog.globalNamed "signet/sha.squareRoots" = some 0) (by kernel_rfl) Tryz.underlying126 Tryz.underlying81 (by kernel_rfl) (by kernel_rfl) (show laidMet Tryz.prog (("signet/sha.squareRoots", Lib.tabData .u64 Sha.SQ) :: [("signet/sha.cubeRoots", Rows.laid_signet_sha_cubeRoots)]) W from h5)
  have h6 : laidMet Tryz.prog (("signet/sha.cubeRoots", Rows.laid_signet_sha_cubeRoots) :: []) W := laidMet.tail h5
  have t6 : Lib.TabIs Tryz.prog W "signet/sha.cubeRoots" .u64 Sha.KT := Lib.tabIs_of_head (by kernel_rfl : Tryz.prog.globalNamed "signet/sha.cubeRoots" = some 1) (by kernel_rfl) Tryz.underlying139 Tryz.underlying81 (by kernel_rfl) (by kernel_rfl) (show laidMet Tryz.prog (("signet/sha.cubeRoots", Lib.tabData .u64 Sha.KT) :: []) W from h6)
  exact ⟨fun i hi => t6.cell (by kernel_rfl) i hi, fun i hi => t5.cell (by kernel_rfl) i hi⟩

set_option maxRecDepth 100000 in
theorem ecdsaEquation_contract (H : Type) (enc : TypeId × Value → H) (W : World) (base : Nat) (args : Array Value) (ds gs : List (DataW H)) (before : List MemPlace)
    (hval : ∀ (j : Nat) t v, Tryz.f6.params[j]? = some t → args[j]? = some v → Value.okWide Tryz.prog W .any base t v)
    (hW : DataW.Whole enc Tryz.prog Tryz.f6.params.toList Rows.ecdsaEquationSpec.vars false W args.toList ds gs before) (hk : Rows.uptoSmall H (ds ++ gs) = true) (hL : laidMetH Tryz.prog Rows.ecdsaEquationUptoRow.laid W) :
    Calls Tryz.prog 6 args W fun e W' => ∃ v, e = .returned v ∧ Rows.ecdsaEquationSpec.post enc Tryz.prog Tryz.f6 false true false false W args v W' := by
  have hW' := hW
  obtain ⟨p, q, hA0, hV, rfl, hfz, hnd⟩ := hW
  have hA : DataW.TrodAll enc Tryz.prog W 0 (fun _ => true) true Tryz.f6.params.toList args.toList ds p := hA0
  rw [Tryz.params6] at hA hval
  obtain ⟨v0, v1, v2, v3, v4, v5, d0, d1, d2, d3, d4, d5, p0, p1, p2, p3, p4, p5, rfl, rfl, rfl, h0, h1, h2, h3, h4, h5⟩ := trodAll_six hA
  obtain ⟨rfl, rfl⟩ := trodVars_none hV
  have hbd : Rows.uptoBulkAll [d0, d1, d2, d3, d4, d5] ≤ 1048576 := of_decide_eq_true hk
  simp only [Rows.uptoBulkAll] at hbd
  obtain ⟨a0, rfl, rfl, rfl, w0⟩ := open_int Tryz.underlying22 (hval 0 22 v0 rfl rfl) h0
  obtain ⟨a1, rfl, rfl, rfl, w1⟩ := open_int Tryz.underlying23 (hval 1 23 v1 rfl rfl) h1
  have k2 := h2
  have lt2 : ∀ x ∈ p2, x.block < W.heap.size := by obtain ⟨m, hm⟩ := k2; exact DataW.trod_lt m _ _ _ hm
  obtain ⟨fuel2, hf2⟩ := h2
  obtain ⟨a2, len2, cap2, hv2⟩ := okWide_slice Tryz.underlying24 (hval 2 24 v2 rfl rfl)
  obtain ⟨l2, hl2, hcp2, hbk2, hr2, hn2⟩ := open_bytes hv2 hf2
  have k3 := h3
  have lt3 : ∀ x ∈ p3, x.block < W.heap.size := by obtain ⟨m, hm⟩ := k3; exact DataW.trod_lt m _ _ _ hm
  obtain ⟨fuel3, hf3⟩ := h3
  obtain ⟨a3, len3, cap3, hv3⟩ := okWide_slice Tryz.underlying24 (hval 3 24 v3 rfl rfl)
  obtain ⟨l3, hl3, hcp3, hbk3, hr3, hn3⟩ := open_bytes hv3 hf3
  have k4 := h4
  have lt4 : ∀ x ∈ p4, x.block < W.heap.size := by obtain ⟨m, hm⟩ := k4; exact DataW.trod_lt m _ _ _ hm
  obtain ⟨fuel4, hf4⟩ := h4
  obtain ⟨a4, len4, cap4, hv4⟩ := okWide_slice Tryz.underlying24 (hval 4 24 v4 rfl rfl)
  obtain ⟨l4, hl4, hcp4, hbk4, hr4, hn4⟩ := open_bytes hv4 hf4
  have k5 := h5
  have lt5 : ∀ x ∈ p5, x.block < W.heap.size := by obtain ⟨m, hm⟩ := k5; exact DataW.trod_lt m _ _ _ hm
  obtain ⟨fuel5, hf5⟩ := h5
  obtain ⟨a5, len5, cap5, hv5⟩ := okWide_slice Tryz.underlying24 (hval 5 24 v5 rfl rfl)
  obtain ⟨l5, hl5, hcp5, hbk5, hr5, hn5⟩ := open_bytes hv5 hf5
  clear hA0
  have hc := equation_core a1 a0 a2 a3 a4 a5 cap2 cap3 cap4 cap5 l2 l3 l4 l5 W (ecdsaEquation_tb hL) hr2 hr3 hr4 hr5 (by omega) (by omega) (by omega) (by omega) ⟨by omega, by omega⟩
  rw [hl2, ← hv2] at hc
  rw [hl3, ← hv3] at hc
  rw [hl4, ← hv4] at hc
  rw [hl5, ← hv5] at hc
  refine hc.mono fun e W' ⟨he, bel⟩ => ?_
  subst he
  exact ⟨_, rfl, _, _, _, [], _, [], hW', trodAll_mk1 (shut_bool Tryz.underlying4 _), trodAll_mk6 (shut_int Tryz.underlying22 w0) (shut_int Tryz.underlying23 w1) (Below.trod laidO (by kernel_rfl) (of_decide_eq_true (by kernel_rfl)) k2 bel lt2) (Below.trod laidO (by kernel_rfl) (of_decide_eq_true (by kernel_rfl)) k3 bel lt3) (Below.trod laidO (by kernel_rfl) (of_decide_eq_true (by kernel_rfl)) k4 bel lt4) (Below.trod laidO (by kernel_rfl) (of_decide_eq_true (by kernel_rfl)) k5 bel lt5), rfl, bel.frame _, fun h => by cases h⟩

theorem ecdsaEquation_reads (os : Os) {H : Type} (enc : TypeId × Value → H) : ∃ places, DataW.whole enc Tryz.prog ((World.laidAll Tryz.prog os Rows.ecdsaEquationUptoRow.laid).forCall (fun _ _ => 0) ⟨#[], #[.int .i64 0, .int .i64 0, .slice none 0 0, .slice none 0 0, .slice none 0 0, .slice none 0 0], []⟩).memory Tryz.f6.params.toList Rows.ecdsaEquationSpec.vars false (#[.int .i64 0, .int .i64 0, .slice none 0 0, .slice none 0 0, .slice none 0 0, .slice none 0 0] : Array Value).toList 8 = some ([.lit (.int .i64 0), .lit (.int .i64 0), .nil, .nil, .nil, .nil], [], places) :=
  ⟨[], by kernel_rfl⟩

set_option maxRecDepth 100000 in
theorem ecdsaEquation_lifted (os : Os) (started : os.Started) (H : Type) (enc : TypeId × Value → H) (F : Stop.Interp) :
    ReturnsInHanded {} Tryz.checked os 6 .any ((Rows.OpenSpec.upto Rows.ecdsaEquationSpec).preRow enc Tryz.prog Tryz.f6 Rows.ecdsaEquationUptoRow.domain false Rows.ecdsaEquationUptoRow.laid) (((Rows.OpenSpec.upto Rows.ecdsaEquationSpec).at F).post enc Tryz.prog Tryz.f6 false true false false) := by
  obtain ⟨places, hx⟩ := ecdsaEquation_reads os enc
  refine returnsInHanded_of_row (C := Tryz.checked) (s := (Rows.OpenSpec.upto Rows.ecdsaEquationSpec)) ownK started (by kernel_rfl) Tryz.func6
    (witness_row_at (enc := enc) (C := Tryz.checked) false (World.laidAll Tryz.prog os Rows.ecdsaEquationUptoRow.laid) #[.int .i64 0, .int .i64 0, .slice none 0 0, .slice none 0 0, .slice none 0 0, .slice none 0 0] (World.laidAll_os _ _ _) (by kernel_rfl) (by kernel_rfl) (by kernel_rfl)
      (OpenSpec.preRow_of_cond 8 hx (by kernel_rfl) (fun k hk => by first | (cases hk; done) | (cases hk; kernel_rfl)) (by kernel_rfl) (laidMet_laidAll _ (by kernel_rfl) (by kernel_rfl)))) ?_
  intro W base args ds gs before hval hW _ hcond _ hL _ _
  exact ecdsaEquation_contract H enc W base args ds gs before hval hW (hcond _ rfl) hL

theorem ecdsaEquation_said : Rows.EcdsaEquationUptoSaid :=
  OpenClaim.holds_of_cond 6 Tryz.f6 rfl rfl rfl rfl rfl rfl rfl ⟨rfl, rfl, rfl, rfl, rfl⟩ rfl rfl rfl rfl rfl (by kernel_rfl) Tryz.func6 (by kernel_rfl)
    (of_decide_eq_true (by kernel_rfl)) (by unfold Func.isWrapper; first | (rw [if_pos (by decide +kernel)]; kernel_rfl) | (rw [if_neg (by decide +kernel)]; exact ⟨rfl, rfl⟩))
    (fun os started H enc _ F => by rw [OpenClaim.pre_eq_preRow]; exact ecdsaEquation_lifted os started H enc F)

theorem ecdsaEquation_plain (f : FuncId) (fn : Func) (hf : Tryz.pinned.checked.prog.funcNamed "signet/signetlaw12.EcdsaEquation" = some f) (hfn : Tryz.pinned.checked.prog.funcs[f]? = some fn) :
    true = Tryz.pinned.checked.prog.looks [] ∧ ∀ (j : Nat) t, fn.params[j]? = some t → Tryz.pinned.checked.prog.wantsStandIn t = false := by
  obtain rfl : f = 6 := Option.some.inj ((show Tryz.prog.funcNamed "signet/signetlaw12.EcdsaEquation" = some 6 by kernel_rfl).symm.trans hf) |>.symm
  obtain rfl : fn = Tryz.f6 := (Option.some.inj (Tryz.func6.symm.trans hfn)).symm
  refine ⟨by kernel_rfl, fun j t ht => ?_⟩
  rw [Tryz.params6] at ht
  have hm : t = 22 ∨ t = 23 ∨ t = 24 := by simpa using Array.mem_of_getElem? ht
  rcases hm with rfl | rfl | rfl
  · exact (show Tryz.prog.wantsStandIn 22 = false by kernel_rfl)
  · exact (show Tryz.prog.wantsStandIn 23 = false by kernel_rfl)
  · exact (show Tryz.prog.wantsStandIn 24 = false by kernel_rfl)

theorem ecdsaEquation_card : Rows.EcdsaEquationUptoCardSaid :=
  Claim7.holds_tied_plain_at .later [] _ _ _ _ ecdsaEquation_said (fun _ h => by cases h) (by kernel_rfl) (fun _ h => by cases h) ecdsaEquationUpto_row_tie rfl ⟨rfl, rfl⟩ (by kernel_rfl) rfl ecdsaEquation_plain (by kernel_rfl)
#print axioms ecdsaEquation_card

end Go.Proofs.YtghfoppojdkhkaaGreatDoor
