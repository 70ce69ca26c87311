import Derived.Test.YtccfcplhifbjlaaGreatDoorUl
import Derived.Test.YtccfcplhifbjlaaGreatDoorUlJf
import Derived.Test.YtccfcplhifbjlaaGreatDoorZArg
namespace Go.Proofs.YtccfcplhifbjlaaGreatDoor
open Go.ChangeShapes Go.WideShapes Go.ChangeAt Go.RowKit
open Go.ChangeMaps (open_string shut_string)

set_option maxRecDepth 100000 in
theorem jwsTagHolds_tb {W : World} (h : laidMetH Tryz.prog Rows.jwsTagHoldsUptoRow.laid W) : Sha.Tb W := by
  rw [MakeChecks.laidMetH_plain _ _ _ (by kernel_rfl)] at h
  have h0 : laidMet Tryz.prog (("math/bits.deBruijn32tab", Rows.laid_math_bits_deBruijn32tab) :: [("math/bits.deBruijn64tab", Rows.laid_math_bits_deBruijn64tab), ("internal/strconv.uint64pow10", Rows.laid_internal_strconv_uint64pow10), ("strconv.ErrRange", Rows.laid_strconv_ErrRange), ("strconv.ErrSyntax", Rows.laid_strconv_ErrSyntax), ("signet/sha.squareRoots", Rows.laid_signet_sha_squareRoots), ("signet/sha.cubeRoots", Rows.laid_signet_sha_cubeRoots), ("signet/ed.prime", Rows.laid_signet_ed_prime), ("signet/ed.order", Rows.laid_signet_ed_order), ("signet/ed.curveD", Rows.laid_signet_ed_curveD), ("signet/ed.minusOneRoot", Rows.laid_signet_ed_minusOneRoot), ("signet/ed.baseX", Rows.laid_signet_ed_baseX), ("signet/ed.baseY", Rows.laid_signet_ed_baseY), ("signet/rsa1.infos", Rows.laid_signet_rsa1_infos)]) W := h
  have h1 : laidMet Tryz.prog (("math/bits.deBruijn64tab", Rows.laid_math_bits_deBruijn64tab) :: [("internal/strconv.uint64pow10", Rows.laid_internal_strconv_uint64pow10), ("strconv.ErrRange", Rows.laid_strconv_ErrRange), ("strconv.ErrSyntax", Rows.laid_strconv_ErrSyntax), ("signet/sha.squareRoots", Rows.laid_signet_sha_squareRoots), ("signet/sha.cubeRoots", Rows.laid_signet_sha_cubeRoots), ("signet/ed.prime", Rows.laid_signet_ed_prime), ("signet/ed.order", Rows.laid_signet_ed_order), ("signet/ed.curveD", Rows.laid_signet_ed_curveD), ("signet/ed.minusOneRoot", Rows.laid_signet_ed_minusOneRoot), ("signet/ed.baseX", Rows.laid_signet_ed_baseX), ("signet/ed.baseY", Rows.laid_signet_ed_baseY), ("signet/rsa1.infos", Rows.laid_signet_rsa1_infos)]) W := laidMet.tail h0
  have h2 : laidMet Tryz.prog (("internal/strconv.uint64pow10", Rows.laid_internal_strconv_uint64pow10) :: [("strconv.ErrRange", Rows.laid_strconv_ErrRange), ("strconv.ErrSyntax", Rows.laid_strconv_ErrSyntax), ("signet/sha.squareRoots", Rows.laid_signet_sha_squareRoots), ("signet/sha.cubeRoots", Rows.laid_signet_sha_cubeRoots), ("signet/ed.prime", Rows.laid_signet_ed_prime), ("signet/ed.order", Rows.laid_signet_ed_order), ("signet/ed.curveD", Rows.laid_signet_ed_curveD), ("signet/ed.minusOneRoot", Rows.laid_signet_ed_minusOneRoot), ("signet/ed.baseX", Rows.laid_signet_ed_baseX), ("signet/ed.baseY", Rows.laid_signet_ed_baseY), ("signet/rsa1.infos", Rows.laid_signet_rsa1_infos)]) W := laidMet.tail h1
  have h3 : laidMet Tryz.prog (("strconv.ErrRange", Rows.laid_strconv_ErrRange) :: [("strconv.ErrSyntax", Rows.laid_strconv_ErrSyntax), ("signet/sha.squareRoots", Rows.laid_signet_sha_squareRoots), ("signet/sha.cubeRoots", Rows.laid_signet_sha_cubeRoots), ("signet/ed.prime", Rows.laid_signet_ed_prime), ("signet/ed.order", Rows.laid_signet_ed_order), ("signet/ed.curveD", Rows.laid_signet_ed_curveD), ("signet/ed.minusOneRoot", Rows.laid_signet_ed_minusOneRoot), ("signet/ed.baseX", Rows.laid_signet_ed_baseX), ("signet/ed.baseY", Rows.laid_signet_ed_baseY), ("signet/rsa1.infos", Rows.laid_signet_rsa1_infos)]) W := laidMet.tail h2
  have h4 : laidMet Tryz.prog (("strconv.ErrSyntax", Rows.laid_strconv_ErrSyntax) :: [("signet/sha.squareRoots", Rows.laid_signet_sha_squareRoots), ("signet/sha.cubeRoots", Rows.laid_signet_sha_cubeRoots), ("signet/ed.prime", Rows.laid_signet_ed_prime), ("signet/ed.order", Rows.laid_signet_ed_order), ("signet/ed.curveD", Rows.laid_signet_ed_curveD), ("signet/ed.minusOneRoot", Rows.laid_signet_ed_minusOneRoot), ("signet/ed.baseX", Rows.laid_signet_ed_baseX), ("signet/ed.baseY", Rows.laid_signet_ed_baseY), ("signet/rsa1.infos", Rows.laid_signet_rsa1_infos)]) W := laidMet.tail h3
  have h5 : laidMet Tryz.prog (("signet/sha.squareRoots", Rows.laid_signet_sha_squareRoots) :: [("signet/sha.cubeRoots", Rows.laid_signet_sha_cubeRoots), ("signet/ed.prime", Rows.laid_signet_ed_prime), ("signet/ed.order", Rows.laid_signet_ed_order), ("signet/ed.curveD", Rows.laid_signet_ed_curveD), ("signet/ed.minusOneRoot", Rows.laid_signet_ed_minusOneRoot), ("signet/ed.baseX", Rows.laid_signet_ed_baseX), ("signet/ed.baseY", Rows.laid_signet_ed_baseY), ("signet/rsa1.infos", Rows.laid_signet_rsa1_infos)]) W := laidMet.tail h4
  have t5 : Lib.TabIs Tryz.prog W "signet/sha.squareRoots" .u64 Sha.SQ := Lib.tabIs_of_head (by kernel_rfl : Tryz.prog.globalNamed "signet/sha.squareRoots" = some 5) (by kernel_rfl) Tryz.underlying196 Tryz.underlying133 (by kernel_rfl) (by kernel_rfl) (show laidMet Tryz.prog (("signet/sha.squareRoots", Lib.tabData .u64 Sha.SQ) :: [("signet/sha.cubeRoots", Rows.laid_signet_sha_cubeRoots), ("signet/ed.prime", Rows.laid_signet_ed_prime), ("signet/ed.order", Rows.laid_signet_ed_order), ("signet/ed.curveD", Rows.laid_signet_ed_curveD), ("signet/ed.minusOneRoot", Rows.laid_signet_ed_minusOneRoot), ("signet/ed.baseX", Rows.laid_signet_ed_baseX), ("signet/ed.baseY", Rows.laid_signet_ed_baseY), ("signet/rsa1.infos", Rows.laid_signet_rsa1_infos)]) W from h5)
  have h6 : laidMet Tryz.prog (("signet/sha.cubeRoots", Rows.laid_signet_sha_cubeRoots) :: [("signet/ed.prime", Rows.laid_signet_ed_prime), ("signet/ed.order", Rows.laid_signet_ed_order), ("signet/ed.curveD", Rows.laid_signet_ed_curveD), ("signet/ed.minusOneRoot", Rows.laid_signet_ed_minusOneRoot), ("signet/ed.baseX", Rows.laid_signet_ed_baseX), ("signet/ed.baseY", Rows.laid_signet_ed_baseY), ("signet/rsa1.infos", Rows.laid_signet_rsa1_infos)]) W := laidMet.tail h5
  have t6 : Lib.TabIs Tryz.prog W "signet/sha.cubeRoots" .u64 Sha.KT := Lib.tabIs_of_head (by kernel_rfl : Tryz.prog.globalNamed "signet/sha.cubeRoots" = some 14) (by kernel_rfl) Tryz.underlying257 Tryz.underlying133 (by kernel_rfl) (by kernel_rfl) (show laidMet Tryz.prog (("signet/sha.cubeRoots", Lib.tabData .u64 Sha.KT) :: [("signet/ed.prime", Rows.laid_signet_ed_prime), ("signet/ed.order", Rows.laid_signet_ed_order), ("signet/ed.curveD", Rows.laid_signet_ed_curveD), ("signet/ed.minusOneRoot", Rows.laid_signet_ed_minusOneRoot), ("signet/ed.baseX", Rows.laid_signet_ed_baseX), ("signet/ed.baseY", Rows.laid_signet_ed_baseY), ("signet/rsa1.infos", Rows.laid_signet_rsa1_infos)]) W from h6)
  exact ⟨fun i hi => t6.cell (by kernel_rfl) i hi, fun i hi => t5.cell (by kernel_rfl) i hi⟩

set_option maxRecDepth 100000 in
theorem jwsTagHolds_contract (H : Type) (enc : TypeId × Value → H) (W : World) (base : Nat) (args : Array Value) (ds gs : List (DataW H)) (before : List MemPlace)
    (hval : ∀ (j : Nat) t v, Tryz.f7.params[j]? = some t → args[j]? = some v → Value.okWide Tryz.prog W .any base t v)
    (hW : DataW.Whole enc Tryz.prog Tryz.f7.params.toList Rows.jwsTagHoldsSpec.vars false W args.toList ds gs before) (hk : Rows.uptoSmall H (ds ++ gs) = true) (hL : laidMetH Tryz.prog Rows.jwsTagHoldsUptoRow.laid W) :
    Calls Tryz.prog 7 args W fun e W' => ∃ v, e = .returned v ∧ Rows.jwsTagHoldsSpec.post enc Tryz.prog Tryz.f7 false true false false W args v W' := by
  have hW' := hW
  obtain ⟨p, q, hA0, hV, rfl, hfz, hnd⟩ := hW
  have hA : DataW.TrodAll enc Tryz.prog W 0 (fun _ => true) true Tryz.f7.params.toList args.toList ds p := hA0
  rw [Tryz.params7] at hA hval
  obtain ⟨v0, v1, v2, v3, d0, d1, d2, d3, p0, p1, p2, p3, rfl, rfl, rfl, h0, h1, h2, h3⟩ := trodAll_four hA
  obtain ⟨rfl, rfl⟩ := trodVars_none hV
  have hbd : Rows.uptoBulkAll [d0, d1, d2, d3] ≤ 1048576 := of_decide_eq_true hk
  simp only [Rows.uptoBulkAll] at hbd
  obtain ⟨a0, rfl, rfl, rfl, w0⟩ := open_int Tryz.underlying27 (hval 0 27 v0 rfl rfl) h0
  have b0 : -9223372036854775808 ≤ a0 ∧ a0 ≤ 9223372036854775807 := by
    have h := w0
    simp only [Lit.wf, Bool.and_eq_true, decide_eq_true_eq] at h
    rw [show IntKind.i64.min = -9223372036854775808 from by decide, show IntKind.i64.max = 9223372036854775807 from by decide] at h
    omega
  obtain ⟨a1, len1, cap1, hv1⟩ := okWide_slice Tryz.underlying30 (hval 1 30 v1 rfl rfl)
  have k1 := h1
  have lt1 : ∀ x ∈ p1, x.block < W.heap.size := by obtain ⟨m, hm⟩ := k1; exact DataW.trod_lt m _ _ _ hm
  obtain ⟨fuel1, hf1⟩ := h1
  obtain ⟨l1, hl1, hcp1, hbk1, hr1, hn1⟩ := open_bytes hv1 hf1
  obtain ⟨a2, rfl, rfl, rfl, w2⟩ := open_string Tryz.underlying9 (hval 2 9 v2 rfl rfl) h2
  obtain ⟨a3, len3, cap3, hv3⟩ := okWide_slice Tryz.underlying30 (hval 3 30 v3 rfl rfl)
  have k3 := h3
  have lt3 : ∀ x ∈ p3, x.block < W.heap.size := by obtain ⟨m, hm⟩ := k3; exact DataW.trod_lt m _ _ _ hm
  obtain ⟨fuel3, hf3⟩ := h3
  obtain ⟨l3, hl3, hcp3, hbk3, hr3, hn3⟩ := open_bytes hv3 hf3
  clear hA0
  have hc := (show Calls Tryz.prog 7 #[.int .i64 a0, v1, .string ⟨a2.data.toList.toArray⟩, v3] W (fun e w' => e = .returned (.bool true) ∧ Below W.heap.size W w') from by have e2 : a2.data.toList.length = a2.size := (by simp); have h := tagholds_any a0 a1 a3 cap1 cap3 l1 a2.data.toList l3 W (jwsTagHolds_tb hL) hr1 hr3 (by omega) (by omega) (by simp only [Rows.uptoBulk] at hbd; omega) (by omega); rw [hl1, hl3, ← hv1, ← hv3] at h; exact h)
  rw [← str_of a2] at hc
  refine hc.mono fun e W' ⟨he, bel⟩ => ?_
  subst he
  exact ⟨_, rfl, _, _, _, [], _, [], hW', trodAll_mk1 (shut_bool Tryz.underlying4 _), trodAll_mk4 (shut_int Tryz.underlying27 w0) (Below.trod laidO (by kernel_rfl) (of_decide_eq_true (by kernel_rfl)) k1 bel lt1) (shut_string Tryz.underlying9 w2) (Below.trod laidO (by kernel_rfl) (of_decide_eq_true (by kernel_rfl)) k3 bel lt3), rfl, bel.frame _, fun h => by cases h⟩

theorem jwsTagHolds_reads (os : Os) {H : Type} (enc : TypeId × Value → H) : ∃ places, DataW.whole enc Tryz.prog ((World.laidAll Tryz.prog os Rows.jwsTagHoldsUptoRow.laid).forCall (fun _ _ => 0) ⟨#[], #[.int .i64 0, .slice none 0 0, .string .empty, .slice none 0 0], []⟩).memory Tryz.f7.params.toList Rows.jwsTagHoldsSpec.vars false (#[.int .i64 0, .slice none 0 0, .string .empty, .slice none 0 0] : Array Value).toList 8 = some ([.lit (.int .i64 0), .nil, .lit (.string []), .nil], [], places) :=
  ⟨[], by kernel_rfl⟩

set_option maxRecDepth 100000 in
theorem jwsTagHolds_lifted (os : Os) (started : os.Started) (H : Type) (enc : TypeId × Value → H) (F : Stop.Interp) :
    ReturnsInHanded {} Tryz.checked os 7 .any ((Rows.OpenSpec.upto Rows.jwsTagHoldsSpec).preRow enc Tryz.prog Tryz.f7 Rows.jwsTagHoldsUptoRow.domain false Rows.jwsTagHoldsUptoRow.laid) (((Rows.OpenSpec.upto Rows.jwsTagHoldsSpec).at F).post enc Tryz.prog Tryz.f7 false true false false) := by
  obtain ⟨places, hx⟩ := jwsTagHolds_reads os enc
  refine returnsInHanded_of_row (C := Tryz.checked) (s := (Rows.OpenSpec.upto Rows.jwsTagHoldsSpec)) ownK started (by kernel_rfl) Tryz.func7
    (witness_row_at (enc := enc) (C := Tryz.checked) false (World.laidAll Tryz.prog os Rows.jwsTagHoldsUptoRow.laid) #[.int .i64 0, .slice none 0 0, .string .empty, .slice none 0 0] (World.laidAll_os _ _ _) (by kernel_rfl) (by kernel_rfl) (by kernel_rfl)
      (OpenSpec.preRow_of_cond 8 hx (by kernel_rfl) (fun k hk => by first | (cases hk; done) | (cases hk; kernel_rfl)) (by kernel_rfl) (laidMet_laidAll _ (by kernel_rfl) (by kernel_rfl)))) ?_
  intro W base args ds gs before hval hW _ hcond _ hL _ _
  exact jwsTagHolds_contract H enc W base args ds gs before hval hW (hcond _ rfl) hL

theorem jwsTagHolds_said : Rows.JwsTagHoldsUptoSaid :=
  OpenClaim.holds_of_cond 7 Tryz.f7 rfl rfl rfl rfl rfl rfl rfl ⟨rfl, rfl, rfl, rfl, rfl⟩ rfl rfl rfl rfl rfl (by kernel_rfl) Tryz.func7 jwsTagHolds_closed
    (of_decide_eq_true (by kernel_rfl)) (by unfold Func.isWrapper; first | (rw [if_pos (by decide +kernel)]; kernel_rfl) | (rw [if_neg (by decide +kernel)]; exact ⟨rfl, rfl⟩))
    (fun os started H enc _ F => by rw [OpenClaim.pre_eq_preRow]; exact jwsTagHolds_lifted os started H enc F)

theorem jwsTagHolds_plain (f : FuncId) (fn : Func) (hf : Tryz.pinned.checked.prog.funcNamed "signet/signetlaw18.JwsTagHolds" = some f) (hfn : Tryz.pinned.checked.prog.funcs[f]? = some fn) :
    true = Tryz.pinned.checked.prog.looks [] ∧ ∀ (j : Nat) t, fn.params[j]? = some t → Tryz.pinned.checked.prog.wantsStandIn t = false := by
  obtain rfl : f = 7 := Option.some.inj ((show Tryz.prog.funcNamed "signet/signetlaw18.JwsTagHolds" = some 7 by kernel_rfl).symm.trans hf) |>.symm
  obtain rfl : fn = Tryz.f7 := (Option.some.inj (Tryz.func7.symm.trans hfn)).symm
  refine ⟨by kernel_rfl, fun j t ht => ?_⟩
  rw [Tryz.params7] at ht
  have hm : t = 27 ∨ t = 30 ∨ t = 9 ∨ t = 30 := by simpa using Array.mem_of_getElem? ht
  rcases hm with rfl | rfl | rfl | rfl
  · exact (show Tryz.prog.wantsStandIn 27 = false by kernel_rfl)
  · exact (show Tryz.prog.wantsStandIn 30 = false by kernel_rfl)
  · exact (show Tryz.prog.wantsStandIn 9 = false by kernel_rfl)
  · exact (show Tryz.prog.wantsStandIn 30 = false by kernel_rfl)

theorem jwsTagHolds_card : Rows.JwsTagHoldsUptoCardSaid :=
  Claim7.holds_tied_plain_at .later [] _ _ _ _ jwsTagHolds_said (fun _ h => by cases h) (by kernel_rfl) (fun _ h => by cases h) jwsTagHoldsUpto_row_tie rfl ⟨rfl, rfl⟩ (by kernel_rfl) rfl jwsTagHolds_plain (by kernel_rfl)
#print axioms jwsTagHolds_card

end Go.Proofs.YtccfcplhifbjlaaGreatDoor
