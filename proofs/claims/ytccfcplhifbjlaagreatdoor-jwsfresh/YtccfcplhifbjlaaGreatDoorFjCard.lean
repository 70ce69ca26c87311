import Derived.Test.YtccfcplhifbjlaaGreatDoorFj
import Derived.Test.YtccfcplhifbjlaaGreatDoorFjJf
import Derived.Test.YtccfcplhifbjlaaGreatDoorZArg
namespace Go.Proofs.YtccfcplhifbjlaaGreatDoor
open Go.ChangeShapes Go.WideShapes Go.ChangeAt Go.RowKit
open Go.ChangeMaps (open_string shut_string)

set_option maxRecDepth 100000 in
theorem jwsFresh_tb {W : World} (h : laidMetH Tryz.prog Rows.jwsFreshRow.laid W) : Sha.Tb W := by
  rw [MakeChecks.laidMetH_plain _ _ _ (by kernel_rfl)] at h
  have h0 : laidMet Tryz.prog (("math/bits.deBruijn32tab", Rows.laid_math_bits_deBruijn32tab) :: [("math/bits.deBruijn64tab", Rows.laid_math_bits_deBruijn64tab), ("internal/strconv.uint64pow10", Rows.laid_internal_strconv_uint64pow10), ("strconv.ErrRange", Rows.laid_strconv_ErrRange), ("strconv.ErrSyntax", Rows.laid_strconv_ErrSyntax), ("signet/sha.squareRoots", Rows.laid_signet_sha_squareRoots), ("signet/sha.cubeRoots", Rows.laid_signet_sha_cubeRoots), ("signet/ed.prime", Rows.laid_signet_ed_prime), ("signet/ed.order", Rows.laid_signet_ed_order), ("signet/ed.curveD", Rows.laid_signet_ed_curveD), ("signet/ed.minusOneRoot", Rows.laid_signet_ed_minusOneRoot), ("signet/ed.baseX", Rows.laid_signet_ed_baseX), ("signet/ed.baseY", Rows.laid_signet_ed_baseY), ("signet/rsa1.infos", Rows.laid_signet_rsa1_infos)]) W := h
  have h1 : laidMet Tryz.prog (("math/bits.deBruijn64tab", Rows.laid_math_bits_deBruijn64tab) :: [("internal/strconv.uint64pow10", Rows.laid_internal_strconv_uint64pow10), ("strconv.ErrRange", Rows.laid_strconv_ErrRange), ("strconv.ErrSyntax", Rows.laid_strconv_ErrSyntax), ("signet/sha.squareRoots", Rows.laid_signet_sha_squareRoots), ("signet/sha.cubeRoots", Rows.laid_signet_sha_cubeRoots), ("signet/ed.prime", Rows.laid_signet_ed_prime), ("signet/ed.order", Rows.laid_signet_ed_order), ("signet/ed.curveD", Rows.laid_signet_ed_curveD), ("signet/ed.minusOneRoot", Rows.laid_signet_ed_minusOneRoot), ("signet/ed.baseX", Rows.laid_signet_ed_baseX), ("signet/ed.baseY", Rows.laid_signet_ed_baseY), ("signet/rsa1.infos", Rows.laid_signet_rsa1_infos)]) W := laidMet.tail h0
  have h2 : laidMet Tryz.prog (("internal/strconv.uint64pow10", Rows.laid_internal_strconv_uint64pow10) :: [("strconv.ErrRange", Rows.laid_strconv_ErrRange), ("strconv.ErrSyntax", Rows.laid_strconv_ErrSyntax), ("signet/sha.squareRoots", Rows.laid_signet_sha_squareRoots), ("signet/sha.cubeRoots", Rows.laid_signet_sha_cubeRoots), ("signet/ed.prime", Rows.laid_signet_ed_prime), ("signet/ed.order", Rows.laid_signet_ed_order), ("signet/ed.curveD", Rows.laid_signet_ed_curveD), ("signet/ed.minusOneRoot", Rows.laid_signet_ed_minusOneRoot), ("signet/ed.baseX", Rows.laid_signet_ed_baseX), ("signet/ed.baseY", Rows.laid_signet_ed_baseY), ("signet/rsa1.infos", Rows.laid_signet_rsa1_infos)]) W := laidMet.tail h1
  have h3 : laidMet Tryz.prog (("strconv.ErrRange", Rows.laid_strconv_ErrRange) :: [("strconv.ErrSyntax", Rows.laid_strconv_ErrSyntax), ("signet/sha.squareRoots", Rows.laid_signet_sha_squareRoots), ("signet/sha.cubeRoots", Rows.laid_signet_sha_cubeRoots), ("signet/ed.prime", Rows.laid_signet_ed_prime), ("signet/ed.order", Rows.laid_signet_ed_order), ("signet/ed.curveD", Rows.laid_signet_ed_curveD), ("signet/ed.minusOneRoot", Rows.laid_signet_ed_minusOneRoot), ("signet/ed.baseX", Rows.laid_signet_ed_baseX), ("signet/ed.baseY", Rows.laid_signet_ed_baseY), ("signet/rsa1.infos", Rows.laid_signet_rsa1_infos)]) W := laidMet.tail h2
  have h4 : laidMet Tryz.prog (("strconv.ErrSyntax", Rows.laid_strconv_ErrSyntax) :: [("signet/sha.squareRoots", Rows.laid_signet_sha_squareRoots), ("signet/sha.cubeRoots", Rows.laid_signet_sha_cubeRoots), ("signet/ed.prime", Rows.laid_signet_ed_prime), ("signet/ed.order", Rows.laid_signet_ed_order), ("signet/ed.curveD", Rows.laid_signet_ed_curveD), ("signet/ed.minusOneRoot", Rows.laid_signet_ed_minusOneRoot), ("signet/ed.baseX", Rows.laid_signet_ed_baseX), ("signet/ed.baseY", Rows.laid_signet_ed_baseY), ("signet/rsa1.infos", Rows.laid_signet_rsa1_infos)]) W := laidMet.tail h3
  have h5 : laidMet Tryz.prog (("signet/sha.squareRoots", Rows.laid_signet_sha_squareRoots) :: [("signet/sha.cubeRoots", Rows.laid_signet_sha_cubeRoots), ("signet/ed.prime", Rows.laid_signet_ed_prime), ("signet/ed.order", Rows.laid_signet_ed_order), ("signet/ed.curveD", Rows.laid_signet_ed_curveD), ("signet/ed.minusOneRoot", Rows.laid_signet_ed_minusOneRoot), ("signet/ed.baseX", Rows.laid_signet_ed_baseX), ("signet/ed.baseY", Rows.laid_signet_ed_baseY), ("signet/rsa1.infos", Rows.laid_signet_rsa1_infos)]) W := laidMet.tail h4
  have t5 : Lib.TabIs Tryz.prog W "signet/sha.squareRoots" .u64 Sha.SQ := Lib.tabIs_of_head (by kernel_rfl : Tryz.prog.globalNamed "signet/sha.squareRoots" = some 5) (by kernel_rfl) Tryz.underlying196 Tryz.underlying133 (by kernel_rfl) (by kernel_rfl) (show laidMet Tryz.prog (("signet/sha.squareRoots", Lib.tabData .u64 Sha.SQ) :: [("signet/sha.cubeRoots", Rows.laid_signet_sha_cubeRoots), ("signet/ed.prime", Rows.laid_signet_ed_prime), ("signet/ed.order", Rows.laid_signet_ed_order), ("signet/ed.curveD", Rows.laid_signet_ed_curveD), ("signet/ed.minusOneRoot", Rows.laid_signet_ed_minusOneRoot), ("signet/ed.baseX", Rows.laid_signet_ed_baseX), ("signet/ed.baseY", Rows.laid_signet_ed_baseY), ("signet/rsa1.infos", Rows.laid_signet_rsa1_infos)]) W from h5)
  have h6 : laidMet Tryz.prog (("signet/sha.cubeRoots", Rows.laid_signet_sha_cubeRoots) :: [("signet/ed.prime", Rows.laid_signet_ed_prime), ("signet/ed.order", Rows.laid_signet_ed_order), ("signet/ed.curveD", Rows.laid_signet_ed_curveD), ("signet/ed.minusOneRoot", Rows.laid_signet_ed_minusOneRoot), ("signet/ed.baseX", Rows.laid_signet_ed_baseX), ("signet/ed.baseY", Rows.laid_signet_ed_baseY), ("signet/rsa1.infos", Rows.laid_signet_rsa1_infos)]) W := laidMet.tail h5
  have t6 : Lib.TabIs Tryz.prog W "signet/sha.cubeRoots" .u64 Sha.KT := Lib.tabIs_of_head (by kernel_rfl : Tryz.prog.globalNamed "signet/sha.cubeRoots" = some 14) (by kernel_rfl) Tryz.underlying257 Tryz.underlying133 (by kernel_rfl) (by kernel_rfl) (show laidMet Tryz.prog (("signet/sha.cubeRoots", Lib.tabData .u64 Sha.KT) :: [("signet/ed.prime", Rows.laid_signet_ed_prime), ("signet/ed.order", Rows.laid_signet_ed_order), ("signet/ed.curveD", Rows.laid_signet_ed_curveD), ("signet/ed.minusOneRoot", Rows.laid_signet_ed_minusOneRoot), ("signet/ed.baseX", Rows.laid_signet_ed_baseX), ("signet/ed.baseY", Rows.laid_signet_ed_baseY), ("signet/rsa1.infos", Rows.laid_signet_rsa1_infos)]) W from h6)
  exact ⟨fun i hi => t6.cell (by kernel_rfl) i hi, fun i hi => t5.cell (by kernel_rfl) i hi⟩

set_option maxRecDepth 100000 in
theorem jwsFresh_contract (H : Type) (enc : TypeId × Value → H) (W : World) (base : Nat) (args : Array Value) (ds gs : List (DataW H)) (before : List MemPlace)
    (hval : ∀ (j : Nat) t v, Tryz.f8.params[j]? = some t → args[j]? = some v → Value.okWide Tryz.prog W .any base t v)
    (hW : DataW.Whole enc Tryz.prog Tryz.f8.params.toList Rows.jwsFreshSpec.vars false W args.toList ds gs before) (hL : laidMetH Tryz.prog Rows.jwsFreshRow.laid W) :
    Calls Tryz.prog 8 args W fun e W' => ∃ v, e = .returned v ∧ Rows.jwsFreshSpec.post enc Tryz.prog Tryz.f8 false true false false W args v W' := by
  have hW' := hW
  obtain ⟨p, q, hA0, hV, rfl, hfz, hnd⟩ := hW
  have hA : DataW.TrodAll enc Tryz.prog W 0 (fun _ => true) true Tryz.f8.params.toList args.toList ds p := hA0
  rw [Tryz.params8] at hA hval
  obtain ⟨v0, d0, rfl, rfl, h0⟩ := trodAll_one hA
  obtain ⟨rfl, rfl⟩ := trodVars_none hV
  obtain ⟨a0, rfl, rfl, rfl, w0⟩ := open_string Tryz.underlying9 (hval 0 9 v0 rfl rfl) h0
  clear hA0
  have hc := fresh_any a0.data.toList W (jwsFresh_tb hL)
  rw [← str_of a0] at hc
  refine hc.mono fun e W' ⟨he, bel⟩ => ?_
  subst he
  exact ⟨_, rfl, _, _, _, [], _, [], hW', trodAll_mk1 (shut_bool Tryz.underlying4 _), trodAll_mk1 (shut_string Tryz.underlying9 w0), rfl, bel.frame _, fun h => by cases h⟩

theorem jwsFresh_reads (os : Os) {H : Type} (enc : TypeId × Value → H) : ∃ places, DataW.whole enc Tryz.prog ((World.laidAll Tryz.prog os Rows.jwsFreshRow.laid).forCall (fun _ _ => 0) ⟨#[], #[.string .empty], []⟩).memory Tryz.f8.params.toList Rows.jwsFreshSpec.vars false (#[.string .empty] : Array Value).toList 8 = some ([.lit (.string [])], [], places) :=
  ⟨[], by kernel_rfl⟩

set_option maxRecDepth 100000 in
theorem jwsFresh_lifted (os : Os) (started : os.Started) (H : Type) (enc : TypeId × Value → H) (F : Stop.Interp) :
    ReturnsInHanded {} Tryz.checked os 8 .any ((OpenSpec.ofChange Rows.jwsFreshSpec).preRow enc Tryz.prog Tryz.f8 Rows.jwsFreshRow.domain false Rows.jwsFreshRow.laid) (((OpenSpec.ofChange Rows.jwsFreshSpec).at F).post enc Tryz.prog Tryz.f8 false true false false) := by
  obtain ⟨places, hx⟩ := jwsFresh_reads os enc
  refine returnsInHanded_of_row (C := Tryz.checked) (s := (OpenSpec.ofChange Rows.jwsFreshSpec)) ownK started (by kernel_rfl) Tryz.func8
    (witness_row_at (enc := enc) (C := Tryz.checked) false (World.laidAll Tryz.prog os Rows.jwsFreshRow.laid) #[.string .empty] (World.laidAll_os _ _ _) (by kernel_rfl) (by kernel_rfl) (by kernel_rfl)
      (OpenSpec.preRow_of_cond 8 hx (by kernel_rfl) (fun k hk => by first | (cases hk; done) | (cases hk; kernel_rfl)) (by kernel_rfl) (laidMet_laidAll _ (by kernel_rfl) (by kernel_rfl)))) ?_
  intro W base args ds gs before hval hW _ _ _ hL _ _
  exact jwsFresh_contract H enc W base args ds gs before hval hW hL

theorem jwsFresh_said : Rows.JwsFreshSaid :=
  OpenClaim.holds_of_cond 8 Tryz.f8 rfl rfl rfl rfl rfl rfl rfl ⟨rfl, rfl, rfl, rfl, rfl⟩ rfl rfl rfl rfl rfl (by kernel_rfl) Tryz.func8 jwsFresh_closed
    (of_decide_eq_true (by kernel_rfl)) (by unfold Func.isWrapper; first | (rw [if_pos (by decide +kernel)]; kernel_rfl) | (rw [if_neg (by decide +kernel)]; exact ⟨rfl, rfl⟩))
    (fun os started H enc _ F => by rw [OpenClaim.pre_eq_preRow]; exact jwsFresh_lifted os started H enc F)

theorem jwsFresh_plain (f : FuncId) (fn : Func) (hf : Tryz.pinned.checked.prog.funcNamed "signet/signetlaw18.JwsFresh" = some f) (hfn : Tryz.pinned.checked.prog.funcs[f]? = some fn) :
    true = Tryz.pinned.checked.prog.looks [] ∧ ∀ (j : Nat) t, fn.params[j]? = some t → Tryz.pinned.checked.prog.wantsStandIn t = false := by
  obtain rfl : f = 8 := Option.some.inj ((show Tryz.prog.funcNamed "signet/signetlaw18.JwsFresh" = some 8 by kernel_rfl).symm.trans hf) |>.symm
  obtain rfl : fn = Tryz.f8 := (Option.some.inj (Tryz.func8.symm.trans hfn)).symm
  refine ⟨by kernel_rfl, fun j t ht => ?_⟩
  rw [Tryz.params8] at ht
  obtain rfl : t = 9 := by simpa using Array.mem_of_getElem? ht
  exact (show Tryz.prog.wantsStandIn 9 = false by kernel_rfl)

theorem jwsFresh_card : Rows.JwsFreshCardSaid :=
  Claim7.holds_tied_plain_at .later [] _ _ _ _ jwsFresh_said (fun _ h => by cases h) (by kernel_rfl) (fun _ h => by cases h) jwsFresh_row_tie rfl ⟨rfl, rfl⟩ (by kernel_rfl) rfl jwsFresh_plain (by kernel_rfl)
#print axioms jwsFresh_card

end Go.Proofs.YtccfcplhifbjlaaGreatDoor
