import Derived.Test.YtpfdaclmchcbiaaDoorIb
import Derived.Test.YtpfdaclmchcbiaaDoorZArg
namespace Go.Proofs.YtpfdaclmchcbiaaDoor
open Go.ChangeShapes Go.WideShapes Go.ChangeAt Go.RowKit
open Go.ChangeMaps (open_string shut_string)

set_option maxRecDepth 100000 in
theorem idHalves_tb {W : World} (h : laidMetH Tryd.prog Rows.idHalvesUptoRow.laid W) : Sha.Tb W ∧ Sha.Rt W := by
  rw [MakeChecks.laidMetH_plain _ _ _ (by kernel_rfl)] at h
  have h0 : laidMet Tryd.prog (("signet/sha.squareRoots", Rows.laid_signet_sha_squareRoots) :: [("signet/sha.cubeRoots", Rows.laid_signet_sha_cubeRoots), ("signet/signetref4.k256", Rows.laid_signet_signetref4_k256), ("signet/signetref4.k512", Rows.laid_signet_signetref4_k512), ("signet/signetref4.start256", Rows.laid_signet_signetref4_start256), ("signet/signetref4.start384", Rows.laid_signet_signetref4_start384), ("signet/signetref4.start512", Rows.laid_signet_signetref4_start512)]) W := h
  have t0 : Lib.TabIs Tryd.prog W "signet/sha.squareRoots" .u64 Sha.SQ := Lib.tabIs_of_head (by kernel_rfl : Tryd.prog.globalNamed "signet/sha.squareRoots" = some 2) (by kernel_rfl) Tryd.underlying47 Tryd.underlying41 (by kernel_rfl) (by kernel_rfl) (show laidMet Tryd.prog (("signet/sha.squareRoots", Lib.tabData .u64 Sha.SQ) :: [("signet/sha.cubeRoots", Rows.laid_signet_sha_cubeRoots), ("signet/signetref4.k256", Rows.laid_signet_signetref4_k256), ("signet/signetref4.k512", Rows.laid_signet_signetref4_k512), ("signet/signetref4.start256", Rows.laid_signet_signetref4_start256), ("signet/signetref4.start384", Rows.laid_signet_signetref4_start384), ("signet/signetref4.start512", Rows.laid_signet_signetref4_start512)]) W from h0)
  have h1 : laidMet Tryd.prog (("signet/sha.cubeRoots", Rows.laid_signet_sha_cubeRoots) :: [("signet/signetref4.k256", Rows.laid_signet_signetref4_k256), ("signet/signetref4.k512", Rows.laid_signet_signetref4_k512), ("signet/signetref4.start256", Rows.laid_signet_signetref4_start256), ("signet/signetref4.start384", Rows.laid_signet_signetref4_start384), ("signet/signetref4.start512", Rows.laid_signet_signetref4_start512)]) W := laidMet.tail h0
  have t1 : Lib.TabIs Tryd.prog W "signet/sha.cubeRoots" .u64 Sha.KT := Lib.tabIs_of_head (by kernel_rfl : Tryd.prog.globalNamed "signet/sha.cubeRoots" = some 6) (by kernel_rfl) Tryd.underlying58 Tryd.underlying41 (by kernel_rfl) (by kernel_rfl) (show laidMet Tryd.prog (("signet/sha.cubeRoots", Lib.tabData .u64 Sha.KT) :: [("signet/signetref4.k256", Rows.laid_signet_signetref4_k256), ("signet/signetref4.k512", Rows.laid_signet_signetref4_k512), ("signet/signetref4.start256", Rows.laid_signet_signetref4_start256), ("signet/signetref4.start384", Rows.laid_signet_signetref4_start384), ("signet/signetref4.start512", Rows.laid_signet_signetref4_start512)]) W from h1)
  have h2 : laidMet Tryd.prog (("signet/signetref4.k256", Rows.laid_signet_signetref4_k256) :: [("signet/signetref4.k512", Rows.laid_signet_signetref4_k512), ("signet/signetref4.start256", Rows.laid_signet_signetref4_start256), ("signet/signetref4.start384", Rows.laid_signet_signetref4_start384), ("signet/signetref4.start512", Rows.laid_signet_signetref4_start512)]) W := laidMet.tail h1
  have t2 : Lib.TabIs Tryd.prog W "signet/signetref4.k256" .u32 Sha.K2 := Lib.tabIs_of_head (by kernel_rfl : Tryd.prog.globalNamed "signet/signetref4.k256" = some 4) (by kernel_rfl) Tryd.underlying56 Tryd.underlying53 (by kernel_rfl) (by kernel_rfl) (show laidMet Tryd.prog (("signet/signetref4.k256", Lib.tabData .u32 Sha.K2) :: [("signet/signetref4.k512", Rows.laid_signet_signetref4_k512), ("signet/signetref4.start256", Rows.laid_signet_signetref4_start256), ("signet/signetref4.start384", Rows.laid_signet_signetref4_start384), ("signet/signetref4.start512", Rows.laid_signet_signetref4_start512)]) W from h2)
  have h3 : laidMet Tryd.prog (("signet/signetref4.k512", Rows.laid_signet_signetref4_k512) :: [("signet/signetref4.start256", Rows.laid_signet_signetref4_start256), ("signet/signetref4.start384", Rows.laid_signet_signetref4_start384), ("signet/signetref4.start512", Rows.laid_signet_signetref4_start512)]) W := laidMet.tail h2
  have t3 : Lib.TabIs Tryd.prog W "signet/signetref4.k512" .u64 Sha.K5 := Lib.tabIs_of_head (by kernel_rfl : Tryd.prog.globalNamed "signet/signetref4.k512" = some 5) (by kernel_rfl) Tryd.underlying58 Tryd.underlying41 (by kernel_rfl) (by kernel_rfl) (show laidMet Tryd.prog (("signet/signetref4.k512", Lib.tabData .u64 Sha.K5) :: [("signet/signetref4.start256", Rows.laid_signet_signetref4_start256), ("signet/signetref4.start384", Rows.laid_signet_signetref4_start384), ("signet/signetref4.start512", Rows.laid_signet_signetref4_start512)]) W from h3)
  have h4 : laidMet Tryd.prog (("signet/signetref4.start256", Rows.laid_signet_signetref4_start256) :: [("signet/signetref4.start384", Rows.laid_signet_signetref4_start384), ("signet/signetref4.start512", Rows.laid_signet_signetref4_start512)]) W := laidMet.tail h3
  have t4 : Lib.TabIs Tryd.prog W "signet/signetref4.start256" .u32 Sha.S2 := Lib.tabIs_of_head (by kernel_rfl : Tryd.prog.globalNamed "signet/signetref4.start256" = some 3) (by kernel_rfl) Tryd.underlying54 Tryd.underlying53 (by kernel_rfl) (by kernel_rfl) (show laidMet Tryd.prog (("signet/signetref4.start256", Lib.tabData .u32 Sha.S2) :: [("signet/signetref4.start384", Rows.laid_signet_signetref4_start384), ("signet/signetref4.start512", Rows.laid_signet_signetref4_start512)]) W from h4)
  have h5 : laidMet Tryd.prog (("signet/signetref4.start384", Rows.laid_signet_signetref4_start384) :: [("signet/signetref4.start512", Rows.laid_signet_signetref4_start512)]) W := laidMet.tail h4
  have t5 : Lib.TabIs Tryd.prog W "signet/signetref4.start384" .u64 Sha.S3 := Lib.tabIs_of_head (by kernel_rfl : Tryd.prog.globalNamed "signet/signetref4.start384" = some 0) (by kernel_rfl) Tryd.underlying42 Tryd.underlying41 (by kernel_rfl) (by kernel_rfl) (show laidMet Tryd.prog (("signet/signetref4.start384", Lib.tabData .u64 Sha.S3) :: [("signet/signetref4.start512", Rows.laid_signet_signetref4_start512)]) W from h5)
  have h6 : laidMet Tryd.prog (("signet/signetref4.start512", Rows.laid_signet_signetref4_start512) :: []) W := laidMet.tail h5
  have t6 : Lib.TabIs Tryd.prog W "signet/signetref4.start512" .u64 Sha.S5 := Lib.tabIs_of_head (by kernel_rfl : Tryd.prog.globalNamed "signet/signetref4.start512" = some 1) (by kernel_rfl) Tryd.underlying42 Tryd.underlying41 (by kernel_rfl) (by kernel_rfl) (show laidMet Tryd.prog (("signet/signetref4.start512", Lib.tabData .u64 Sha.S5) :: []) W from h6)
  exact ⟨⟨fun i hi => t1.cell (by kernel_rfl) i hi, fun i hi => t0.cell (by kernel_rfl) i hi⟩, ⟨fun i hi => t2.cell (by kernel_rfl) i hi, fun i hi => t3.cell (by kernel_rfl) i hi, fun i hi => t4.cell (by kernel_rfl) i hi, fun i hi => t5.cell (by kernel_rfl) i hi, fun i hi => t6.cell (by kernel_rfl) i hi⟩⟩

set_option maxRecDepth 100000 in
theorem idHalves_contract (H : Type) (enc : TypeId × Value → H) (W : World) (base : Nat) (args : Array Value) (ds gs : List (DataW H)) (before : List MemPlace)
    (hval : ∀ (j : Nat) t v, Tryd.f3.params[j]? = some t → args[j]? = some v → Value.okWide Tryd.prog W .any base t v)
    (hW : DataW.Whole enc Tryd.prog Tryd.f3.params.toList Rows.idHalvesSpec.vars false W args.toList ds gs before) (hk : Rows.uptoSmall H (ds ++ gs) = true) (hL : laidMetH Tryd.prog Rows.idHalvesUptoRow.laid W) :
    Calls Tryd.prog 3 args W fun e W' => ∃ v, e = .returned v ∧ Rows.idHalvesSpec.post enc Tryd.prog Tryd.f3 false true false false W args v W' := by
  have hW' := hW
  obtain ⟨p, q, hA0, hV, rfl, hfz, hnd⟩ := hW
  have hA : DataW.TrodAll enc Tryd.prog W 0 (fun _ => true) true Tryd.f3.params.toList args.toList ds p := hA0
  rw [Tryd.params3] at hA hval
  obtain ⟨v0, v1, d0, d1, p0, p1, rfl, rfl, rfl, h0, h1⟩ := trodAll_two hA
  obtain ⟨rfl, rfl⟩ := trodVars_none hV
  have hbd : Rows.uptoBulkAll [d0, d1] ≤ 1048576 := of_decide_eq_true hk
  simp only [Rows.uptoBulkAll] at hbd
  obtain ⟨a0, rfl, rfl, rfl, w0⟩ := open_int Tryd.underlying22 (hval 0 22 v0 rfl rfl) h0
  have b0 : -9223372036854775808 ≤ a0 ∧ a0 ≤ 9223372036854775807 := by
    have h := w0
    simp only [Lit.wf, Bool.and_eq_true, decide_eq_true_eq] at h
    rw [show IntKind.i64.min = -9223372036854775808 from by decide, show IntKind.i64.max = 9223372036854775807 from by decide] at h
    omega
  obtain ⟨a1, rfl, rfl, rfl, w1⟩ := open_string Tryd.underlying9 (hval 1 9 v1 rfl rfl) h1
  clear hA0
  have hc := (show Calls Tryd.prog 3 #[.int .i64 a0, .string ⟨a1.data.toList.toArray⟩] W (fun e w' => e = .returned (.bool true) ∧ Below W.heap.size W w') from by have e1 : a1.data.toList.length = a1.size := (by simp); exact idHalves_any a0 a1.data.toList W (idHalves_tb hL) (by simp only [Rows.uptoBulk] at hbd; omega))
  rw [← str_of a1] at hc
  refine hc.mono fun e W' ⟨he, bel⟩ => ?_
  subst he
  exact ⟨_, rfl, _, _, _, [], _, [], hW', trodAll_mk1 (shut_bool Tryd.underlying4 _), trodAll_mk2 (shut_int Tryd.underlying22 w0) (shut_string Tryd.underlying9 w1), rfl, bel.frame _, fun h => by cases h⟩

theorem idHalves_reads (os : Os) {H : Type} (enc : TypeId × Value → H) : ∃ places, DataW.whole enc Tryd.prog ((World.laidAll Tryd.prog os Rows.idHalvesUptoRow.laid).forCall (fun _ _ => 0) ⟨#[], #[.int .i64 0, .string .empty], []⟩).memory Tryd.f3.params.toList Rows.idHalvesSpec.vars false (#[.int .i64 0, .string .empty] : Array Value).toList 8 = some ([.lit (.int .i64 0), .lit (.string [])], [], places) :=
  ⟨[], by kernel_rfl⟩

set_option maxRecDepth 100000 in
theorem idHalves_lifted (os : Os) (started : os.Started) (H : Type) (enc : TypeId × Value → H) (F : Stop.Interp) :
    ReturnsInHanded {} Tryd.checked os 3 .any ((Rows.OpenSpec.upto Rows.idHalvesSpec).preRow enc Tryd.prog Tryd.f3 Rows.idHalvesUptoRow.domain false Rows.idHalvesUptoRow.laid) (((Rows.OpenSpec.upto Rows.idHalvesSpec).at F).post enc Tryd.prog Tryd.f3 false true false false) := by
  obtain ⟨places, hx⟩ := idHalves_reads os enc
  refine returnsInHanded_of_row (C := Tryd.checked) (s := (Rows.OpenSpec.upto Rows.idHalvesSpec)) ownK started (by kernel_rfl) Tryd.func3
    (witness_row_at (enc := enc) (C := Tryd.checked) false (World.laidAll Tryd.prog os Rows.idHalvesUptoRow.laid) #[.int .i64 0, .string .empty] (World.laidAll_os _ _ _) (by kernel_rfl) (by kernel_rfl) (by kernel_rfl)
      (OpenSpec.preRow_of_cond 8 hx (by kernel_rfl) (fun k hk => by first | (cases hk; done) | (cases hk; kernel_rfl)) (by kernel_rfl) (laidMet_laidAll _ (by kernel_rfl) (by kernel_rfl)))) ?_
  intro W base args ds gs before hval hW _ hcond _ hL _ _
  exact idHalves_contract H enc W base args ds gs before hval hW (hcond _ rfl) hL

theorem idHalves_said : Rows.IdHalvesUptoSaid :=
  OpenClaim.holds_of_cond 3 Tryd.f3 rfl rfl rfl rfl rfl rfl rfl ⟨rfl, rfl, rfl, rfl, rfl⟩ rfl rfl rfl rfl rfl (by kernel_rfl) Tryd.func3 (by kernel_rfl)
    (of_decide_eq_true (by kernel_rfl)) (by unfold Func.isWrapper; first | (rw [if_pos (by decide +kernel)]; kernel_rfl) | (rw [if_neg (by decide +kernel)]; exact ⟨rfl, rfl⟩))
    (fun os started H enc _ F => by rw [OpenClaim.pre_eq_preRow]; exact idHalves_lifted os started H enc F)

theorem idHalves_plain (f : FuncId) (fn : Func) (hf : Tryd.pinned.checked.prog.funcNamed "signet/signetlaw22.IdHalves" = some f) (hfn : Tryd.pinned.checked.prog.funcs[f]? = some fn) :
    false = Tryd.pinned.checked.prog.looks [] ∧ ∀ (j : Nat) t, fn.params[j]? = some t → Tryd.pinned.checked.prog.wantsStandIn t = false := by
  obtain rfl : f = 3 := Option.some.inj ((show Tryd.prog.funcNamed "signet/signetlaw22.IdHalves" = some 3 by kernel_rfl).symm.trans hf) |>.symm
  obtain rfl : fn = Tryd.f3 := (Option.some.inj (Tryd.func3.symm.trans hfn)).symm
  refine ⟨by kernel_rfl, fun j t ht => ?_⟩
  rw [Tryd.params3] at ht
  have hm : t = 22 ∨ t = 9 := by simpa using Array.mem_of_getElem? ht
  rcases hm with rfl | rfl
  · exact (show Tryd.prog.wantsStandIn 22 = false by kernel_rfl)
  · exact (show Tryd.prog.wantsStandIn 9 = false by kernel_rfl)

theorem idHalves_card : Rows.IdHalvesUptoCardSaid :=
  Claim7.holds_tied_plain_at .later [] _ _ _ _ idHalves_said (fun _ h => by cases h) (by kernel_rfl) (fun _ h => by cases h) idHalvesUpto_row_tie rfl ⟨rfl, rfl⟩ (by kernel_rfl) rfl idHalves_plain (by kernel_rfl)
#print axioms idHalves_card

end Go.Proofs.YtpfdaclmchcbiaaDoor
