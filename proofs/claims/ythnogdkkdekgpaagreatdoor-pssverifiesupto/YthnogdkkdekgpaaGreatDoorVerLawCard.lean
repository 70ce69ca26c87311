import Derived.Test.YthnogdkkdekgpaaGreatDoorVerLaw
import Derived.Test.YthnogdkkdekgpaaGreatDoorRsArgC
namespace Go.Proofs.YthnogdkkdekgpaaGreatDoor
open Go.ChangeShapes Go.WideShapes Go.ChangeAt Go.RowKit

set_option maxRecDepth 100000 in
theorem pssVerifies_laid {W : World} (h0 : laidMetH Tryz.prog Rows.pssVerifiesUptoRow.laid W) : Lib.TabIs Tryz.prog W "signet/sha.squareRoots" .u64 Sha.SQ ∧ Lib.TabIs Tryz.prog W "signet/sha.cubeRoots" .u64 Sha.KT ∧ Lib.TabIs Tryz.prog W "signet/signetref4.k256" .u32 Sha.K2 ∧ Lib.TabIs Tryz.prog W "signet/signetref4.k512" .u64 Sha.K5 ∧ Lib.TabIs Tryz.prog W "signet/signetref4.start256" .u32 Sha.S2 ∧ Lib.TabIs Tryz.prog W "signet/signetref4.start384" .u64 Sha.S3 ∧ Lib.TabIs Tryz.prog W "signet/signetref4.start512" .u64 Sha.S5 ∧ True := by
  have h := h0
  rw [MakeChecks.laidMetH_plain _ _ _ (by kernel_rfl)] at h
  have h0 : laidMet Tryz.prog (("signet/sha.squareRoots", Rows.laid_signet_sha_squareRoots) :: [("signet/sha.cubeRoots", Rows.laid_signet_sha_cubeRoots), ("signet/signetref4.k256", Rows.laid_signet_signetref4_k256), ("signet/signetref4.k512", Rows.laid_signet_signetref4_k512), ("signet/signetref4.start256", Rows.laid_signet_signetref4_start256), ("signet/signetref4.start384", Rows.laid_signet_signetref4_start384), ("signet/signetref4.start512", Rows.laid_signet_signetref4_start512)]) W := h
  have t0 : Lib.TabIs Tryz.prog W "signet/sha.squareRoots" .u64 Sha.SQ := Lib.tabIs_of_head (by kernel_rfl : Tryz.prog.globalNamed "signet/sha.squareRoots" = some 2) (by kernel_rfl) Tryz.underlying86 Tryz.underlying53 (by kernel_rfl) (by kernel_rfl) (show laidMet Tryz.prog (("signet/sha.squareRoots", Lib.tabData .u64 Sha.SQ) :: [("signet/sha.cubeRoots", Rows.laid_signet_sha_cubeRoots), ("signet/signetref4.k256", Rows.laid_signet_signetref4_k256), ("signet/signetref4.k512", Rows.laid_signet_signetref4_k512), ("signet/signetref4.start256", Rows.laid_signet_signetref4_start256), ("signet/signetref4.start384", Rows.laid_signet_signetref4_start384), ("signet/signetref4.start512", Rows.laid_signet_signetref4_start512)]) W from h0)
  have h1 : laidMet Tryz.prog (("signet/sha.cubeRoots", Rows.laid_signet_sha_cubeRoots) :: [("signet/signetref4.k256", Rows.laid_signet_signetref4_k256), ("signet/signetref4.k512", Rows.laid_signet_signetref4_k512), ("signet/signetref4.start256", Rows.laid_signet_signetref4_start256), ("signet/signetref4.start384", Rows.laid_signet_signetref4_start384), ("signet/signetref4.start512", Rows.laid_signet_signetref4_start512)]) W := laidMet.tail h0
  have t1 : Lib.TabIs Tryz.prog W "signet/sha.cubeRoots" .u64 Sha.KT := Lib.tabIs_of_head (by kernel_rfl : Tryz.prog.globalNamed "signet/sha.cubeRoots" = some 6) (by kernel_rfl) Tryz.underlying96 Tryz.underlying53 (by kernel_rfl) (by kernel_rfl) (show laidMet Tryz.prog (("signet/sha.cubeRoots", Lib.tabData .u64 Sha.KT) :: [("signet/signetref4.k256", Rows.laid_signet_signetref4_k256), ("signet/signetref4.k512", Rows.laid_signet_signetref4_k512), ("signet/signetref4.start256", Rows.laid_signet_signetref4_start256), ("signet/signetref4.start384", Rows.laid_signet_signetref4_start384), ("signet/signetref4.start512", Rows.laid_signet_signetref4_start512)]) W from h1)
  have h2 : laidMet Tryz.prog (("signet/signetref4.k256", Rows.laid_signet_signetref4_k256) :: [("signet/signetref4.k512", Rows.laid_signet_signetref4_k512), ("signet/signetref4.start256", Rows.laid_signet_signetref4_start256), ("signet/signetref4.start384", Rows.laid_signet_signetref4_start384), ("signet/signetref4.start512", Rows.laid_signet_signetref4_start512)]) W := laidMet.tail h1
  have t2 : Lib.TabIs Tryz.prog W "signet/signetref4.k256" .u32 Sha.K2 := Lib.tabIs_of_head (by kernel_rfl : Tryz.prog.globalNamed "signet/signetref4.k256" = some 4) (by kernel_rfl) Tryz.underlying94 Tryz.underlying46 (by kernel_rfl) (by kernel_rfl) (show laidMet Tryz.prog (("signet/signetref4.k256", Lib.tabData .u32 Sha.K2) :: [("signet/signetref4.k512", Rows.laid_signet_signetref4_k512), ("signet/signetref4.start256", Rows.laid_signet_signetref4_start256), ("signet/signetref4.start384", Rows.laid_signet_signetref4_start384), ("signet/signetref4.start512", Rows.laid_signet_signetref4_start512)]) W from h2)
  have h3 : laidMet Tryz.prog (("signet/signetref4.k512", Rows.laid_signet_signetref4_k512) :: [("signet/signetref4.start256", Rows.laid_signet_signetref4_start256), ("signet/signetref4.start384", Rows.laid_signet_signetref4_start384), ("signet/signetref4.start512", Rows.laid_signet_signetref4_start512)]) W := laidMet.tail h2
  have t3 : Lib.TabIs Tryz.prog W "signet/signetref4.k512" .u64 Sha.K5 := Lib.tabIs_of_head (by kernel_rfl : Tryz.prog.globalNamed "signet/signetref4.k512" = some 5) (by kernel_rfl) Tryz.underlying96 Tryz.underlying53 (by kernel_rfl) (by kernel_rfl) (show laidMet Tryz.prog (("signet/signetref4.k512", Lib.tabData .u64 Sha.K5) :: [("signet/signetref4.start256", Rows.laid_signet_signetref4_start256), ("signet/signetref4.start384", Rows.laid_signet_signetref4_start384), ("signet/signetref4.start512", Rows.laid_signet_signetref4_start512)]) W from h3)
  have h4 : laidMet Tryz.prog (("signet/signetref4.start256", Rows.laid_signet_signetref4_start256) :: [("signet/signetref4.start384", Rows.laid_signet_signetref4_start384), ("signet/signetref4.start512", Rows.laid_signet_signetref4_start512)]) W := laidMet.tail h3
  have t4 : Lib.TabIs Tryz.prog W "signet/signetref4.start256" .u32 Sha.S2 := Lib.tabIs_of_head (by kernel_rfl : Tryz.prog.globalNamed "signet/signetref4.start256" = some 3) (by kernel_rfl) Tryz.underlying92 Tryz.underlying46 (by kernel_rfl) (by kernel_rfl) (show laidMet Tryz.prog (("signet/signetref4.start256", Lib.tabData .u32 Sha.S2) :: [("signet/signetref4.start384", Rows.laid_signet_signetref4_start384), ("signet/signetref4.start512", Rows.laid_signet_signetref4_start512)]) W from h4)
  have h5 : laidMet Tryz.prog (("signet/signetref4.start384", Rows.laid_signet_signetref4_start384) :: [("signet/signetref4.start512", Rows.laid_signet_signetref4_start512)]) W := laidMet.tail h4
  have t5 : Lib.TabIs Tryz.prog W "signet/signetref4.start384" .u64 Sha.S3 := Lib.tabIs_of_head (by kernel_rfl : Tryz.prog.globalNamed "signet/signetref4.start384" = some 0) (by kernel_rfl) Tryz.underlying71 Tryz.underlying53 (by kernel_rfl) (by kernel_rfl) (show laidMet Tryz.prog (("signet/signetref4.start384", Lib.tabData .u64 Sha.S3) :: [("signet/signetref4.start512", Rows.laid_signet_signetref4_start512)]) W from h5)
  have h6 : laidMet Tryz.prog (("signet/signetref4.start512", Rows.laid_signet_signetref4_start512) :: []) W := laidMet.tail h5
  have t6 : Lib.TabIs Tryz.prog W "signet/signetref4.start512" .u64 Sha.S5 := Lib.tabIs_of_head (by kernel_rfl : Tryz.prog.globalNamed "signet/signetref4.start512" = some 1) (by kernel_rfl) Tryz.underlying71 Tryz.underlying53 (by kernel_rfl) (by kernel_rfl) (show laidMet Tryz.prog (("signet/signetref4.start512", Lib.tabData .u64 Sha.S5) :: []) W from h6)
  exact ⟨t0, t1, t2, t3, t4, t5, t6, trivial⟩

theorem pssVerifies_tb {W : World} (h : laidMetH Tryz.prog Rows.pssVerifiesUptoRow.laid W) : Sha.Tb W := by
  obtain ⟨t0, t1, t2, t3, t4, t5, t6, _⟩ := pssVerifies_laid h
  exact ⟨fun i hi => t1.cell (by kernel_rfl) i hi, fun i hi => t0.cell (by kernel_rfl) i hi⟩

theorem pssVerifies_rt {W : World} (h : laidMetH Tryz.prog Rows.pssVerifiesUptoRow.laid W) : Sha.Rt W := by
  obtain ⟨t0, t1, t2, t3, t4, t5, t6, _⟩ := pssVerifies_laid h
  exact ⟨fun i hi => t2.cell (by kernel_rfl) i hi, fun i hi => t3.cell (by kernel_rfl) i hi, fun i hi => t4.cell (by kernel_rfl) i hi, fun i hi => t5.cell (by kernel_rfl) i hi, fun i hi => t6.cell (by kernel_rfl) i hi⟩

set_option maxRecDepth 100000 in
theorem pssVerifies_contract (H : Type) (enc : TypeId × Value → H) (W : World) (base : Nat) (args : Array Value) (ds gs : List (DataW H)) (before : List MemPlace)
    (hval : ∀ (j : Nat) t v, Tryz.f3.params[j]? = some t → args[j]? = some v → Value.okWide Tryz.prog W .any base t v)
    (hW : DataW.Whole enc Tryz.prog Tryz.f3.params.toList Rows.pssVerifiesSpec.vars false W args.toList ds gs before) (hk : Rows.uptoSmall H (ds ++ gs) = true) (hL : laidMetH Tryz.prog Rows.pssVerifiesUptoRow.laid W) :
    Calls Tryz.prog 3 args W fun e W' => ∃ v, e = .returned v ∧ Rows.pssVerifiesSpec.post enc Tryz.prog Tryz.f3 false true false false W args v W' := by
  have hW' := hW
  obtain ⟨p, q, hA0, hV, rfl, hfz, hnd⟩ := hW
  have hA : DataW.TrodAll enc Tryz.prog W 0 (fun _ => true) true Tryz.f3.params.toList args.toList ds p := hA0
  rw [Tryz.params3] at hA hval
  obtain ⟨v0, v1, v2, v3, v4, d0, d1, d2, d3, d4, p0, p1, p2, p3, p4, rfl, rfl, rfl, h0, h1, h2, h3, h4⟩ := trodAll_five hA
  obtain ⟨rfl, rfl⟩ := trodVars_none hV
  have hbd : Rows.uptoBulkAll [d0, d1, d2, d3, d4] ≤ 1048576 := of_decide_eq_true hk
  simp only [Rows.uptoBulkAll] at hbd
  obtain ⟨a0, rfl, rfl, rfl, w0⟩ := open_int Tryz.underlying22 (hval 0 22 v0 rfl rfl) h0
  have b0 : -9223372036854775808 ≤ a0 ∧ a0 ≤ 9223372036854775807 := by
    have h := w0
    simp only [Lit.wf, Bool.and_eq_true, decide_eq_true_eq] at h
    rw [show IntKind.i64.min = -9223372036854775808 from by decide, show IntKind.i64.max = 9223372036854775807 from by decide] at h
    omega
  obtain ⟨a1, len1, cap1, hv1⟩ := okWide_slice Tryz.underlying23 (hval 1 23 v1 rfl rfl)
  have k1 := h1
  have lt1 : ∀ x ∈ p1, x.block < W.heap.size := by obtain ⟨m, hm⟩ := k1; exact DataW.trod_lt m _ _ _ hm
  obtain ⟨fuel1, hf1⟩ := h1
  obtain ⟨l1, hl1, hcp1, hbk1, hr1, hn1⟩ := open_bytes hv1 hf1
  obtain ⟨a2, len2, cap2, hv2⟩ := okWide_slice Tryz.underlying23 (hval 2 23 v2 rfl rfl)
  have k2 := h2
  have lt2 : ∀ x ∈ p2, x.block < W.heap.size := by obtain ⟨m, hm⟩ := k2; exact DataW.trod_lt m _ _ _ hm
  obtain ⟨fuel2, hf2⟩ := h2
  obtain ⟨l2, hl2, hcp2, hbk2, hr2, hn2⟩ := open_bytes hv2 hf2
  obtain ⟨a3, len3, cap3, hv3⟩ := okWide_slice Tryz.underlying23 (hval 3 23 v3 rfl rfl)
  have k3 := h3
  have lt3 : ∀ x ∈ p3, x.block < W.heap.size := by obtain ⟨m, hm⟩ := k3; exact DataW.trod_lt m _ _ _ hm
  obtain ⟨fuel3, hf3⟩ := h3
  obtain ⟨l3, hl3, hcp3, hbk3, hr3, hn3⟩ := open_bytes hv3 hf3
  obtain ⟨a4, len4, cap4, hv4⟩ := okWide_slice Tryz.underlying23 (hval 4 23 v4 rfl rfl)
  have k4 := h4
  have lt4 : ∀ x ∈ p4, x.block < W.heap.size := by obtain ⟨m, hm⟩ := k4; exact DataW.trod_lt m _ _ _ hm
  obtain ⟨fuel4, hf4⟩ := h4
  obtain ⟨l4, hl4, hcp4, hbk4, hr4, hn4⟩ := open_bytes hv4 hf4
  clear hA0
  have hc := pver_core a0 a1 a2 a3 a4 cap1 cap2 cap3 cap4 l1 l2 l3 l4 W (pssVerifies_tb hL) (pssVerifies_rt hL) hr1 hr2 hr3 hr4 hn3 (by omega) (by omega) (by omega) (by omega) (by omega)
  rw [hl1, ← hv1] at hc
  rw [hl2, ← hv2] at hc
  rw [hl3, ← hv3] at hc
  rw [hl4, ← hv4] at hc
  refine hc.mono fun e W' ⟨he, bel⟩ => ?_
  subst he
  exact ⟨_, rfl, _, _, _, [], _, [], hW', trodAll_mk1 (shut_bool Tryz.underlying4 _), trodAll_mk5 (shut_int Tryz.underlying22 w0) (Below.trod laidO (by kernel_rfl) (of_decide_eq_true (by kernel_rfl)) k1 bel lt1) (Below.trod laidO (by kernel_rfl) (of_decide_eq_true (by kernel_rfl)) k2 bel lt2) (Below.trod laidO (by kernel_rfl) (of_decide_eq_true (by kernel_rfl)) k3 bel lt3) (Below.trod laidO (by kernel_rfl) (of_decide_eq_true (by kernel_rfl)) k4 bel lt4), rfl, bel.frame _, fun h => by cases h⟩

theorem pssVerifies_reads (os : Os) {H : Type} (enc : TypeId × Value → H) : ∃ places, DataW.whole enc Tryz.prog ((World.laidAll Tryz.prog os Rows.pssVerifiesUptoRow.laid).forCall (fun _ _ => 0) ⟨#[], #[.int .i64 0, .slice none 0 0, .slice none 0 0, .slice none 0 0, .slice none 0 0], []⟩).memory Tryz.f3.params.toList Rows.pssVerifiesSpec.vars false (#[.int .i64 0, .slice none 0 0, .slice none 0 0, .slice none 0 0, .slice none 0 0] : Array Value).toList 8 = some ([.lit (.int .i64 0), .nil, .nil, .nil, .nil], [], places) :=
  ⟨[], by kernel_rfl⟩

set_option maxRecDepth 100000 in
theorem pssVerifies_lifted (os : Os) (started : os.Started) (H : Type) (enc : TypeId × Value → H) (F : Stop.Interp) :
    ReturnsInHanded {} Tryz.checked os 3 .any ((Rows.OpenSpec.upto Rows.pssVerifiesSpec).preRow enc Tryz.prog Tryz.f3 Rows.pssVerifiesUptoRow.domain false Rows.pssVerifiesUptoRow.laid) (((Rows.OpenSpec.upto Rows.pssVerifiesSpec).at F).post enc Tryz.prog Tryz.f3 false true false false) := by
  obtain ⟨places, hx⟩ := pssVerifies_reads os enc
  refine returnsInHanded_of_row (C := Tryz.checked) (s := (Rows.OpenSpec.upto Rows.pssVerifiesSpec)) ownK started (by kernel_rfl) Tryz.func3
    (witness_row_at (enc := enc) (C := Tryz.checked) false (World.laidAll Tryz.prog os Rows.pssVerifiesUptoRow.laid) #[.int .i64 0, .slice none 0 0, .slice none 0 0, .slice none 0 0, .slice none 0 0] (World.laidAll_os _ _ _) (by kernel_rfl) (by kernel_rfl) (by kernel_rfl)
      (OpenSpec.preRow_of_cond 8 hx (by kernel_rfl) (fun k hk => by first | (cases hk; done) | (cases hk; kernel_rfl)) (by kernel_rfl) (laidMet_laidAll _ (by kernel_rfl) (by kernel_rfl)))) ?_
  intro W base args ds gs before hval hW _ hcond _ hL _ _
  exact pssVerifies_contract H enc W base args ds gs before hval hW (hcond _ rfl) hL

theorem pssVerifies_said : Rows.PssVerifiesUptoSaid :=
  OpenClaim.holds_of_cond 3 Tryz.f3 rfl rfl rfl rfl rfl rfl rfl ⟨rfl, rfl, rfl, rfl, rfl⟩ rfl rfl rfl rfl rfl (by kernel_rfl) Tryz.func3 (by kernel_rfl)
    (of_decide_eq_true (by kernel_rfl)) (by unfold Func.isWrapper; first | (rw [if_pos (by decide +kernel)]; kernel_rfl) | (rw [if_neg (by decide +kernel)]; exact ⟨rfl, rfl⟩))
    (fun os started H enc _ F => by rw [OpenClaim.pre_eq_preRow]; exact pssVerifies_lifted os started H enc F)

theorem pssVerifies_plain (f : FuncId) (fn : Func) (hf : Tryz.pinned.checked.prog.funcNamed "signet/signetlaw10.PssVerifies" = some f) (hfn : Tryz.pinned.checked.prog.funcs[f]? = some fn) :
    false = Tryz.pinned.checked.prog.looks [] ∧ ∀ (j : Nat) t, fn.params[j]? = some t → Tryz.pinned.checked.prog.wantsStandIn t = false := by
  obtain rfl : f = 3 := Option.some.inj ((show Tryz.prog.funcNamed "signet/signetlaw10.PssVerifies" = some 3 by kernel_rfl).symm.trans hf) |>.symm
  obtain rfl : fn = Tryz.f3 := (Option.some.inj (Tryz.func3.symm.trans hfn)).symm
  refine ⟨by kernel_rfl, fun j t ht => ?_⟩
  rw [Tryz.params3] at ht
  have hm : t = 22 ∨ t = 23 := by simpa using Array.mem_of_getElem? ht
  rcases hm with rfl | rfl
  · exact (show Tryz.prog.wantsStandIn 22 = false by kernel_rfl)
  · exact (show Tryz.prog.wantsStandIn 23 = false by kernel_rfl)

theorem pssVerifies_card : Rows.PssVerifiesUptoCardSaid :=
  Claim7.holds_tied_plain_at .later [] _ _ _ _ pssVerifies_said (fun _ h => by cases h) (by kernel_rfl) (fun _ h => by cases h) pssVerifiesUpto_row_tie rfl ⟨rfl, rfl⟩ (by kernel_rfl) rfl pssVerifies_plain (by kernel_rfl)
#print axioms pssVerifies_card

end Go.Proofs.YthnogdkkdekgpaaGreatDoor
