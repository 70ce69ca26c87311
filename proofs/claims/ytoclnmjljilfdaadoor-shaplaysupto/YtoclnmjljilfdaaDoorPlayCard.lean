import Derived.Test.YtoclnmjljilfdaaDoorArgO
import Derived.Test.YtoclnmjljilfdaaDoorArgO
namespace Go.Proofs.YtoclnmjljilfdaaDoor
open Go.ChangeShapes Go.WideShapes Go.ChangeAt Go.RowKit

set_option maxRecDepth 100000 in
theorem shaPlays_laid {W : World} (h0 : laidMetH Tryd.prog Rows.shaPlaysUptoRow.laid W) : Lib.TabIs Tryd.prog W "signet/sha.squareRoots" .u64 SQ ∧ Lib.TabIs Tryd.prog W "signet/sha.cubeRoots" .u64 KT ∧ Lib.TabIs Tryd.prog W "signet/signetref4.k256" .u32 K2 ∧ Lib.TabIs Tryd.prog W "signet/signetref4.k512" .u64 K5 ∧ Lib.TabIs Tryd.prog W "signet/signetref4.start256" .u32 S2 ∧ Lib.TabIs Tryd.prog W "signet/signetref4.start384" .u64 S3 ∧ Lib.TabIs Tryd.prog W "signet/signetref4.start512" .u64 S5 ∧ True := by
  have h := h0
  rw [MakeChecks.laidMetH_plain _ _ _ (by kernel_rfl)] at h
  have h0 : laidMet Tryd.prog (("signet/sha.squareRoots", Rows.laid_signet_sha_squareRoots) :: [("signet/sha.cubeRoots", Rows.laid_signet_sha_cubeRoots), ("signet/signetref4.k256", Rows.laid_signet_signetref4_k256), ("signet/signetref4.k512", Rows.laid_signet_signetref4_k512), ("signet/signetref4.start256", Rows.laid_signet_signetref4_start256), ("signet/signetref4.start384", Rows.laid_signet_signetref4_start384), ("signet/signetref4.start512", Rows.laid_signet_signetref4_start512)]) W := h
  have t0 : Lib.TabIs Tryd.prog W "signet/sha.squareRoots" .u64 SQ := Lib.tabIs_of_head (by kernel_rfl : Tryd.prog.globalNamed "signet/sha.squareRoots" = some 0) (by kernel_rfl) Tryd.underlying60 Tryd.underlying55 (by kernel_rfl) (by kernel_rfl) (show laidMet Tryd.prog (("signet/sha.squareRoots", Lib.tabData .u64 SQ) :: [("signet/sha.cubeRoots", Rows.laid_signet_sha_cubeRoots), ("signet/signetref4.k256", Rows.laid_signet_signetref4_k256), ("signet/signetref4.k512", Rows.laid_signet_signetref4_k512), ("signet/signetref4.start256", Rows.laid_signet_signetref4_start256), ("signet/signetref4.start384", Rows.laid_signet_signetref4_start384), ("signet/signetref4.start512", Rows.laid_signet_signetref4_start512)]) W from h0)
  have h1 : laidMet Tryd.prog (("signet/sha.cubeRoots", Rows.laid_signet_sha_cubeRoots) :: [("signet/signetref4.k256", Rows.laid_signet_signetref4_k256), ("signet/signetref4.k512", Rows.laid_signet_signetref4_k512), ("signet/signetref4.start256", Rows.laid_signet_signetref4_start256), ("signet/signetref4.start384", Rows.laid_signet_signetref4_start384), ("signet/signetref4.start512", Rows.laid_signet_signetref4_start512)]) W := laidMet.tail h0
  have t1 : Lib.TabIs Tryd.prog W "signet/sha.cubeRoots" .u64 KT := Lib.tabIs_of_head (by kernel_rfl : Tryd.prog.globalNamed "signet/sha.cubeRoots" = some 6) (by kernel_rfl) Tryd.underlying73 Tryd.underlying55 (by kernel_rfl) (by kernel_rfl) (show laidMet Tryd.prog (("signet/sha.cubeRoots", Lib.tabData .u64 KT) :: [("signet/signetref4.k256", Rows.laid_signet_signetref4_k256), ("signet/signetref4.k512", Rows.laid_signet_signetref4_k512), ("signet/signetref4.start256", Rows.laid_signet_signetref4_start256), ("signet/signetref4.start384", Rows.laid_signet_signetref4_start384), ("signet/signetref4.start512", Rows.laid_signet_signetref4_start512)]) W from h1)
  have h2 : laidMet Tryd.prog (("signet/signetref4.k256", Rows.laid_signet_signetref4_k256) :: [("signet/signetref4.k512", Rows.laid_signet_signetref4_k512), ("signet/signetref4.start256", Rows.laid_signet_signetref4_start256), ("signet/signetref4.start384", Rows.laid_signet_signetref4_start384), ("signet/signetref4.start512", Rows.laid_signet_signetref4_start512)]) W := laidMet.tail h1
  have t2 : Lib.TabIs Tryd.prog W "signet/signetref4.k256" .u32 K2 := Lib.tabIs_of_head (by kernel_rfl : Tryd.prog.globalNamed "signet/signetref4.k256" = some 4) (by kernel_rfl) Tryd.underlying71 Tryd.underlying68 (by kernel_rfl) (by kernel_rfl) (show laidMet Tryd.prog (("signet/signetref4.k256", Lib.tabData .u32 K2) :: [("signet/signetref4.k512", Rows.laid_signet_signetref4_k512), ("signet/signetref4.start256", Rows.laid_signet_signetref4_start256), ("signet/signetref4.start384", Rows.laid_signet_signetref4_start384), ("signet/signetref4.start512", Rows.laid_signet_signetref4_start512)]) W from h2)
  have h3 : laidMet Tryd.prog (("signet/signetref4.k512", Rows.laid_signet_signetref4_k512) :: [("signet/signetref4.start256", Rows.laid_signet_signetref4_start256), ("signet/signetref4.start384", Rows.laid_signet_signetref4_start384), ("signet/signetref4.start512", Rows.laid_signet_signetref4_start512)]) W := laidMet.tail h2
  have t3 : Lib.TabIs Tryd.prog W "signet/signetref4.k512" .u64 K5 := Lib.tabIs_of_head (by kernel_rfl : Tryd.prog.globalNamed "signet/signetref4.k512" = some 5) (by kernel_rfl) Tryd.underlying73 Tryd.underlying55 (by kernel_rfl) (by kernel_rfl) (show laidMet Tryd.prog (("signet/signetref4.k512", Lib.tabData .u64 K5) :: [("signet/signetref4.start256", Rows.laid_signet_signetref4_start256), ("signet/signetref4.start384", Rows.laid_signet_signetref4_start384), ("signet/signetref4.start512", Rows.laid_signet_signetref4_start512)]) W from h3)
  have h4 : laidMet Tryd.prog (("signet/signetref4.start256", Rows.laid_signet_signetref4_start256) :: [("signet/signetref4.start384", Rows.laid_signet_signetref4_start384), ("signet/signetref4.start512", Rows.laid_signet_signetref4_start512)]) W := laidMet.tail h3
  have t4 : Lib.TabIs Tryd.prog W "signet/signetref4.start256" .u32 S2 := Lib.tabIs_of_head (by kernel_rfl : Tryd.prog.globalNamed "signet/signetref4.start256" = some 3) (by kernel_rfl) Tryd.underlying69 Tryd.underlying68 (by kernel_rfl) (by kernel_rfl) (show laidMet Tryd.prog (("signet/signetref4.start256", Lib.tabData .u32 S2) :: [("signet/signetref4.start384", Rows.laid_signet_signetref4_start384), ("signet/signetref4.start512", Rows.laid_signet_signetref4_start512)]) W from h4)
  have h5 : laidMet Tryd.prog (("signet/signetref4.start384", Rows.laid_signet_signetref4_start384) :: [("signet/signetref4.start512", Rows.laid_signet_signetref4_start512)]) W := laidMet.tail h4
  have t5 : Lib.TabIs Tryd.prog W "signet/signetref4.start384" .u64 S3 := Lib.tabIs_of_head (by kernel_rfl : Tryd.prog.globalNamed "signet/signetref4.start384" = some 1) (by kernel_rfl) Tryd.underlying56 Tryd.underlying55 (by kernel_rfl) (by kernel_rfl) (show laidMet Tryd.prog (("signet/signetref4.start384", Lib.tabData .u64 S3) :: [("signet/signetref4.start512", Rows.laid_signet_signetref4_start512)]) W from h5)
  have h6 : laidMet Tryd.prog (("signet/signetref4.start512", Rows.laid_signet_signetref4_start512) :: []) W := laidMet.tail h5
  have t6 : Lib.TabIs Tryd.prog W "signet/signetref4.start512" .u64 S5 := Lib.tabIs_of_head (by kernel_rfl : Tryd.prog.globalNamed "signet/signetref4.start512" = some 2) (by kernel_rfl) Tryd.underlying56 Tryd.underlying55 (by kernel_rfl) (by kernel_rfl) (show laidMet Tryd.prog (("signet/signetref4.start512", Lib.tabData .u64 S5) :: []) W from h6)
  exact ⟨t0, t1, t2, t3, t4, t5, t6, trivial⟩

theorem shaPlays_tb {W : World} (h : laidMetH Tryd.prog Rows.shaPlaysUptoRow.laid W) : Tb W := by
  obtain ⟨t0, t1, t2, t3, t4, t5, t6, _⟩ := shaPlays_laid h
  exact ⟨fun i hi => t1.cell (by kernel_rfl) i hi, fun i hi => t0.cell (by kernel_rfl) i hi⟩

theorem shaPlays_rt {W : World} (h : laidMetH Tryd.prog Rows.shaPlaysUptoRow.laid W) : Rt W := by
  obtain ⟨t0, t1, t2, t3, t4, t5, t6, _⟩ := shaPlays_laid h
  exact ⟨fun i hi => t2.cell (by kernel_rfl) i hi, fun i hi => t3.cell (by kernel_rfl) i hi, fun i hi => t4.cell (by kernel_rfl) i hi, fun i hi => t5.cell (by kernel_rfl) i hi, fun i hi => t6.cell (by kernel_rfl) i hi⟩

set_option maxRecDepth 100000 in
theorem shaPlays_contract (H : Type) (enc : TypeId × Value → H) (W : World) (base : Nat) (args : Array Value) (ds gs : List (DataW H)) (before : List MemPlace)
    (hval : ∀ (j : Nat) t v, Tryd.f6.params[j]? = some t → args[j]? = some v → Value.okWide Tryd.prog W .any base t v)
    (hW : DataW.Whole enc Tryd.prog Tryd.f6.params.toList Rows.shaPlaysSpec.vars false W args.toList ds gs before) (hk : Rows.uptoSmall H (ds ++ gs) = true) (hL : laidMetH Tryd.prog Rows.shaPlaysUptoRow.laid W) :
    Calls Tryd.prog 6 args W fun e W' => ∃ v, e = .returned v ∧ Rows.shaPlaysSpec.post enc Tryd.prog Tryd.f6 false true false false W args v W' := by
  have hW' := hW
  obtain ⟨p, q, hA0, hV, rfl, hfz, hnd⟩ := hW
  have hA : DataW.TrodAll enc Tryd.prog W 0 (fun _ => true) true Tryd.f6.params.toList args.toList ds p := hA0
  rw [Tryd.params6] at hA hval
  obtain ⟨v0, v1, d0, d1, p0, p1, rfl, rfl, rfl, h0, h1⟩ := trodAll_two hA
  obtain ⟨rfl, rfl⟩ := trodVars_none hV
  have hbd : Rows.uptoBulkAll [d0, d1] ≤ 1048576 := of_decide_eq_true hk
  simp only [Rows.uptoBulkAll] at hbd
  obtain ⟨a0, rfl, rfl, rfl, w0⟩ := open_int Tryd.underlying22 (hval 0 22 v0 rfl rfl) h0
  have b0 : -9223372036854775808 ≤ a0 ∧ a0 ≤ 9223372036854775807 := by
    have h := w0
    simp only [Lit.wf, Bool.and_eq_true, decide_eq_true_eq] at h
    rw [show IntKind.i64.min = -9223372036854775808 from by decide, show IntKind.i64.max = 9223372036854775807 from by decide] at h
    omega
  obtain ⟨a1, len1, cap1, hv1⟩ := okWide_slice Tryd.underlying42 (hval 1 42 v1 rfl rfl)
  have k1 := h1
  have lt1 : ∀ x ∈ p1, x.block < W.heap.size := by obtain ⟨m, hm⟩ := k1; exact DataW.trod_lt m _ _ _ hm
  obtain ⟨fuel1, hf1⟩ := h1
  obtain ⟨l1, hl1, hcp1, hbk1, hr1⟩ := open_ops hv1 hf1
  clear hA0
  have hc := plays_any a0 a1 cap1 l1 W (shaPlays_tb hL) (shaPlays_rt hL) hr1.1 (by omega) (by omega)
  rw [hl1, ← hv1] at hc
  refine hc.mono fun e W' ⟨he, bel⟩ => ?_
  subst he
  exact ⟨_, rfl, _, _, _, [], _, [], hW', trodAll_mk1 (shut_bool Tryd.underlying4 _), trodAll_mk2 (shut_int Tryd.underlying22 w0) (Below.trod laidO (by kernel_rfl) (of_decide_eq_true (by kernel_rfl)) k1 bel lt1), rfl, bel.frame _, fun h => by cases h⟩

theorem shaPlays_reads (os : Os) {H : Type} (enc : TypeId × Value → H) : ∃ places, DataW.whole enc Tryd.prog ((World.laidAll Tryd.prog os Rows.shaPlaysUptoRow.laid).forCall (fun _ _ => 0) ⟨#[], #[.int .i64 0, .slice none 0 0], []⟩).memory Tryd.f6.params.toList Rows.shaPlaysSpec.vars false (#[.int .i64 0, .slice none 0 0] : Array Value).toList 8 = some ([.lit (.int .i64 0), .nil], [], places) :=
  ⟨[], by kernel_rfl⟩

set_option maxRecDepth 100000 in
theorem shaPlays_lifted (os : Os) (started : os.Started) (H : Type) (enc : TypeId × Value → H) (F : Stop.Interp) :
    ReturnsInHanded {} Tryd.checked os 6 .any ((Rows.OpenSpec.upto Rows.shaPlaysSpec).preRow enc Tryd.prog Tryd.f6 Rows.shaPlaysUptoRow.domain false Rows.shaPlaysUptoRow.laid) (((Rows.OpenSpec.upto Rows.shaPlaysSpec).at F).post enc Tryd.prog Tryd.f6 false true false false) := by
  obtain ⟨places, hx⟩ := shaPlays_reads os enc
  refine returnsInHanded_of_row (C := Tryd.checked) (s := (Rows.OpenSpec.upto Rows.shaPlaysSpec)) ownK started (by kernel_rfl) Tryd.func6
    (witness_row_at (enc := enc) (C := Tryd.checked) false (World.laidAll Tryd.prog os Rows.shaPlaysUptoRow.laid) #[.int .i64 0, .slice none 0 0] (World.laidAll_os _ _ _) (by kernel_rfl) (by kernel_rfl) (by kernel_rfl)
      (OpenSpec.preRow_of_cond 8 hx (by kernel_rfl) (fun k hk => by first | (cases hk; done) | (cases hk; kernel_rfl)) (by kernel_rfl) (laidMet_laidAll _ (by kernel_rfl) (by kernel_rfl)))) ?_
  intro W base args ds gs before hval hW _ hcond _ hL _ _
  exact shaPlays_contract H enc W base args ds gs before hval hW (hcond _ rfl) hL

theorem shaPlays_said : Rows.ShaPlaysUptoSaid :=
  OpenClaim.holds_of_cond 6 Tryd.f6 rfl rfl rfl rfl rfl rfl rfl ⟨rfl, rfl, rfl, rfl, rfl⟩ rfl rfl rfl rfl rfl (by kernel_rfl) Tryd.func6 (by kernel_rfl)
    (of_decide_eq_true (by kernel_rfl)) (by unfold Func.isWrapper; first | (rw [if_pos (by decide +kernel)]; kernel_rfl) | (rw [if_neg (by decide +kernel)]; exact ⟨rfl, rfl⟩))
    (fun os started H enc _ F => by rw [OpenClaim.pre_eq_preRow]; exact shaPlays_lifted os started H enc F)

theorem shaPlays_plain (f : FuncId) (fn : Func) (hf : Tryd.pinned.checked.prog.funcNamed "signet/signetlaw4.ShaPlays" = some f) (hfn : Tryd.pinned.checked.prog.funcs[f]? = some fn) :
    false = Tryd.pinned.checked.prog.looks [] ∧ ∀ (j : Nat) t, fn.params[j]? = some t → Tryd.pinned.checked.prog.wantsStandIn t = false := by
  obtain rfl : f = 6 := Option.some.inj ((show Tryd.prog.funcNamed "signet/signetlaw4.ShaPlays" = some 6 by kernel_rfl).symm.trans hf) |>.symm
  obtain rfl : fn = Tryd.f6 := (Option.some.inj (Tryd.func6.symm.trans hfn)).symm
  refine ⟨by kernel_rfl, fun j t ht => ?_⟩
  rw [Tryd.params6] at ht
  have hm : t = 22 ∨ t = 42 := by simpa using Array.mem_of_getElem? ht
  rcases hm with rfl | rfl
  · exact (show Tryd.prog.wantsStandIn 22 = false by kernel_rfl)
  · exact (show Tryd.prog.wantsStandIn 42 = false by kernel_rfl)

theorem shaPlays_card : Rows.ShaPlaysUptoCardSaid :=
  Claim7.holds_tied_plain_at .later [] _ _ _ _ shaPlays_said (fun _ h => by cases h) (by kernel_rfl) (fun _ h => by cases h) shaPlaysUpto_row_tie rfl ⟨rfl, rfl⟩ (by kernel_rfl) rfl shaPlays_plain (by kernel_rfl)
#print axioms shaPlays_card

end Go.Proofs.YtoclnmjljilfdaaDoor
