import Derived.Test.YtjpjepfmphlneaaGreatDoorE6
import Derived.Test.YtjpjepfmphlneaaGreatDoorCuCArg
namespace Go.Proofs.YtjpjepfmphlneaaGreatDoor
open Go.ChangeShapes Go.WideShapes Go.ChangeAt Go.RowKit

set_option maxRecDepth 100000 in
theorem edBack_tb {W : World} (h : laidMetH Tryz.prog Rows.edBackUptoRow.laid W) : Te W ∧ Sha.Tb W := by
  rw [MakeChecks.laidMetH_plain _ _ _ (by kernel_rfl)] at h
  have h0 : laidMet Tryz.prog (("signet/sha.squareRoots", Rows.laid_signet_sha_squareRoots) :: [("signet/sha.cubeRoots", Rows.laid_signet_sha_cubeRoots), ("signet/ed.prime", Rows.laid_signet_ed_prime), ("signet/ed.order", Rows.laid_signet_ed_order), ("signet/ed.curveD", Rows.laid_signet_ed_curveD), ("signet/ed.minusOneRoot", Rows.laid_signet_ed_minusOneRoot), ("signet/ed.baseX", Rows.laid_signet_ed_baseX), ("signet/ed.baseY", Rows.laid_signet_ed_baseY)]) W := h
  have t0 : Lib.TabIs Tryz.prog W "signet/sha.squareRoots" .u64 Sha.SQ := Lib.tabIs_of_head (by kernel_rfl : Tryz.prog.globalNamed "signet/sha.squareRoots" = some 7) (by kernel_rfl) Tryz.underlying120 Tryz.underlying104 (by kernel_rfl) (by kernel_rfl) (show laidMet Tryz.prog (("signet/sha.squareRoots", Lib.tabData .u64 Sha.SQ) :: [("signet/sha.cubeRoots", Rows.laid_signet_sha_cubeRoots), ("signet/ed.prime", Rows.laid_signet_ed_prime), ("signet/ed.order", Rows.laid_signet_ed_order), ("signet/ed.curveD", Rows.laid_signet_ed_curveD), ("signet/ed.minusOneRoot", Rows.laid_signet_ed_minusOneRoot), ("signet/ed.baseX", Rows.laid_signet_ed_baseX), ("signet/ed.baseY", Rows.laid_signet_ed_baseY)]) W from h0)
  have h1 : laidMet Tryz.prog (("signet/sha.cubeRoots", Rows.laid_signet_sha_cubeRoots) :: [("signet/ed.prime", Rows.laid_signet_ed_prime), ("signet/ed.order", Rows.laid_signet_ed_order), ("signet/ed.curveD", Rows.laid_signet_ed_curveD), ("signet/ed.minusOneRoot", Rows.laid_signet_ed_minusOneRoot), ("signet/ed.baseX", Rows.laid_signet_ed_baseX), ("signet/ed.baseY", Rows.laid_signet_ed_baseY)]) W := laidMet.tail h0
  have t1 : Lib.TabIs Tryz.prog W "signet/sha.cubeRoots" .u64 Sha.KT := Lib.tabIs_of_head (by kernel_rfl : Tryz.prog.globalNamed "signet/sha.cubeRoots" = some 12) (by kernel_rfl) Tryz.underlying130 Tryz.underlying104 (by kernel_rfl) (by kernel_rfl) (show laidMet Tryz.prog (("signet/sha.cubeRoots", Lib.tabData .u64 Sha.KT) :: [("signet/ed.prime", Rows.laid_signet_ed_prime), ("signet/ed.order", Rows.laid_signet_ed_order), ("signet/ed.curveD", Rows.laid_signet_ed_curveD), ("signet/ed.minusOneRoot", Rows.laid_signet_ed_minusOneRoot), ("signet/ed.baseX", Rows.laid_signet_ed_baseX), ("signet/ed.baseY", Rows.laid_signet_ed_baseY)]) W from h1)
  have h2 : laidMet Tryz.prog (("signet/ed.prime", Rows.laid_signet_ed_prime) :: [("signet/ed.order", Rows.laid_signet_ed_order), ("signet/ed.curveD", Rows.laid_signet_ed_curveD), ("signet/ed.minusOneRoot", Rows.laid_signet_ed_minusOneRoot), ("signet/ed.baseX", Rows.laid_signet_ed_baseX), ("signet/ed.baseY", Rows.laid_signet_ed_baseY)]) W := laidMet.tail h1
  have t2 : Lib.TabIs Tryz.prog W "signet/ed.prime" .u32 (lP.map Int.ofNat) := Lib.tabIs_of_head (by kernel_rfl : Tryz.prog.globalNamed "signet/ed.prime" = some 4) (by kernel_rfl) Tryz.underlying75 Tryz.underlying43 (by kernel_rfl) (by kernel_rfl) (show laidMet Tryz.prog (("signet/ed.prime", Lib.tabData .u32 (lP.map Int.ofNat)) :: [("signet/ed.order", Rows.laid_signet_ed_order), ("signet/ed.curveD", Rows.laid_signet_ed_curveD), ("signet/ed.minusOneRoot", Rows.laid_signet_ed_minusOneRoot), ("signet/ed.baseX", Rows.laid_signet_ed_baseX), ("signet/ed.baseY", Rows.laid_signet_ed_baseY)]) W from h2)
  have h3 : laidMet Tryz.prog (("signet/ed.order", Rows.laid_signet_ed_order) :: [("signet/ed.curveD", Rows.laid_signet_ed_curveD), ("signet/ed.minusOneRoot", Rows.laid_signet_ed_minusOneRoot), ("signet/ed.baseX", Rows.laid_signet_ed_baseX), ("signet/ed.baseY", Rows.laid_signet_ed_baseY)]) W := laidMet.tail h2
  have t3 : Lib.TabIs Tryz.prog W "signet/ed.order" .u32 (lL.map Int.ofNat) := Lib.tabIs_of_head (by kernel_rfl : Tryz.prog.globalNamed "signet/ed.order" = some 0) (by kernel_rfl) Tryz.underlying75 Tryz.underlying43 (by kernel_rfl) (by kernel_rfl) (show laidMet Tryz.prog (("signet/ed.order", Lib.tabData .u32 (lL.map Int.ofNat)) :: [("signet/ed.curveD", Rows.laid_signet_ed_curveD), ("signet/ed.minusOneRoot", Rows.laid_signet_ed_minusOneRoot), ("signet/ed.baseX", Rows.laid_signet_ed_baseX), ("signet/ed.baseY", Rows.laid_signet_ed_baseY)]) W from h3)
  have h4 : laidMet Tryz.prog (("signet/ed.curveD", Rows.laid_signet_ed_curveD) :: [("signet/ed.minusOneRoot", Rows.laid_signet_ed_minusOneRoot), ("signet/ed.baseX", Rows.laid_signet_ed_baseX), ("signet/ed.baseY", Rows.laid_signet_ed_baseY)]) W := laidMet.tail h3
  have t4 : Lib.TabIs Tryz.prog W "signet/ed.curveD" .u32 (lD.map Int.ofNat) := Lib.tabIs_of_head (by kernel_rfl : Tryz.prog.globalNamed "signet/ed.curveD" = some 3) (by kernel_rfl) Tryz.underlying75 Tryz.underlying43 (by kernel_rfl) (by kernel_rfl) (show laidMet Tryz.prog (("signet/ed.curveD", Lib.tabData .u32 (lD.map Int.ofNat)) :: [("signet/ed.minusOneRoot", Rows.laid_signet_ed_minusOneRoot), ("signet/ed.baseX", Rows.laid_signet_ed_baseX), ("signet/ed.baseY", Rows.laid_signet_ed_baseY)]) W from h4)
  have h5 : laidMet Tryz.prog (("signet/ed.minusOneRoot", Rows.laid_signet_ed_minusOneRoot) :: [("signet/ed.baseX", Rows.laid_signet_ed_baseX), ("signet/ed.baseY", Rows.laid_signet_ed_baseY)]) W := laidMet.tail h4
  have t5 : Lib.TabIs Tryz.prog W "signet/ed.minusOneRoot" .u32 (lI.map Int.ofNat) := Lib.tabIs_of_head (by kernel_rfl : Tryz.prog.globalNamed "signet/ed.minusOneRoot" = some 8) (by kernel_rfl) Tryz.underlying75 Tryz.underlying43 (by kernel_rfl) (by kernel_rfl) (show laidMet Tryz.prog (("signet/ed.minusOneRoot", Lib.tabData .u32 (lI.map Int.ofNat)) :: [("signet/ed.baseX", Rows.laid_signet_ed_baseX), ("signet/ed.baseY", Rows.laid_signet_ed_baseY)]) W from h5)
  have h6 : laidMet Tryz.prog (("signet/ed.baseX", Rows.laid_signet_ed_baseX) :: [("signet/ed.baseY", Rows.laid_signet_ed_baseY)]) W := laidMet.tail h5
  have t6 : Lib.TabIs Tryz.prog W "signet/ed.baseX" .u32 (lX.map Int.ofNat) := Lib.tabIs_of_head (by kernel_rfl : Tryz.prog.globalNamed "signet/ed.baseX" = some 1) (by kernel_rfl) Tryz.underlying75 Tryz.underlying43 (by kernel_rfl) (by kernel_rfl) (show laidMet Tryz.prog (("signet/ed.baseX", Lib.tabData .u32 (lX.map Int.ofNat)) :: [("signet/ed.baseY", Rows.laid_signet_ed_baseY)]) W from h6)
  have h7 : laidMet Tryz.prog (("signet/ed.baseY", Rows.laid_signet_ed_baseY) :: []) W := laidMet.tail h6
  have t7 : Lib.TabIs Tryz.prog W "signet/ed.baseY" .u32 (lY.map Int.ofNat) := Lib.tabIs_of_head (by kernel_rfl : Tryz.prog.globalNamed "signet/ed.baseY" = some 2) (by kernel_rfl) Tryz.underlying75 Tryz.underlying43 (by kernel_rfl) (by kernel_rfl) (show laidMet Tryz.prog (("signet/ed.baseY", Lib.tabData .u32 (lY.map Int.ofNat)) :: []) W from h7)
  exact ⟨⟨fun i hi => (t2.cell (by kernel_rfl) i hi).trans (by rcases (show i = 0 ∨ i = 1 ∨ i = 2 ∨ i = 3 ∨ i = 4 ∨ i = 5 ∨ i = 6 ∨ i = 7 by omega) with rfl | rfl | rfl | rfl | rfl | rfl | rfl | rfl <;> rfl), fun i hi => (t3.cell (by kernel_rfl) i hi).trans (by rcases (show i = 0 ∨ i = 1 ∨ i = 2 ∨ i = 3 ∨ i = 4 ∨ i = 5 ∨ i = 6 ∨ i = 7 by omega) with rfl | rfl | rfl | rfl | rfl | rfl | rfl | rfl <;> rfl), fun i hi => (t4.cell (by kernel_rfl) i hi).trans (by rcases (show i = 0 ∨ i = 1 ∨ i = 2 ∨ i = 3 ∨ i = 4 ∨ i = 5 ∨ i = 6 ∨ i = 7 by omega) with rfl | rfl | rfl | rfl | rfl | rfl | rfl | rfl <;> rfl), fun i hi => (t5.cell (by kernel_rfl) i hi).trans (by rcases (show i = 0 ∨ i = 1 ∨ i = 2 ∨ i = 3 ∨ i = 4 ∨ i = 5 ∨ i = 6 ∨ i = 7 by omega) with rfl | rfl | rfl | rfl | rfl | rfl | rfl | rfl <;> rfl), fun i hi => (t6.cell (by kernel_rfl) i hi).trans (by rcases (show i = 0 ∨ i = 1 ∨ i = 2 ∨ i = 3 ∨ i = 4 ∨ i = 5 ∨ i = 6 ∨ i = 7 by omega) with rfl | rfl | rfl | rfl | rfl | rfl | rfl | rfl <;> rfl), fun i hi => (t7.cell (by kernel_rfl) i hi).trans (by rcases (show i = 0 ∨ i = 1 ∨ i = 2 ∨ i = 3 ∨ i = 4 ∨ i = 5 ∨ i = 6 ∨ i = 7 by omega) with rfl | rfl | rfl | rfl | rfl | rfl | rfl | rfl <;> rfl)⟩, fun i hi => t1.cell (by kernel_rfl) i hi, fun i hi => t0.cell (by kernel_rfl) i hi⟩

set_option maxRecDepth 100000 in
theorem edBack_contract (H : Type) (enc : TypeId × Value → H) (W : World) (base : Nat) (args : Array Value) (ds gs : List (DataW H)) (before : List MemPlace)
    (hval : ∀ (j : Nat) t v, Tryz.f6.params[j]? = some t → args[j]? = some v → Value.okWide Tryz.prog W .any base t v)
    (hW : DataW.Whole enc Tryz.prog Tryz.f6.params.toList Rows.edBackSpec.vars false W args.toList ds gs before) (hk : Rows.uptoSmall H (ds ++ gs) = true) (hL : laidMetH Tryz.prog Rows.edBackUptoRow.laid W) :
    Calls Tryz.prog 6 args W fun e W' => ∃ v, e = .returned v ∧ Rows.edBackSpec.post enc Tryz.prog Tryz.f6 false true false false W args v W' := by
  have hW' := hW
  obtain ⟨p, q, hA0, hV, rfl, hfz, hnd⟩ := hW
  have hA : DataW.TrodAll enc Tryz.prog W 0 (fun _ => true) true Tryz.f6.params.toList args.toList ds p := hA0
  rw [Tryz.params6] at hA hval
  obtain ⟨v0, v1, d0, d1, p0, p1, rfl, rfl, rfl, h0, h1⟩ := trodAll_two hA
  obtain ⟨rfl, rfl⟩ := trodVars_none hV
  have hbd : Rows.uptoBulkAll [d0, d1] ≤ 1048576 := of_decide_eq_true hk
  simp only [Rows.uptoBulkAll] at hbd
  have k0 := h0
  have lt0 : ∀ x ∈ p0, x.block < W.heap.size := by obtain ⟨m, hm⟩ := k0; exact DataW.trod_lt m _ _ _ hm
  obtain ⟨fuel0, hf0⟩ := h0
  obtain ⟨a0, len0, cap0, hv0⟩ := okWide_slice Tryz.underlying22 (hval 0 22 v0 rfl rfl)
  obtain ⟨l0, hl0, hcp0, hbk0, hr0, hn0⟩ := open_bytes hv0 hf0
  have k1 := h1
  have lt1 : ∀ x ∈ p1, x.block < W.heap.size := by obtain ⟨m, hm⟩ := k1; exact DataW.trod_lt m _ _ _ hm
  obtain ⟨fuel1, hf1⟩ := h1
  obtain ⟨x1, y1, inf1, X1, Y1, hv1, NX1, NY1, hbk1⟩ := open_point (hval 1 31 v1 rfl rfl) hf1
  clear hA0
  have hc := edBack_core a0 cap0 l0 x1 y1 inf1 (nv Bs X1) (nv Bs Y1) W (edBack_tb hL).1 (edBack_tb hL).2 hr0 (by omega) ⟨X1, NX1, rfl, by omega⟩ ⟨Y1, NY1, rfl, by omega⟩
  rw [← hv1] at hc
  rw [hl0, ← hv0] at hc
  refine hc.mono fun e W' ⟨he, bel⟩ => ?_
  subst he
  exact ⟨_, rfl, _, _, _, [], _, [], hW', trodAll_mk1 (shut_bool Tryz.underlying4 _), trodAll_mk2 (Below.trod laidO (by kernel_rfl) (of_decide_eq_true (by kernel_rfl)) k0 bel lt0) (Below.trod laidO (by kernel_rfl) (of_decide_eq_true (by kernel_rfl)) k1 bel lt1), rfl, bel.frame _, fun h => by cases h⟩

theorem edBack_reads (os : Os) {H : Type} (enc : TypeId × Value → H) : ∃ places, DataW.whole enc Tryz.prog ((World.laidAll Tryz.prog os Rows.edBackUptoRow.laid).forCall (fun _ _ => 0) ⟨#[], #[.slice none 0 0, .agg #[.slice none 0 0, .slice none 0 0, .bool false]], []⟩).memory Tryz.f6.params.toList Rows.edBackSpec.vars false (#[.slice none 0 0, .agg #[.slice none 0 0, .slice none 0 0, .bool false]] : Array Value).toList 8 = some ([.nil, .agg [.nil, .nil, .lit (.bool false)]], [], places) :=
  ⟨[], by kernel_rfl⟩

set_option maxRecDepth 100000 in
theorem edBack_lifted (os : Os) (started : os.Started) (H : Type) (enc : TypeId × Value → H) (F : Stop.Interp) :
    ReturnsInHanded {} Tryz.checked os 6 .any ((Rows.OpenSpec.upto Rows.edBackSpec).preRow enc Tryz.prog Tryz.f6 Rows.edBackUptoRow.domain false Rows.edBackUptoRow.laid) (((Rows.OpenSpec.upto Rows.edBackSpec).at F).post enc Tryz.prog Tryz.f6 false true false false) := by
  obtain ⟨places, hx⟩ := edBack_reads os enc
  refine returnsInHanded_of_row (C := Tryz.checked) (s := (Rows.OpenSpec.upto Rows.edBackSpec)) ownK started (by kernel_rfl) Tryz.func6
    (witness_row_at (enc := enc) (C := Tryz.checked) false (World.laidAll Tryz.prog os Rows.edBackUptoRow.laid) #[.slice none 0 0, .agg #[.slice none 0 0, .slice none 0 0, .bool false]] (World.laidAll_os _ _ _) (by kernel_rfl) (by kernel_rfl) (by kernel_rfl)
      (OpenSpec.preRow_of_cond 8 hx (by kernel_rfl) (fun k hk => by first | (cases hk; done) | (cases hk; kernel_rfl)) (by kernel_rfl) (laidMet_laidAll _ (by kernel_rfl) (by kernel_rfl)))) ?_
  intro W base args ds gs before hval hW _ hcond _ hL _ _
  exact edBack_contract H enc W base args ds gs before hval hW (hcond _ rfl) hL

theorem edBack_said : Rows.EdBackUptoSaid :=
  OpenClaim.holds_of_cond 6 Tryz.f6 rfl rfl rfl rfl rfl rfl rfl ⟨rfl, rfl, rfl, rfl, rfl⟩ rfl rfl rfl rfl rfl (by kernel_rfl) Tryz.func6 (by kernel_rfl)
    (of_decide_eq_true (by kernel_rfl)) (by unfold Func.isWrapper; first | (rw [if_pos (by decide +kernel)]; kernel_rfl) | (rw [if_neg (by decide +kernel)]; exact ⟨rfl, rfl⟩))
    (fun os started H enc _ F => by rw [OpenClaim.pre_eq_preRow]; exact edBack_lifted os started H enc F)

theorem edBack_plain (f : FuncId) (fn : Func) (hf : Tryz.pinned.checked.prog.funcNamed "signet/signetlaw13.EdBack" = some f) (hfn : Tryz.pinned.checked.prog.funcs[f]? = some fn) :
    false = Tryz.pinned.checked.prog.looks [] ∧ ∀ (j : Nat) t, fn.params[j]? = some t → Tryz.pinned.checked.prog.wantsStandIn t = false := by
  obtain rfl : f = 6 := Option.some.inj ((show Tryz.prog.funcNamed "signet/signetlaw13.EdBack" = some 6 by kernel_rfl).symm.trans hf) |>.symm
  obtain rfl : fn = Tryz.f6 := (Option.some.inj (Tryz.func6.symm.trans hfn)).symm
  refine ⟨by kernel_rfl, fun j t ht => ?_⟩
  rw [Tryz.params6] at ht
  have hm : t = 22 ∨ t = 31 := by simpa using Array.mem_of_getElem? ht
  rcases hm with rfl | rfl
  · exact (show Tryz.prog.wantsStandIn 22 = false by kernel_rfl)
  · exact (show Tryz.prog.wantsStandIn 31 = false by kernel_rfl)

theorem edBack_card : Rows.EdBackUptoCardSaid :=
  Claim7.holds_tied_plain_at .later [] _ _ _ _ edBack_said (fun _ h => by cases h) (by kernel_rfl) (fun _ h => by cases h) edBackUpto_row_tie rfl ⟨rfl, rfl⟩ (by kernel_rfl) rfl edBack_plain (by kernel_rfl)
#print axioms edBack_card

end Go.Proofs.YtjpjepfmphlneaaGreatDoor
