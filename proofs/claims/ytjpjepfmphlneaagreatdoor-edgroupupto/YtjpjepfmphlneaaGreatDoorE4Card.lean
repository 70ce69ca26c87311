import Derived.Test.YtjpjepfmphlneaaGreatDoorE4
import Derived.Test.YtjpjepfmphlneaaGreatDoorCuCArg
namespace Go.Proofs.YtjpjepfmphlneaaGreatDoor
open Go.ChangeShapes Go.WideShapes Go.ChangeAt Go.RowKit

set_option maxRecDepth 100000 in
theorem edGroup_tb {W : World} (h : laidMetH Tryz.prog Rows.edGroupUptoRow.laid W) : Te W ∧ Sha.Tb W := by
  rw [MakeChecks.laidMetH_plain _ _ _ (by kernel_rfl)] at h
  have h0 : laidMet Tryz.prog (("signet/sha.squareRoots", Rows.laid_signet_sha_squareRoots) :: [("signet/sha.cubeRoots", Rows.laid_signet_sha_cubeRoots), ("signet/ed.prime", Rows.laid_signet_ed_prime), ("signet/ed.order", Rows.laid_signet_ed_order), ("signet/ed.curveD", Rows.laid_signet_ed_curveD), ("signet/ed.minusOneRoot", Rows.laid_signet_ed_minusOneRoot), ("signet/ed.baseX", Rows.laid_signet_ed_baseX), ("signet/ed.baseY", Rows.laid_signet_ed_baseY)]) W := h
  have t0 : Lib.TabIs Tryz.prog W "signet/sha.squareRoots" .u64 Sha.SQ := Lib.tabIs_of_head (by kernel_rfl : Tryz.prog.globalNamed "signet/sha.squareRoots" = some 7) (by kernel_rfl) Tryz.underlying120 Tryz.underlying104 (by kernel_rfl) (by kernel_rfl) (show laidMet Tryz.prog (("signet/sha.squareRoots", Lib.tabData .u64 Sha.SQ) :: [("signet/sha.cubeRoots", Rows.laid_signet_sha_cubeRoots), ("signet/ed.prime", Rows.laid_signet_ed_prime), ("signet/ed.order", Rows.laid_signet_ed_order), ("signet/ed.curveD", Rows.laid_signet_ed_curveD), ("signet/ed.minusOneRoot", Rows.laid_signet_ed_minusOneRoot), ("signet/ed.baseX", Rows.laid_signet_ed_baseX), ("signet/ed.baseY", Rows.laid_signet_ed_baseY)]) W from h0)
  have h1 : laidMet Tryz.prog (("signet/sha.cubeRoots", Rows.laid_signet_sha_cubeRoots) :: [("signet/ed.prime", Rows.laid_signet_ed_prime), ("signet/ed.order", Rows.laid_signet_ed_order), ("signet/ed.curveD", Rows.laid_signet_ed_curveD), ("signet/ed.minusOneRoot", Rows.laid_signet_ed_minusOneRoot), ("signet/ed.baseX", Rows.laid_signet_ed_baseX), ("signet/ed.baseY", Rows.laid_signet_ed_baseY)]) W := laidMet.tail h0
  have t1 : Lib.TabIs Tryz.prog W "signet/sha.cubeRoots" .u64 Sha.KT := Lib.tabIs_of_head (by kernel_rfl : Tryz.prog.globalNamed "signet/sha.cubeRoots" = some 12) (by kernel_rfl) Tryz.underlying130 Tryz.underlying104 (by kernel_rfl) (by kernel_rfl) (show laidMet Tryz.prog (("signet/sha.cubeRoots", Lib.tabData .u64 Sha.KT) :: [("signet/ed.prime", Rows.laid_signet_ed_prime), ("signet/ed.order", Rows.laid_signet_ed_order), ("signet/ed.curveD", Rows.laid_signet_ed_curveD), ("signet/ed.minusOneRoot", Rows.laid_signet_ed_minusOneRoot), ("signet/ed.baseX", Rows.laid_signet_ed_baseX), ("signet/ed.baseY", Rows.laid_signet_ed_baseY)]) W from h1)
  have h2 : laidMet Tryz.prog (("signet/ed.prime", Rows.laid_signet_ed_prime) :: [("signet/ed.order", Rows.laid_signet_ed_order), ("signet/ed.curveD", Rows.laid_signet_ed_curveD), ("signet/ed.minusOneRoot", Rows.laid_signet_ed_minusOneRoot), ("signet/ed.baseX", Rows.laid_signet_ed_baseX), ("signet/ed.baseY", Rows.laid_signet_ed_baseY)]) W := laidMet.tail h1
  have t2 : Lib.TabIs Tryz.prog W "signet/ed.prime" .u32 (lP.map Int.ofNat) := Lib.tabIs_of_head (by kernel_rfl : Tryz.prog.globalNamed "signet/ed.prime" = some 4) (by kernel_rfl) Tryz.underlying75 Tryz.underlying43 (by kernel_rfl) (by kernel_rfl) (show laidMet Tryz.prog (("signet/ed.prime", Lib.tabData .u32 (lP.map Int.ofNat)) :: [("signet/ed.order", Rows.laid_signet_ed_order), ("signet/ed.curveD", Rows.laid_signet_ed_curveD), ("signet/ed.minusOneRoot", Rows.laid_signet_ed_minusOneRoot), ("signet/ed.baseX", Rows.laid_signet_ed_baseX), ("signet/ed.baseY", Rows.laid_signet_ed_baseY)]) W from h2)
  have h3 : laidMet Tryz.prog (("signet/ed.order", Rows.laid_signet_ed_order) :: [("signet/ed.curveD", Rows.laid_signet_ed_curveD), ("signet/ed.minusOneRoot", Rows.laid_signet_ed_minusOneRoot), ("signet/ed.baseX", Rows.laid_signet_ed_baseX), ("signet/ed.baseY", Rows.laid_signet_ed_baseY)]) W := laidMet.tail h2
  have t3 : Lib.TabIs Tryz.prog W "signet/ed.order" .u32 (lL.map Int.ofNat) := Lib.tabIs_of_head (by kernel_rfl : Tryz.prog.globalNamed "signet/ed.order" = some 0) (by kernel_rfl) Tryz.underlying75 Tryz.underlying43 (by kernel_rfl) (by kernel_rfl) (show laidMet Tryz.prog (("signet/ed.order", Lib.tabData .u32 (lL.map Int.ofNat)) :: [("signet/ed.curveD", Rows.laid_signet_ed_curveD), ("signet/ed.minusOneRoot", Rows.laid_signet_ed_minusOneRoot), ("signet/ed.baseX", Rows.laid_signet_ed_baseX), ("signet/ed.baseY", Rows.laid_signet_ed_baseY)]) W from h3)
  have h4 : laidMet Tryz.prog (("signet/ed.curveD", Rows.laid_signet_ed_curveD) :: [("signet/ed.minusOneRoot", Rows.laid_signet_ed_minusOneRoot), ("signet/ed.baseX", Rows.laid_signet_ed_baseX), ("signet/ed.baseY", Rows.laid_signet_ed_baseY)]) W := laidMet.tail h3
  have t4 : Lib.TabIs Tryz.prog W "signet/ed.curveD" .u32 (lD.map Int.ofNat) := Lib.tabIs_of_head (by kernel_rfl : Tryz.prog.globalNamed "signet/ed.curveD" = some 3) (by kernel_rfl) Tryz.underlying75 Tryz.underlying43 (by kernel_rfl) (by kernel_rfl) (show laidMet Tryz.prog (("signet/ed.curveD", Lib.tabData .u32 (lD.map Int.ofNat)) :: [("signet/ed.minusOneRoot", Rows.laid_signet_ed_minusOneRoot), ("signet/ed.baseX", Rows.laid_signet_ed_baseX), ("signet/ed.baseY", Rows.laid_signet_ed_baseY)]) W from h4)
  have h5 : laidMet Tryz.prog (("signet/ed.minusOneRoot", Rows.laid_signet_ed_minusOneRoot) :: [("signet/ed.baseX", Rows.laid_signet_ed_baseX), ("signet/ed.baseY", Rows.laid_signet_ed_baseY)]) W := laidMet.tail h4
  have t5 : Lib.TabIs Tryz.prog W "signet/ed.minusOneRoot" .u32 (lI.map Int.ofNat) := Lib.tabIs_of_head (by kernel_rfl : Tryz.prog.globalNamed "signet/ed.minusOneRoot" = some 8) (by kernel_rfl) Tryz.underlying75 Tryz.underlying43 (by kernel_rfl) (by kernel_rfl) (show laidMet Tryz.prog (("signet/ed.minusOneRoot", Lib.tabData .u32 (lI.map Int.ofNat)) :: [("signet/ed.baseX", Rows.laid_signet_ed_baseX), ("signet/ed.baseY", Rows.laid_signet_ed_baseY)]) W from h5)
  have h6 : laidMet Tryz.prog (("signet/ed.baseX", Rows.laid_signet_ed_baseX) :: [("signet/ed.baseY", Rows.laid_signet_ed_baseY)]) W := laidMet.tail h5
  have t6 : Lib.TabIs Tryz.prog W "signet/ed.baseX" .u32 (lX.map Int.ofNat) := Lib.tabIs_of_head (by kernel_rfl : Tryz.prog.globalNamed "signet/ed.baseX" = some 1) (by kernel_rfl) Tryz.underlying75 Tryz.underlying43 (by kernel_rfl) (by kernel_rfl) (show laidMet Tryz.prog (("signet/ed.baseX", Lib.tabData .u32 (lX.map Int.ofNat)) :: [("signet/ed.baseY", Rows.laid_signet_ed_baseY)]) W from h6)
  have h7 : laidMet Tryz.prog (("signet/ed.baseY", Rows.laid_signet_ed_baseY) :: []) W := laidMet.tail h6
  have t7 : Lib.TabIs Tryz.prog W "signet/ed.baseY" .u32 (lY.map Int.ofNat) := Lib.tabIs_of_head (by kernel_rfl : Tryz.prog.globalNamed "signet/ed.baseY" = some 2) (by kernel_rfl) Tryz.underlying75 Tryz.underlying43 (by kernel_rfl) (by kernel_rfl) (show laidMet Tryz.prog (("signet/ed.baseY", Lib.tabData .u32 (lY.map Int.ofNat)) :: []) W from h7)
  exact ⟨⟨fun i hi => (t2.cell (by kernel_rfl) i hi).trans (by rcases (show i = 0 ∨ i = 1 ∨ i = 2 ∨ i = 3 ∨ i = 4 ∨ i = 5 ∨ i = 6 ∨ i = 7 by omega) with rfl | rfl | rfl | rfl | rfl | rfl | rfl | rfl <;> rfl), fun i hi => (t3.cell (by kernel_rfl) i hi).trans (by rcases (show i = 0 ∨ i = 1 ∨ i = 2 ∨ i = 3 ∨ i = 4 ∨ i = 5 ∨ i = 6 ∨ i = 7 by omega) with rfl | rfl | rfl | rfl | rfl | rfl | rfl | rfl <;> rfl), fun i hi => (t4.cell (by kernel_rfl) i hi).trans (by rcases (show i = 0 ∨ i = 1 ∨ i = 2 ∨ i = 3 ∨ i = 4 ∨ i = 5 ∨ i = 6 ∨ i = 7 by omega) with rfl | rfl | rfl | rfl | rfl | rfl | rfl | rfl <;> rfl), fun i hi => (t5.cell (by kernel_rfl) i hi).trans (by rcases (show i = 0 ∨ i = 1 ∨ i = 2 ∨ i = 3 ∨ i = 4 ∨ i = 5 ∨ i = 6 ∨ i = 7 by omega) with rfl | rfl | rfl | rfl | rfl | rfl | rfl | rfl <;> rfl), fun i hi => (t6.cell (by kernel_rfl) i hi).trans (by rcases (show i = 0 ∨ i = 1 ∨ i = 2 ∨ i = 3 ∨ i = 4 ∨ i = 5 ∨ i = 6 ∨ i = 7 by omega) with rfl | rfl | rfl | rfl | rfl | rfl | rfl | rfl <;> rfl), fun i hi => (t7.cell (by kernel_rfl) i hi).trans (by rcases (show i = 0 ∨ i = 1 ∨ i = 2 ∨ i = 3 ∨ i = 4 ∨ i = 5 ∨ i = 6 ∨ i = 7 by omega) with rfl | rfl | rfl | rfl | rfl | rfl | rfl | rfl <;> rfl)⟩, fun i hi => t1.cell (by kernel_rfl) i hi, fun i hi => t0.cell (by kernel_rfl) i hi⟩

set_option maxRecDepth 100000 in
theorem edGroup_contract (H : Type) (enc : TypeId × Value → H) (W : World) (base : Nat) (args : Array Value) (ds gs : List (DataW H)) (before : List MemPlace)
    (hval : ∀ (j : Nat) t v, Tryz.f4.params[j]? = some t → args[j]? = some v → Value.okWide Tryz.prog W .any base t v)
    (hW : DataW.Whole enc Tryz.prog Tryz.f4.params.toList Rows.edGroupSpec.vars false W args.toList ds gs before) (hk : Rows.uptoSmall H (ds ++ gs) = true) (hL : laidMetH Tryz.prog Rows.edGroupUptoRow.laid W) :
    Calls Tryz.prog 4 args W fun e W' => ∃ v, e = .returned v ∧ Rows.edGroupSpec.post enc Tryz.prog Tryz.f4 false true false false W args v W' := by
  have hW' := hW
  obtain ⟨p, q, hA0, hV, rfl, hfz, hnd⟩ := hW
  have hA : DataW.TrodAll enc Tryz.prog W 0 (fun _ => true) true Tryz.f4.params.toList args.toList ds p := hA0
  rw [Tryz.params4] at hA hval
  obtain ⟨v0, v1, v2, d0, d1, d2, p0, p1, p2, rfl, rfl, rfl, h0, h1, h2⟩ := trodAll_three hA
  obtain ⟨rfl, rfl⟩ := trodVars_none hV
  have hbd : Rows.uptoBulkAll [d0, d1, d2] ≤ 1048576 := of_decide_eq_true hk
  simp only [Rows.uptoBulkAll] at hbd
  have k0 := h0
  have lt0 : ∀ x ∈ p0, x.block < W.heap.size := by obtain ⟨m, hm⟩ := k0; exact DataW.trod_lt m _ _ _ hm
  obtain ⟨fuel0, hf0⟩ := h0
  obtain ⟨a0, len0, cap0, hv0⟩ := okWide_slice Tryz.underlying22 (hval 0 22 v0 rfl rfl)
  obtain ⟨l0, hl0, hcp0, hbk0, hr0, hn0⟩ := open_bytes hv0 hf0
  have k1 := h1
  have lt1 : ∀ x ∈ p1, x.block < W.heap.size := by obtain ⟨m, hm⟩ := k1; exact DataW.trod_lt m _ _ _ hm
  obtain ⟨fuel1, hf1⟩ := h1
  obtain ⟨a1, len1, cap1, hv1⟩ := okWide_slice Tryz.underlying22 (hval 1 22 v1 rfl rfl)
  obtain ⟨l1, hl1, hcp1, hbk1, hr1, hn1⟩ := open_bytes hv1 hf1
  have k2 := h2
  have lt2 : ∀ x ∈ p2, x.block < W.heap.size := by obtain ⟨m, hm⟩ := k2; exact DataW.trod_lt m _ _ _ hm
  obtain ⟨fuel2, hf2⟩ := h2
  obtain ⟨a2, len2, cap2, hv2⟩ := okWide_slice Tryz.underlying22 (hval 2 22 v2 rfl rfl)
  obtain ⟨l2, hl2, hcp2, hbk2, hr2, hn2⟩ := open_bytes hv2 hf2
  clear hA0
  have hc := edGroup_core a0 a1 a2 cap0 cap1 cap2 l0 l1 l2 W (edGroup_tb hL).1 (edGroup_tb hL).2 hr0 ⟨by omega, by omega⟩ (fun h => ⟨by have := hn0 h; omega, hn0 h⟩) (by omega) hr1 ⟨by omega, by omega⟩ (fun h => ⟨by have := hn1 h; omega, hn1 h⟩) (by omega) hr2 ⟨by omega, by omega⟩ (fun h => ⟨by have := hn2 h; omega, hn2 h⟩) (by omega)
  rw [hl0, ← hv0] at hc
  rw [hl1, ← hv1] at hc
  rw [hl2, ← hv2] at hc
  refine hc.mono fun e W' ⟨he, bel⟩ => ?_
  subst he
  exact ⟨_, rfl, _, _, _, [], _, [], hW', trodAll_mk1 (shut_bool Tryz.underlying4 _), trodAll_mk3 (Below.trod laidO (by kernel_rfl) (of_decide_eq_true (by kernel_rfl)) k0 bel lt0) (Below.trod laidO (by kernel_rfl) (of_decide_eq_true (by kernel_rfl)) k1 bel lt1) (Below.trod laidO (by kernel_rfl) (of_decide_eq_true (by kernel_rfl)) k2 bel lt2), rfl, bel.frame _, fun h => by cases h⟩

theorem edGroup_reads (os : Os) {H : Type} (enc : TypeId × Value → H) : ∃ places, DataW.whole enc Tryz.prog ((World.laidAll Tryz.prog os Rows.edGroupUptoRow.laid).forCall (fun _ _ => 0) ⟨#[], #[.slice none 0 0, .slice none 0 0, .slice none 0 0], []⟩).memory Tryz.f4.params.toList Rows.edGroupSpec.vars false (#[.slice none 0 0, .slice none 0 0, .slice none 0 0] : Array Value).toList 8 = some ([.nil, .nil, .nil], [], places) :=
  ⟨[], by kernel_rfl⟩

set_option maxRecDepth 100000 in
theorem edGroup_lifted (os : Os) (started : os.Started) (H : Type) (enc : TypeId × Value → H) (F : Stop.Interp) :
    ReturnsInHanded {} Tryz.checked os 4 .any ((Rows.OpenSpec.upto Rows.edGroupSpec).preRow enc Tryz.prog Tryz.f4 Rows.edGroupUptoRow.domain false Rows.edGroupUptoRow.laid) (((Rows.OpenSpec.upto Rows.edGroupSpec).at F).post enc Tryz.prog Tryz.f4 false true false false) := by
  obtain ⟨places, hx⟩ := edGroup_reads os enc
  refine returnsInHanded_of_row (C := Tryz.checked) (s := (Rows.OpenSpec.upto Rows.edGroupSpec)) ownK started (by kernel_rfl) Tryz.func4
    (witness_row_at (enc := enc) (C := Tryz.checked) false (World.laidAll Tryz.prog os Rows.edGroupUptoRow.laid) #[.slice none 0 0, .slice none 0 0, .slice none 0 0] (World.laidAll_os _ _ _) (by kernel_rfl) (by kernel_rfl) (by kernel_rfl)
      (OpenSpec.preRow_of_cond 8 hx (by kernel_rfl) (fun k hk => by first | (cases hk; done) | (cases hk; kernel_rfl)) (by kernel_rfl) (laidMet_laidAll _ (by kernel_rfl) (by kernel_rfl)))) ?_
  intro W base args ds gs before hval hW _ hcond _ hL _ _
  exact edGroup_contract H enc W base args ds gs before hval hW (hcond _ rfl) hL

theorem edGroup_said : Rows.EdGroupUptoSaid :=
  OpenClaim.holds_of_cond 4 Tryz.f4 rfl rfl rfl rfl rfl rfl rfl ⟨rfl, rfl, rfl, rfl, rfl⟩ rfl rfl rfl rfl rfl (by kernel_rfl) Tryz.func4 (by kernel_rfl)
    (of_decide_eq_true (by kernel_rfl)) (by unfold Func.isWrapper; first | (rw [if_pos (by decide +kernel)]; kernel_rfl) | (rw [if_neg (by decide +kernel)]; exact ⟨rfl, rfl⟩))
    (fun os started H enc _ F => by rw [OpenClaim.pre_eq_preRow]; exact edGroup_lifted os started H enc F)

theorem edGroup_plain (f : FuncId) (fn : Func) (hf : Tryz.pinned.checked.prog.funcNamed "signet/signetlaw13.EdGroup" = some f) (hfn : Tryz.pinned.checked.prog.funcs[f]? = some fn) :
    false = Tryz.pinned.checked.prog.looks [] ∧ ∀ (j : Nat) t, fn.params[j]? = some t → Tryz.pinned.checked.prog.wantsStandIn t = false := by
  obtain rfl : f = 4 := Option.some.inj ((show Tryz.prog.funcNamed "signet/signetlaw13.EdGroup" = some 4 by kernel_rfl).symm.trans hf) |>.symm
  obtain rfl : fn = Tryz.f4 := (Option.some.inj (Tryz.func4.symm.trans hfn)).symm
  refine ⟨by kernel_rfl, fun j t ht => ?_⟩
  rw [Tryz.params4] at ht
  have hm : t = 22 := by simpa using Array.mem_of_getElem? ht
  rcases hm with rfl
  · exact (show Tryz.prog.wantsStandIn 22 = false by kernel_rfl)

theorem edGroup_card : Rows.EdGroupUptoCardSaid :=
  Claim7.holds_tied_plain_at .later [] _ _ _ _ edGroup_said (fun _ h => by cases h) (by kernel_rfl) (fun _ h => by cases h) edGroupUpto_row_tie rfl ⟨rfl, rfl⟩ (by kernel_rfl) rfl edGroup_plain (by kernel_rfl)
#print axioms edGroup_card

end Go.Proofs.YtjpjepfmphlneaaGreatDoor
