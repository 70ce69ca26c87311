import Derived.Test.YtnifjhmjpbihoaaGreatDoorEZ6
import Derived.Test.YtnifjhmjpbihoaaGreatDoorCArg
namespace Go.Proofs.YtnifjhmjpbihoaaGreatDoor
open Go.ChangeShapes Go.WideShapes Go.ChangeAt Go.RowKit

section
variable {H : Type} {enc : TypeId × Value → H} {P : Program} {w : World} {base : Nat} {spare : Nat → Bool} {held : Bool}
theorem trodAll_eight {ta tb tc td te tf tg th : TypeId} {args : Array Value} {ds : List (DataW H)} {ps : List MemPlace} (h : DataW.TrodAll enc P w base spare held [ta, tb, tc, td, te, tf, tg, th] args.toList ds ps) :
    ∃ va vb vc vd ve vf vg vh da db dc dd de df dg dh pa pb pc pd pe pf pg ph, args = #[va, vb, vc, vd, ve, vf, vg, vh] ∧ ds = [da, db, dc, dd, de, df, dg, dh] ∧ ps = pa ++ pb ++ pc ++ pd ++ pe ++ pf ++ pg ++ ph ∧ DataW.Trod enc P w base spare held ta va da pa ∧ DataW.Trod enc P w base spare held tb vb db pb ∧ DataW.Trod enc P w base spare held tc vc dc pc ∧ DataW.Trod enc P w base spare held td vd dd pd ∧ DataW.Trod enc P w base spare held te ve de pe ∧ DataW.Trod enc P w base spare held tf vf df pf ∧ DataW.Trod enc P w base spare held tg vg dg pg ∧ DataW.Trod enc P w base spare held th vh dh ph := by
  obtain ⟨va, sa, da, ea, pa, qa, hargs, rfl, rfl, ha, ra⟩ := trodAll_cons h
  obtain ⟨vb, sb, db, eb, pb, qb, rfl, rfl, rfl, hb, rb⟩ := trodAll_cons ra
  obtain ⟨vc, sc, dc, ec, pc, qc, rfl, rfl, rfl, hc, rc⟩ := trodAll_cons rb
  obtain ⟨vd, sd, dd, ed, pd, qd, rfl, rfl, rfl, hd, rd⟩ := trodAll_cons rc
  obtain ⟨ve, se, de, ee, pe, qe, rfl, rfl, rfl, he, re⟩ := trodAll_cons rd
  obtain ⟨vf, sf, df, ef, pf, qf, rfl, rfl, rfl, hf, rf⟩ := trodAll_cons re
  obtain ⟨vg, sg, dg, eg, pg, qg, rfl, rfl, rfl, hg, rg⟩ := trodAll_cons rf
  obtain ⟨vh, sh, dh, eh, ph, qh, rfl, rfl, rfl, hh, rh⟩ := trodAll_cons rg
  obtain ⟨rfl, rfl, rfl⟩ := trodAll_nil rh
  exact ⟨va, vb, vc, vd, ve, vf, vg, vh, da, db, dc, dd, de, df, dg, dh, pa, pb, pc, pd, pe, pf, pg, ph, by cases args; simp_all, rfl, by simp, ha, hb, hc, hd, he, hf, hg, hh⟩
theorem trodAll_mk8 {ta tb tc td te tf tg th : TypeId} {va vb vc vd ve vf vg vh : Value} {da db dc dd de df dg dh : DataW H} {pa pb pc pd pe pf pg ph : List MemPlace} (ha : DataW.Trod enc P w base spare held ta va da pa) (hb : DataW.Trod enc P w base spare held tb vb db pb) (hc : DataW.Trod enc P w base spare held tc vc dc pc) (hd : DataW.Trod enc P w base spare held td vd dd pd) (he : DataW.Trod enc P w base spare held te ve de pe) (hf : DataW.Trod enc P w base spare held tf vf df pf) (hg : DataW.Trod enc P w base spare held tg vg dg pg) (hh : DataW.Trod enc P w base spare held th vh dh ph) :
    DataW.TrodAll enc P w base spare held [ta, tb, tc, td, te, tf, tg, th] [va, vb, vc, vd, ve, vf, vg, vh] [da, db, dc, dd, de, df, dg, dh] (pa ++ (pb ++ (pc ++ (pd ++ (pe ++ (pf ++ (pg ++ ph))))))) := ⟨pa, pb ++ (pc ++ (pd ++ (pe ++ (pf ++ (pg ++ ph))))), ha, ⟨pb, pc ++ (pd ++ (pe ++ (pf ++ (pg ++ ph)))), hb, trodAll_mk6 hc hd he hf hg hh, rfl⟩, rfl⟩
end
set_option maxRecDepth 100000 in
theorem ecdsaCounts_tb {W : World} (h : laidMetH Tryz.prog Rows.ecdsaCountsUptoRow.laid W) : Sha.Tb W := by
  rw [MakeChecks.laidMetH_plain _ _ _ (by kernel_rfl)] at h
  have h0 : laidMet Tryz.prog (("math/bits.deBruijn32tab", Rows.laid_math_bits_deBruijn32tab) :: [("math/bits.deBruijn64tab", Rows.laid_math_bits_deBruijn64tab), ("internal/strconv.uint64pow10", Rows.laid_internal_strconv_uint64pow10), ("strconv.ErrRange", Rows.laid_strconv_ErrRange), ("strconv.ErrSyntax", Rows.laid_strconv_ErrSyntax), ("signet/sha.squareRoots", Rows.laid_signet_sha_squareRoots), ("signet/sha.cubeRoots", Rows.laid_signet_sha_cubeRoots)]) W := h
  have h1 : laidMet Tryz.prog (("math/bits.deBruijn64tab", Rows.laid_math_bits_deBruijn64tab) :: [("internal/strconv.uint64pow10", Rows.laid_internal_strconv_uint64pow10), ("strconv.ErrRange", Rows.laid_strconv_ErrRange), ("strconv.ErrSyntax", Rows.laid_strconv_ErrSyntax), ("signet/sha.squareRoots", Rows.laid_signet_sha_squareRoots), ("signet/sha.cubeRoots", Rows.laid_signet_sha_cubeRoots)]) W := laidMet.tail h0
  have h2 : laidMet Tryz.prog (("internal/strconv.uint64pow10", Rows.laid_internal_strconv_uint64pow10) :: [("strconv.ErrRange", Rows.laid_strconv_ErrRange), ("strconv.ErrSyntax", Rows.laid_strconv_ErrSyntax), ("signet/sha.squareRoots", Rows.laid_signet_sha_squareRoots), ("signet/sha.cubeRoots", Rows.laid_signet_sha_cubeRoots)]) W := laidMet.tail h1
  have h3 : laidMet Tryz.prog (("strconv.ErrRange", Rows.laid_strconv_ErrRange) :: [("strconv.ErrSyntax", Rows.laid_strconv_ErrSyntax), ("signet/sha.squareRoots", Rows.laid_signet_sha_squareRoots), ("signet/sha.cubeRoots", Rows.laid_signet_sha_cubeRoots)]) W := laidMet.tail h2
  have h4 : laidMet Tryz.prog (("strconv.ErrSyntax", Rows.laid_strconv_ErrSyntax) :: [("signet/sha.squareRoots", Rows.laid_signet_sha_squareRoots), ("signet/sha.cubeRoots", Rows.laid_signet_sha_cubeRoots)]) W := laidMet.tail h3
  have h5 : laidMet Tryz.prog (("signet/sha.squareRoots", Rows.laid_signet_sha_squareRoots) :: [("signet/sha.cubeRoots", Rows.laid_signet_sha_cubeRoots)]) W := laidMet.tail h4
  have t5 : Lib.TabIs Tryz.prog W "signet/sha.squareRoots" .u64 Sha.SQ := Lib.tabIs_of_head (by kernel_rfl : Tryz.prog.globalNamed "signet/sha.squareRoots" = some 0) (by kernel_rfl) Tryz.underlying147 Tryz.underlying90 (by kernel_rfl) (by kernel_rfl) (show laidMet Tryz.prog (("signet/sha.squareRoots", Lib.tabData .u64 Sha.SQ) :: [("signet/sha.cubeRoots", Rows.laid_signet_sha_cubeRoots)]) W from h5)
  have h6 : laidMet Tryz.prog (("signet/sha.cubeRoots", Rows.laid_signet_sha_cubeRoots) :: []) W := laidMet.tail h5
  have t6 : Lib.TabIs Tryz.prog W "signet/sha.cubeRoots" .u64 Sha.KT := Lib.tabIs_of_head (by kernel_rfl : Tryz.prog.globalNamed "signet/sha.cubeRoots" = some 6) (by kernel_rfl) Tryz.underlying165 Tryz.underlying90 (by kernel_rfl) (by kernel_rfl) (show laidMet Tryz.prog (("signet/sha.cubeRoots", Lib.tabData .u64 Sha.KT) :: []) W from h6)
  exact ⟨fun i hi => t6.cell (by kernel_rfl) i hi, fun i hi => t5.cell (by kernel_rfl) i hi⟩

set_option maxRecDepth 100000 in
theorem ecdsaCounts_contract (H : Type) (enc : TypeId × Value → H) (W : World) (base : Nat) (args : Array Value) (ds gs : List (DataW H)) (before : List MemPlace)
    (hval : ∀ (j : Nat) t v, Tryz.f4.params[j]? = some t → args[j]? = some v → Value.okWide Tryz.prog W .any base t v)
    (hW : DataW.Whole enc Tryz.prog Tryz.f4.params.toList Rows.ecdsaCountsSpec.vars false W args.toList ds gs before) (hk : Rows.uptoSmall H (ds ++ gs) = true) (hL : laidMetH Tryz.prog Rows.ecdsaCountsUptoRow.laid W) :
    Calls Tryz.prog 4 args W fun e W' => ∃ v, e = .returned v ∧ Rows.ecdsaCountsSpec.post enc Tryz.prog Tryz.f4 false true false false W args v W' := by
  have hW' := hW
  obtain ⟨p, q, hA0, hV, rfl, hfz, hnd⟩ := hW
  have hA : DataW.TrodAll enc Tryz.prog W 0 (fun _ => true) true Tryz.f4.params.toList args.toList ds p := hA0
  rw [Tryz.params4] at hA hval
  obtain ⟨v0, v1, v2, v3, v4, v5, v6, v7, d0, d1, d2, d3, d4, d5, d6, d7, p0, p1, p2, p3, p4, p5, p6, p7, rfl, rfl, rfl, h0, h1, h2, h3, h4, h5, h6, h7⟩ := trodAll_eight hA
  obtain ⟨rfl, rfl⟩ := trodVars_none hV
  have hbd : Rows.uptoBulkAll [d0, d1, d2, d3, d4, d5, d6, d7] ≤ 1048576 := of_decide_eq_true hk
  simp only [Rows.uptoBulkAll] at hbd
  obtain ⟨a0, rfl, rfl, rfl, w0⟩ := open_int Tryz.underlying22 (hval 0 22 v0 rfl rfl) h0
  obtain ⟨a1, rfl, rfl, rfl, w1⟩ := open_int Tryz.underlying22 (hval 1 22 v1 rfl rfl) h1
  obtain ⟨a2, rfl, rfl, rfl, w2⟩ := open_int Tryz.underlying23 (hval 2 23 v2 rfl rfl) h2
  have k3 := h3
  have lt3 : ∀ x ∈ p3, x.block < W.heap.size := by obtain ⟨m, hm⟩ := k3; exact DataW.trod_lt m _ _ _ hm
  obtain ⟨fuel3, hf3⟩ := h3
  obtain ⟨a3, len3, cap3, hv3⟩ := okWide_slice Tryz.underlying24 (hval 3 24 v3 rfl rfl)
  obtain ⟨l3, hl3, hcp3, hbk3, hr3, hn3⟩ := open_bytes hv3 hf3
  have k4 := h4
  have lt4 : ∀ x ∈ p4, x.block < W.heap.size := by obtain ⟨m, hm⟩ := k4; exact DataW.trod_lt m _ _ _ hm
  obtain ⟨fuel4, hf4⟩ := h4
  obtain ⟨a4, len4, cap4, hv4⟩ := okWide_slice Tryz.underlying24 (hval 4 24 v4 rfl rfl)
  obtain ⟨l4, hl4, hcp4, hbk4, hr4, hn4⟩ := open_bytes hv4 hf4
  have k5 := h5
  have lt5 : ∀ x ∈ p5, x.block < W.heap.size := by obtain ⟨m, hm⟩ := k5; exact DataW.trod_lt m _ _ _ hm
  obtain ⟨fuel5, hf5⟩ := h5
  obtain ⟨a5, len5, cap5, hv5⟩ := okWide_slice Tryz.underlying24 (hval 5 24 v5 rfl rfl)
  obtain ⟨l5, hl5, hcp5, hbk5, hr5, hn5⟩ := open_bytes hv5 hf5
  have k6 := h6
  have lt6 : ∀ x ∈ p6, x.block < W.heap.size := by obtain ⟨m, hm⟩ := k6; exact DataW.trod_lt m _ _ _ hm
  obtain ⟨fuel6, hf6⟩ := h6
  obtain ⟨a6, len6, cap6, hv6⟩ := okWide_slice Tryz.underlying24 (hval 6 24 v6 rfl rfl)
  obtain ⟨l6, hl6, hcp6, hbk6, hr6, hn6⟩ := open_bytes hv6 hf6
  have k7 := h7
  have lt7 : ∀ x ∈ p7, x.block < W.heap.size := by obtain ⟨m, hm⟩ := k7; exact DataW.trod_lt m _ _ _ hm
  obtain ⟨fuel7, hf7⟩ := h7
  obtain ⟨a7, len7, cap7, hv7⟩ := okWide_slice Tryz.underlying24 (hval 7 24 v7 rfl rfl)
  obtain ⟨l7, hl7, hcp7, hbk7, hr7, hn7⟩ := open_bytes hv7 hf7
  clear hA0
  have hc := counts_core a2 a0 a1 a3 a4 a5 a6 a7 cap3 cap4 cap5 cap6 cap7 l3 l4 l5 l6 l7 W (ecdsaCounts_tb hL) hr3 hr4 hr5 hr6 hr7 (by omega) (by omega) (by omega) (by omega) (by omega) ⟨by omega, by omega⟩ ⟨by omega, by omega⟩
  rw [hl3, ← hv3] at hc
  rw [hl4, ← hv4] at hc
  rw [hl5, ← hv5] at hc
  rw [hl6, ← hv6] at hc
  rw [hl7, ← hv7] at hc
  refine hc.mono fun e W' ⟨he, bel⟩ => ?_
  subst he
  exact ⟨_, rfl, _, _, _, [], _, [], hW', trodAll_mk1 (shut_bool Tryz.underlying4 _), trodAll_mk8 (shut_int Tryz.underlying22 w0) (shut_int Tryz.underlying22 w1) (shut_int Tryz.underlying23 w2) (Below.trod laidO (by kernel_rfl) (of_decide_eq_true (by kernel_rfl)) k3 bel lt3) (Below.trod laidO (by kernel_rfl) (of_decide_eq_true (by kernel_rfl)) k4 bel lt4) (Below.trod laidO (by kernel_rfl) (of_decide_eq_true (by kernel_rfl)) k5 bel lt5) (Below.trod laidO (by kernel_rfl) (of_decide_eq_true (by kernel_rfl)) k6 bel lt6) (Below.trod laidO (by kernel_rfl) (of_decide_eq_true (by kernel_rfl)) k7 bel lt7), rfl, bel.frame _, fun h => by cases h⟩

theorem ecdsaCounts_reads (os : Os) {H : Type} (enc : TypeId × Value → H) : ∃ places, DataW.whole enc Tryz.prog ((World.laidAll Tryz.prog os Rows.ecdsaCountsUptoRow.laid).forCall (fun _ _ => 0) ⟨#[], #[.int .i64 0, .int .i64 0, .int .i64 0, .slice none 0 0, .slice none 0 0, .slice none 0 0, .slice none 0 0, .slice none 0 0], []⟩).memory Tryz.f4.params.toList Rows.ecdsaCountsSpec.vars false (#[.int .i64 0, .int .i64 0, .int .i64 0, .slice none 0 0, .slice none 0 0, .slice none 0 0, .slice none 0 0, .slice none 0 0] : Array Value).toList 8 = some ([.lit (.int .i64 0), .lit (.int .i64 0), .lit (.int .i64 0), .nil, .nil, .nil, .nil, .nil], [], places) :=
  ⟨[], by kernel_rfl⟩

set_option maxRecDepth 100000 in
theorem ecdsaCounts_lifted (os : Os) (started : os.Started) (H : Type) (enc : TypeId × Value → H) (F : Stop.Interp) :
    ReturnsInHanded {} Tryz.checked os 4 .any ((Rows.OpenSpec.upto Rows.ecdsaCountsSpec).preRow enc Tryz.prog Tryz.f4 Rows.ecdsaCountsUptoRow.domain false Rows.ecdsaCountsUptoRow.laid) (((Rows.OpenSpec.upto Rows.ecdsaCountsSpec).at F).post enc Tryz.prog Tryz.f4 false true false false) := by
  obtain ⟨places, hx⟩ := ecdsaCounts_reads os enc
  refine returnsInHanded_of_row (C := Tryz.checked) (s := (Rows.OpenSpec.upto Rows.ecdsaCountsSpec)) ownK started (by kernel_rfl) Tryz.func4
    (witness_row_at (enc := enc) (C := Tryz.checked) false (World.laidAll Tryz.prog os Rows.ecdsaCountsUptoRow.laid) #[.int .i64 0, .int .i64 0, .int .i64 0, .slice none 0 0, .slice none 0 0, .slice none 0 0, .slice none 0 0, .slice none 0 0] (World.laidAll_os _ _ _) (by kernel_rfl) (by kernel_rfl) (by kernel_rfl)
      (OpenSpec.preRow_of_cond 8 hx (by kernel_rfl) (fun k hk => by first | (cases hk; done) | (cases hk; kernel_rfl)) (by kernel_rfl) (laidMet_laidAll _ (by kernel_rfl) (by kernel_rfl)))) ?_
  intro W base args ds gs before hval hW _ hcond _ hL _ _
  exact ecdsaCounts_contract H enc W base args ds gs before hval hW (hcond _ rfl) hL

theorem ecdsaCounts_said : Rows.EcdsaCountsUptoSaid :=
  OpenClaim.holds_of_cond 4 Tryz.f4 rfl rfl rfl rfl rfl rfl rfl ⟨rfl, rfl, rfl, rfl, rfl⟩ rfl rfl rfl rfl rfl (by kernel_rfl) Tryz.func4 (by kernel_rfl)
    (of_decide_eq_true (by kernel_rfl)) (by unfold Func.isWrapper; first | (rw [if_pos (by decide +kernel)]; kernel_rfl) | (rw [if_neg (by decide +kernel)]; exact ⟨rfl, rfl⟩))
    (fun os started H enc _ F => by rw [OpenClaim.pre_eq_preRow]; exact ecdsaCounts_lifted os started H enc F)

theorem ecdsaCounts_plain (f : FuncId) (fn : Func) (hf : Tryz.pinned.checked.prog.funcNamed "signet/signetlaw12.EcdsaCounts" = some f) (hfn : Tryz.pinned.checked.prog.funcs[f]? = some fn) :
    true = Tryz.pinned.checked.prog.looks [] ∧ ∀ (j : Nat) t, fn.params[j]? = some t → Tryz.pinned.checked.prog.wantsStandIn t = false := by
  obtain rfl : f = 4 := Option.some.inj ((show Tryz.prog.funcNamed "signet/signetlaw12.EcdsaCounts" = some 4 by kernel_rfl).symm.trans hf) |>.symm
  obtain rfl : fn = Tryz.f4 := (Option.some.inj (Tryz.func4.symm.trans hfn)).symm
  refine ⟨by kernel_rfl, fun j t ht => ?_⟩
  rw [Tryz.params4] at ht
  have hm : t = 22 ∨ t = 23 ∨ t = 24 := by simpa using Array.mem_of_getElem? ht
  rcases hm with rfl | rfl | rfl
  · exact (show Tryz.prog.wantsStandIn 22 = false by kernel_rfl)
  · exact (show Tryz.prog.wantsStandIn 23 = false by kernel_rfl)
  · exact (show Tryz.prog.wantsStandIn 24 = false by kernel_rfl)

theorem ecdsaCounts_card : Rows.EcdsaCountsUptoCardSaid :=
  Claim7.holds_tied_plain_at .later [] _ _ _ _ ecdsaCounts_said (fun _ h => by cases h) (by kernel_rfl) (fun _ h => by cases h) ecdsaCountsUpto_row_tie rfl ⟨rfl, rfl⟩ (by kernel_rfl) rfl ecdsaCounts_plain (by kernel_rfl)
#print axioms ecdsaCounts_card

end Go.Proofs.YtnifjhmjpbihoaaGreatDoor
