/-
  DERIVED. GIVEN WITH THE SEED: THE PROGRAM's TIES (one call each: nine closed facts by the kernel) AND EACH ROW's TIE, after the 31st guide's Derived/Test/Toyas{Tie, Card}.lean. No idea stands in it: it is a product of the set-up. Laid BY PROGRAM, IN A SANDBOX (cutbox-door.mjs). By AI agents, Wed Nov 11 2026. No macro, syntax, notation, axiom, sorry.
-/
import Derived.Test.YtjpjepfmphlneaaGreatDoorRows
import Derived.LaidByTextLater
import Derived.SevenTiedAt
import Derived.LaidSub
import Derived.LaidOnce
namespace Go.Proofs.YtjpjepfmphlneaaGreatDoor
open Go
set_option maxRecDepth 100000
theorem seatTie1 : Tryz.prog.laidByTextLater [("signet/sha.squareRoots", Rows.laid_signet_sha_squareRoots), ("signet/sha.cubeRoots", Rows.laid_signet_sha_cubeRoots), ("signet/ed.prime", Rows.laid_signet_ed_prime), ("signet/ed.order", Rows.laid_signet_ed_order), ("signet/ed.curveD", Rows.laid_signet_ed_curveD), ("signet/ed.minusOneRoot", Rows.laid_signet_ed_minusOneRoot), ("signet/ed.baseX", Rows.laid_signet_ed_baseX), ("signet/ed.baseY", Rows.laid_signet_ed_baseY)] [.data, .data, .data, .data, .data, .data, .data, .data] true :=
  Program.laidByTextLater_by_one 74 8 81 (by kernel_rfl) (by kernel_rfl) (by kernel_rfl) (by kernel_rfl) (by kernel_rfl) (by kernel_rfl) (fun _ _ => by kernel_rfl)
theorem seatTie2 : Tryz.prog.laidByTextLater [("signet/sha.squareRoots", Rows.laid_signet_sha_squareRoots), ("signet/sha.cubeRoots", Rows.laid_signet_sha_cubeRoots), ("signet/signetref4.k256", Rows.laid_signet_signetref4_k256), ("signet/signetref4.k512", Rows.laid_signet_signetref4_k512), ("signet/signetref4.start256", Rows.laid_signet_signetref4_start256), ("signet/signetref4.start384", Rows.laid_signet_signetref4_start384), ("signet/signetref4.start512", Rows.laid_signet_signetref4_start512), ("signet/ed.prime", Rows.laid_signet_ed_prime), ("signet/ed.order", Rows.laid_signet_ed_order), ("signet/ed.curveD", Rows.laid_signet_ed_curveD), ("signet/ed.minusOneRoot", Rows.laid_signet_ed_minusOneRoot), ("signet/ed.baseX", Rows.laid_signet_ed_baseX), ("signet/ed.baseY", Rows.laid_signet_ed_baseY)] [.data, .data, .data, .data, .data, .data, .data, .data, .data, .data, .data, .data, .data] true :=
  Program.laidByTextLater_by_one 74 8 81 (by kernel_rfl) (by kernel_rfl) (by kernel_rfl) (by kernel_rfl) (by kernel_rfl) (by kernel_rfl) (fun _ _ => by kernel_rfl)
theorem noOwnUnsafe : Tryz.pinned.checked.prog.headLifts.contains "ownunsafe" = false := by kernel_rfl
theorem tie : Tryz.prog.laidByTextLater [("signet/sha.squareRoots", Rows.laid_signet_sha_squareRoots), ("signet/sha.cubeRoots", Rows.laid_signet_sha_cubeRoots), ("signet/ed.prime", Rows.laid_signet_ed_prime), ("signet/ed.order", Rows.laid_signet_ed_order), ("signet/ed.curveD", Rows.laid_signet_ed_curveD), ("signet/ed.minusOneRoot", Rows.laid_signet_ed_minusOneRoot), ("signet/ed.baseX", Rows.laid_signet_ed_baseX), ("signet/ed.baseY", Rows.laid_signet_ed_baseY)] [.data, .data, .data, .data, .data, .data, .data, .data] true :=
  Program.laidByTextLater.sub seatTie1 ["signet/sha.squareRoots", "signet/sha.cubeRoots", "signet/ed.prime", "signet/ed.order", "signet/ed.curveD", "signet/ed.minusOneRoot", "signet/ed.baseX", "signet/ed.baseY"] (by kernel_rfl) (by kernel_rfl)
theorem edOne_row_tie : Rows.edOneRow.laidByTextAt .later Tryz.pinned [.data, .data, .data, .data, .data, .data, .data, .data] true :=
  OpenClaim.laidByTextAt_later rfl rfl tie noOwnUnsafe
theorem edGroup_row_tie : Rows.edGroupRow.laidByTextAt .later Tryz.pinned [.data, .data, .data, .data, .data, .data, .data, .data] true :=
  OpenClaim.laidByTextAt_later rfl rfl tie noOwnUnsafe
theorem edMuls_row_tie : Rows.edMulsRow.laidByTextAt .later Tryz.pinned [.data, .data, .data, .data, .data, .data, .data, .data] true :=
  OpenClaim.laidByTextAt_later rfl rfl tie noOwnUnsafe
theorem edBack_row_tie : Rows.edBackRow.laidByTextAt .later Tryz.pinned [.data, .data, .data, .data, .data, .data, .data, .data] true :=
  OpenClaim.laidByTextAt_later rfl rfl tie noOwnUnsafe
theorem edComplete_row_tie : Rows.edCompleteRow.laidByTextAt .later Tryz.pinned [.data, .data, .data, .data, .data, .data, .data, .data] true :=
  OpenClaim.laidByTextAt_later rfl rfl tie noOwnUnsafe
theorem edSpares_row_tie : Rows.edSparesRow.laidByTextAt .later Tryz.pinned [.data, .data, .data, .data, .data, .data, .data, .data] true :=
  OpenClaim.laidByTextAt_later rfl rfl tie noOwnUnsafe
theorem edJust_row_tie : Rows.edJustRow.laidByTextAt .later Tryz.pinned [.data, .data, .data, .data, .data, .data, .data, .data] true :=
  OpenClaim.laidByTextAt_later rfl rfl tie noOwnUnsafe
theorem tie2 : Tryz.prog.laidByTextLater [("signet/sha.squareRoots", Rows.laid_signet_sha_squareRoots), ("signet/sha.cubeRoots", Rows.laid_signet_sha_cubeRoots), ("signet/signetref4.k256", Rows.laid_signet_signetref4_k256), ("signet/signetref4.k512", Rows.laid_signet_signetref4_k512), ("signet/signetref4.start256", Rows.laid_signet_signetref4_start256), ("signet/signetref4.start384", Rows.laid_signet_signetref4_start384), ("signet/signetref4.start512", Rows.laid_signet_signetref4_start512), ("signet/ed.prime", Rows.laid_signet_ed_prime), ("signet/ed.order", Rows.laid_signet_ed_order), ("signet/ed.curveD", Rows.laid_signet_ed_curveD), ("signet/ed.minusOneRoot", Rows.laid_signet_ed_minusOneRoot), ("signet/ed.baseX", Rows.laid_signet_ed_baseX), ("signet/ed.baseY", Rows.laid_signet_ed_baseY)] [.data, .data, .data, .data, .data, .data, .data, .data, .data, .data, .data, .data, .data] true :=
  Program.laidByTextLater.sub seatTie2 ["signet/sha.squareRoots", "signet/sha.cubeRoots", "signet/signetref4.k256", "signet/signetref4.k512", "signet/signetref4.start256", "signet/signetref4.start384", "signet/signetref4.start512", "signet/ed.prime", "signet/ed.order", "signet/ed.curveD", "signet/ed.minusOneRoot", "signet/ed.baseX", "signet/ed.baseY"] (by kernel_rfl) (by kernel_rfl)
theorem edVerifies_row_tie : Rows.edVerifiesRow.laidByTextAt .later Tryz.pinned [.data, .data, .data, .data, .data, .data, .data, .data, .data, .data, .data, .data, .data] true :=
  OpenClaim.laidByTextAt_later rfl rfl tie2 noOwnUnsafe
theorem edOneUpto_row_tie : Rows.edOneUptoRow.laidByTextAt .later Tryz.pinned [.data, .data, .data, .data, .data, .data, .data, .data] true :=
  OpenClaim.laidByTextAt_later rfl rfl tie noOwnUnsafe
theorem edGroupUpto_row_tie : Rows.edGroupUptoRow.laidByTextAt .later Tryz.pinned [.data, .data, .data, .data, .data, .data, .data, .data] true :=
  OpenClaim.laidByTextAt_later rfl rfl tie noOwnUnsafe
theorem edMulsUpto_row_tie : Rows.edMulsUptoRow.laidByTextAt .later Tryz.pinned [.data, .data, .data, .data, .data, .data, .data, .data] true :=
  OpenClaim.laidByTextAt_later rfl rfl tie noOwnUnsafe
theorem edBackUpto_row_tie : Rows.edBackUptoRow.laidByTextAt .later Tryz.pinned [.data, .data, .data, .data, .data, .data, .data, .data] true :=
  OpenClaim.laidByTextAt_later rfl rfl tie noOwnUnsafe
theorem edCompleteUpto_row_tie : Rows.edCompleteUptoRow.laidByTextAt .later Tryz.pinned [.data, .data, .data, .data, .data, .data, .data, .data] true :=
  OpenClaim.laidByTextAt_later rfl rfl tie noOwnUnsafe
theorem edSparesUpto_row_tie : Rows.edSparesUptoRow.laidByTextAt .later Tryz.pinned [.data, .data, .data, .data, .data, .data, .data, .data] true :=
  OpenClaim.laidByTextAt_later rfl rfl tie noOwnUnsafe
theorem edJustUpto_row_tie : Rows.edJustUptoRow.laidByTextAt .later Tryz.pinned [.data, .data, .data, .data, .data, .data, .data, .data] true :=
  OpenClaim.laidByTextAt_later rfl rfl tie noOwnUnsafe
theorem edVerifiesUpto_row_tie : Rows.edVerifiesUptoRow.laidByTextAt .later Tryz.pinned [.data, .data, .data, .data, .data, .data, .data, .data, .data, .data, .data, .data, .data] true :=
  OpenClaim.laidByTextAt_later rfl rfl tie2 noOwnUnsafe
end Go.Proofs.YtjpjepfmphlneaaGreatDoor
