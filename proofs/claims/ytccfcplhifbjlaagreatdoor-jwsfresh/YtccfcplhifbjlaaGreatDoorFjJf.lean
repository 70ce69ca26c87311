import Derived.Test.YtccfcplhifbjlaaGreatDoorJof
namespace Go.Proofs.YtccfcplhifbjlaaGreatDoor
open Go.ChangeShapes Go.WideShapes Go.ChangeAt Go.RowKit
set_option maxRecDepth 100000
theorem jwsFresh_j1 : (Rows.jwsFreshRow.wf (OpenSpec.ofChange (OpenSpec.ofChange Rows.jwsFreshSpec).bare) && laidOutB Tryz.prog && mapsRowed Tryz.prog && Tryz.f8.params.all (Tryz.prog.readableRec ·) && namedTie Tryz.prog Rows.jwsFreshRow.named (OpenSpec.ofChange Rows.jwsFreshSpec).bare.vars && (Rows.jwsFreshRow.stops == []) && (Tryz.prog.stops == []) && (Rows.jwsFreshRow.knobs == []) && (Tryz.prog.stopKnobs == [])) = true := by kernel_rfl
theorem jwsFresh_j2 : (Rows.jwsFreshRow.inPlace == Tryz.prog.inPlace 8) = true := by kernel_rfl
theorem jwsFresh_j3 : (Rows.jwsFreshRow.unfollowed == Tryz.prog.unfollowed 8) = true := by kernel_rfl
theorem jwsFresh_j4 : (Rows.jwsFreshRow.recurses == Tryz.prog.recurses 8) = true := by kernel_rfl
theorem jwsFresh_j5 : (Rows.jwsFreshRow.named == Tryz.prog.varsNamed 8) = true := by kernel_rfl
theorem jwsFresh_j6 : ((Rows.jwsFreshRow.maps == (Tryz.f8.params.toList ++ (OpenSpec.ofChange Rows.jwsFreshSpec).bare.plain.varTypes Tryz.prog).any (Tryz.prog.mapsRec ·)) && (Rows.jwsFreshRow.ifaces == (Tryz.f8.params.toList ++ (OpenSpec.ofChange Rows.jwsFreshSpec).bare.plain.varTypes Tryz.prog).any (Tryz.prog.ifacesRec ·)) && (Rows.jwsFreshRow.mapsOut == Tryz.prog.mapsAmong Tryz.f8.resultTypes.toList) && (Rows.jwsFreshRow.loops == (Tryz.f8.params.toList ++ (OpenSpec.ofChange Rows.jwsFreshSpec).bare.plain.varTypes Tryz.prog).any (Tryz.prog.loopsFrom ·)) && (Rows.jwsFreshRow.wideKeys == (Tryz.f8.params.toList ++ (OpenSpec.ofChange Rows.jwsFreshSpec).bare.plain.varTypes Tryz.prog ++ Tryz.f8.resultTypes.toList).any (Tryz.prog.wideKeysFrom ·)) &&
      (OpenSpec.ofChange Rows.jwsFreshSpec).bare.vars.all (Tryz.prog.varReadable ·) && Tryz.f8.resultTypes.all (fun t => Tryz.prog.readableRec t && decide (t < Tryz.prog.types.size)) && (Rows.jwsFreshRow.ifacesOut == Tryz.f8.resultTypes.toList.any (Tryz.prog.ifacesRec ·)) && (Rows.jwsFreshRow.loopsOut == Tryz.f8.resultTypes.toList.any (Tryz.prog.loopsFrom ·)) && (Rows.jwsFreshRow.plainKeys == Tryz.prog.plainKeys) && Rows.jwsFreshRow.shortTexts.isNone && Tryz.prog.stopsHeard) = true := by kernel_rfl
theorem jwsFresh_j7 : Tryz.prog.mayEnter = true := by kernel_rfl
theorem jwsFresh_j8 : (Rows.jwsFreshRow.lifted == Tryz.prog.liftsFinal) = true := by kernel_rfl
theorem jwsFresh_j9 : (Tryz.prog.make == some Rows.jwsFreshRow.make) = true := by kernel_rfl
theorem jwsFresh_ja : ((Rows.jwsFreshRow.kinds == (if Rows.jwsFreshRow.domain.isEmpty then [] else Tryz.f8.params.toList.map fun t => match Tryz.prog.underlying t with | some (.int k) => some k | _ => none)) && (Rows.jwsFreshRow.pinned == Rows.jwsFreshRow.pinnedBy) &&
      (Rows.jwsFreshRow.veiled == (Tryz.f8.params.toList ++ (OpenSpec.ofChange Rows.jwsFreshSpec).bare.plain.varTypes Tryz.prog ++ Tryz.f8.resultTypes.toList).any (Tryz.prog.veiledRec ·)) && Rows.jwsFreshRow.veiledFits Tryz.prog Tryz.f8.params.toList (Tryz.f8.params.toList ++ (OpenSpec.ofChange Rows.jwsFreshSpec).bare.plain.varTypes Tryz.prog ++ Tryz.f8.resultTypes.toList)) = true := by kernel_rfl
theorem jwsFresh_closed : joinedFacts Tryz.prog 8 Tryz.f8 (OpenSpec.ofChange Rows.jwsFreshSpec).bare Rows.jwsFreshRow = true := joined_of jwsFresh_j1 jwsFresh_j2 jwsFresh_j3 jwsFresh_j4 jwsFresh_j5 jwsFresh_j6 jwsFresh_j7 jwsFresh_j8 jwsFresh_j9 jwsFresh_ja

end Go.Proofs.YtccfcplhifbjlaaGreatDoor
