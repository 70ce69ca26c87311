import Derived.Test.YtccfcplhifbjlaaGreatDoorJof
namespace Go.Proofs.YtccfcplhifbjlaaGreatDoor
open Go.ChangeShapes Go.WideShapes Go.ChangeAt Go.RowKit
set_option maxRecDepth 100000
theorem jwsSplits_j1 : (Rows.jwsSplitsRow.wf (OpenSpec.ofChange (OpenSpec.ofChange Rows.jwsSplitsSpec).bare) && laidOutB Tryz.prog && mapsRowed Tryz.prog && Tryz.f3.params.all (Tryz.prog.readableRec ·) && namedTie Tryz.prog Rows.jwsSplitsRow.named (OpenSpec.ofChange Rows.jwsSplitsSpec).bare.vars && (Rows.jwsSplitsRow.stops == []) && (Tryz.prog.stops == []) && (Rows.jwsSplitsRow.knobs == []) && (Tryz.prog.stopKnobs == [])) = true := by kernel_rfl
theorem jwsSplits_j2 : (Rows.jwsSplitsRow.inPlace == Tryz.prog.inPlace 3) = true := by kernel_rfl
theorem jwsSplits_j3 : (Rows.jwsSplitsRow.unfollowed == Tryz.prog.unfollowed 3) = true := by kernel_rfl
theorem jwsSplits_j4 : (Rows.jwsSplitsRow.recurses == Tryz.prog.recurses 3) = true := by kernel_rfl
theorem jwsSplits_j5 : (Rows.jwsSplitsRow.named == Tryz.prog.varsNamed 3) = true := by kernel_rfl
theorem jwsSplits_j6 : ((Rows.jwsSplitsRow.maps == (Tryz.f3.params.toList ++ (OpenSpec.ofChange Rows.jwsSplitsSpec).bare.plain.varTypes Tryz.prog).any (Tryz.prog.mapsRec ·)) && (Rows.jwsSplitsRow.ifaces == (Tryz.f3.params.toList ++ (OpenSpec.ofChange Rows.jwsSplitsSpec).bare.plain.varTypes Tryz.prog).any (Tryz.prog.ifacesRec ·)) && (Rows.jwsSplitsRow.mapsOut == Tryz.prog.mapsAmong Tryz.f3.resultTypes.toList) && (Rows.jwsSplitsRow.loops == (Tryz.f3.params.toList ++ (OpenSpec.ofChange Rows.jwsSplitsSpec).bare.plain.varTypes Tryz.prog).any (Tryz.prog.loopsFrom ·)) && (Rows.jwsSplitsRow.wideKeys == (Tryz.f3.params.toList ++ (OpenSpec.ofChange Rows.jwsSplitsSpec).bare.plain.varTypes Tryz.prog ++ Tryz.f3.resultTypes.toList).any (Tryz.prog.wideKeysFrom ·)) &&
      (OpenSpec.ofChange Rows.jwsSplitsSpec).bare.vars.all (Tryz.prog.varReadable ·) && Tryz.f3.resultTypes.all (fun t => Tryz.prog.readableRec t && decide (t < Tryz.prog.types.size)) && (Rows.jwsSplitsRow.ifacesOut == Tryz.f3.resultTypes.toList.any (Tryz.prog.ifacesRec ·)) && (Rows.jwsSplitsRow.loopsOut == Tryz.f3.resultTypes.toList.any (Tryz.prog.loopsFrom ·)) && (Rows.jwsSplitsRow.plainKeys == Tryz.prog.plainKeys) && Rows.jwsSplitsRow.shortTexts.isNone && Tryz.prog.stopsHeard) = true := by kernel_rfl
theorem jwsSplits_j7 : Tryz.prog.mayEnter = true := by kernel_rfl
theorem jwsSplits_j8 : (Rows.jwsSplitsRow.lifted == Tryz.prog.liftsFinal) = true := by kernel_rfl
theorem jwsSplits_j9 : (Tryz.prog.make == some Rows.jwsSplitsRow.make) = true := by kernel_rfl
theorem jwsSplits_ja : ((Rows.jwsSplitsRow.kinds == (if Rows.jwsSplitsRow.domain.isEmpty then [] else Tryz.f3.params.toList.map fun t => match Tryz.prog.underlying t with | some (.int k) => some k | _ => none)) && (Rows.jwsSplitsRow.pinned == Rows.jwsSplitsRow.pinnedBy) &&
      (Rows.jwsSplitsRow.veiled == (Tryz.f3.params.toList ++ (OpenSpec.ofChange Rows.jwsSplitsSpec).bare.plain.varTypes Tryz.prog ++ Tryz.f3.resultTypes.toList).any (Tryz.prog.veiledRec ·)) && Rows.jwsSplitsRow.veiledFits Tryz.prog Tryz.f3.params.toList (Tryz.f3.params.toList ++ (OpenSpec.ofChange Rows.jwsSplitsSpec).bare.plain.varTypes Tryz.prog ++ Tryz.f3.resultTypes.toList)) = true := by kernel_rfl
theorem jwsSplits_closed : joinedFacts Tryz.prog 3 Tryz.f3 (OpenSpec.ofChange Rows.jwsSplitsSpec).bare Rows.jwsSplitsRow = true := joined_of jwsSplits_j1 jwsSplits_j2 jwsSplits_j3 jwsSplits_j4 jwsSplits_j5 jwsSplits_j6 jwsSplits_j7 jwsSplits_j8 jwsSplits_j9 jwsSplits_ja

end Go.Proofs.YtccfcplhifbjlaaGreatDoor
