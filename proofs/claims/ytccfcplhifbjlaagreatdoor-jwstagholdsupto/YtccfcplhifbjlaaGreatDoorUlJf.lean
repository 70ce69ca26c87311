import Derived.Test.YtccfcplhifbjlaaGreatDoorJof
namespace Go.Proofs.YtccfcplhifbjlaaGreatDoor
open Go.ChangeShapes Go.WideShapes Go.ChangeAt Go.RowKit
set_option maxRecDepth 100000
theorem jwsTagHolds_j1 : (Rows.jwsTagHoldsUptoRow.wf (OpenSpec.ofChange (Rows.OpenSpec.upto Rows.jwsTagHoldsSpec).bare) && laidOutB Tryz.prog && mapsRowed Tryz.prog && Tryz.f7.params.all (Tryz.prog.readableRec ·) && namedTie Tryz.prog Rows.jwsTagHoldsUptoRow.named (Rows.OpenSpec.upto Rows.jwsTagHoldsSpec).bare.vars && (Rows.jwsTagHoldsUptoRow.stops == []) && (Tryz.prog.stops == []) && (Rows.jwsTagHoldsUptoRow.knobs == []) && (Tryz.prog.stopKnobs == [])) = true := by kernel_rfl
theorem jwsTagHolds_j2 : (Rows.jwsTagHoldsUptoRow.inPlace == Tryz.prog.inPlace 7) = true := by kernel_rfl
theorem jwsTagHolds_j3 : (Rows.jwsTagHoldsUptoRow.unfollowed == Tryz.prog.unfollowed 7) = true := by kernel_rfl
theorem jwsTagHolds_j4 : (Rows.jwsTagHoldsUptoRow.recurses == Tryz.prog.recurses 7) = true := by kernel_rfl
theorem jwsTagHolds_j5 : (Rows.jwsTagHoldsUptoRow.named == Tryz.prog.varsNamed 7) = true := by kernel_rfl
theorem jwsTagHolds_j6 : ((Rows.jwsTagHoldsUptoRow.maps == (Tryz.f7.params.toList ++ (Rows.OpenSpec.upto Rows.jwsTagHoldsSpec).bare.plain.varTypes Tryz.prog).any (Tryz.prog.mapsRec ·)) && (Rows.jwsTagHoldsUptoRow.ifaces == (Tryz.f7.params.toList ++ (Rows.OpenSpec.upto Rows.jwsTagHoldsSpec).bare.plain.varTypes Tryz.prog).any (Tryz.prog.ifacesRec ·)) && (Rows.jwsTagHoldsUptoRow.mapsOut == Tryz.prog.mapsAmong Tryz.f7.resultTypes.toList) && (Rows.jwsTagHoldsUptoRow.loops == (Tryz.f7.params.toList ++ (Rows.OpenSpec.upto Rows.jwsTagHoldsSpec).bare.plain.varTypes Tryz.prog).any (Tryz.prog.loopsFrom ·)) && (Rows.jwsTagHoldsUptoRow.wideKeys == (Tryz.f7.params.toList ++ (Rows.OpenSpec.upto Rows.jwsTagHoldsSpec).bare.plain.varTypes Tryz.prog ++ Tryz.f7.resultTypes.toList).any (Tryz.prog.wideKeysFrom ·)) &&
      (Rows.OpenSpec.upto Rows.jwsTagHoldsSpec).bare.vars.all (Tryz.prog.varReadable ·) && Tryz.f7.resultTypes.all (fun t => Tryz.prog.readableRec t && decide (t < Tryz.prog.types.size)) && (Rows.jwsTagHoldsUptoRow.ifacesOut == Tryz.f7.resultTypes.toList.any (Tryz.prog.ifacesRec ·)) && (Rows.jwsTagHoldsUptoRow.loopsOut == Tryz.f7.resultTypes.toList.any (Tryz.prog.loopsFrom ·)) && (Rows.jwsTagHoldsUptoRow.plainKeys == Tryz.prog.plainKeys) && Rows.jwsTagHoldsUptoRow.shortTexts.isNone && Tryz.prog.stopsHeard) = true := by kernel_rfl
theorem jwsTagHolds_j7 : Tryz.prog.mayEnter = true := by kernel_rfl
theorem jwsTagHolds_j8 : (Rows.jwsTagHoldsUptoRow.lifted == Tryz.prog.liftsFinal) = true := by kernel_rfl
theorem jwsTagHolds_j9 : (Tryz.prog.make == some Rows.jwsTagHoldsUptoRow.make) = true := by kernel_rfl
theorem jwsTagHolds_ja : ((Rows.jwsTagHoldsUptoRow.kinds == (if Rows.jwsTagHoldsUptoRow.domain.isEmpty then [] else Tryz.f7.params.toList.map fun t => match Tryz.prog.underlying t with | some (.int k) => some k | _ => none)) && (Rows.jwsTagHoldsUptoRow.pinned == Rows.jwsTagHoldsUptoRow.pinnedBy) &&
      (Rows.jwsTagHoldsUptoRow.veiled == (Tryz.f7.params.toList ++ (Rows.OpenSpec.upto Rows.jwsTagHoldsSpec).bare.plain.varTypes Tryz.prog ++ Tryz.f7.resultTypes.toList).any (Tryz.prog.veiledRec ·)) && Rows.jwsTagHoldsUptoRow.veiledFits Tryz.prog Tryz.f7.params.toList (Tryz.f7.params.toList ++ (Rows.OpenSpec.upto Rows.jwsTagHoldsSpec).bare.plain.varTypes Tryz.prog ++ Tryz.f7.resultTypes.toList)) = true := by kernel_rfl
theorem jwsTagHolds_closed : joinedFacts Tryz.prog 7 Tryz.f7 (Rows.OpenSpec.upto Rows.jwsTagHoldsSpec).bare Rows.jwsTagHoldsUptoRow = true := joined_of jwsTagHolds_j1 jwsTagHolds_j2 jwsTagHolds_j3 jwsTagHolds_j4 jwsTagHolds_j5 jwsTagHolds_j6 jwsTagHolds_j7 jwsTagHolds_j8 jwsTagHolds_j9 jwsTagHolds_ja

end Go.Proofs.YtccfcplhifbjlaaGreatDoor
