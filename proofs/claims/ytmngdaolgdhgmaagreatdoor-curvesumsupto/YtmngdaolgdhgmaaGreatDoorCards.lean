/-
  DERIVED. GIVEN WITH THE SEED: THE CARDS: each row of YtmngdaolgdhgmaaGreatDoorRows.lean that lists a variable, with what it lists TIED to the program's text (the seventh form; the later family's looks); each row that meets fmt, with fmt's text TOLD by the authors' own Lean function (tested against real Go, not proved from fmt's source: count such statements apart). THE CARD IS WHAT COUNTS. Prove the row's statement (the work); the ties are given (YtmngdaolgdhgmaaGreatDoorTie.lean); close each card by the builder's one call (the guide's Derived/Test/ToyasCard.lean, 'card_holds'). Laid BY PROGRAM, IN A SANDBOX (cutbox-door.mjs). By AI agents, Wed Nov 11 2026. No macro, syntax, notation, axiom, sorry.
-/
import Derived.Test.YtmngdaolgdhgmaaGreatDoorRows
import GoSem.ClaimSeven
namespace Go.Proofs.YtmngdaolgdhgmaaGreatDoor
namespace Rows

/-- THE TIED CARD OF 'signetlaw11.CurveKnows'. -/
def curveKnowsCard : Claim7 := { stood := { row := curveKnowsRow, standIns := [], harness := (true, "5f5766a45c9e4cf7baa9fef9fa3baaf10e19c51cfcb01e0d2f5ffe6b9e849fcc"), looks := true }, kinds := [], alts := [], laidByText := true, laidKinds := [.data, .data, .data, .sentinel, .sentinel], laidTests := true, laidLooks := .later }
def CurveKnowsCardSaid : Prop := Claim7.holds Tryz.pinned (.plain (OpenSpec.ofChange curveKnowsSpec)) curveKnowsCard

/-- THE TIED CARD OF 'signetlaw11.CurveSums'. -/
def curveSumsCard : Claim7 := { stood := { row := curveSumsRow, standIns := [], harness := (true, "5f5766a45c9e4cf7baa9fef9fa3baaf10e19c51cfcb01e0d2f5ffe6b9e849fcc"), looks := true }, kinds := [], alts := [], laidByText := true, laidKinds := [.data, .data, .data, .sentinel, .sentinel], laidTests := true, laidLooks := .later }
def CurveSumsCardSaid : Prop := Claim7.holds Tryz.pinned (.plain (OpenSpec.ofChange curveSumsSpec)) curveSumsCard

/-- THE TIED CARD OF 'signetlaw11.CurveCodes'. -/
def curveCodesCard : Claim7 := { stood := { row := curveCodesRow, standIns := [], harness := (true, "5f5766a45c9e4cf7baa9fef9fa3baaf10e19c51cfcb01e0d2f5ffe6b9e849fcc"), looks := true }, kinds := [], alts := [], laidByText := true, laidKinds := [.data, .data, .data, .sentinel, .sentinel], laidTests := true, laidLooks := .later }
def CurveCodesCardSaid : Prop := Claim7.holds Tryz.pinned (.plain (OpenSpec.ofChange curveCodesSpec)) curveCodesCard

/-- THE TIED CARD OF 'signetlaw11.CurveTimes'. -/
def curveTimesCard : Claim7 := { stood := { row := curveTimesRow, standIns := [], harness := (true, "5f5766a45c9e4cf7baa9fef9fa3baaf10e19c51cfcb01e0d2f5ffe6b9e849fcc"), looks := true }, kinds := [], alts := [], laidByText := true, laidKinds := [.data, .data, .data, .sentinel, .sentinel], laidTests := true, laidLooks := .later }
def CurveTimesCardSaid : Prop := Claim7.holds Tryz.pinned (.plain (OpenSpec.ofChange curveTimesSpec)) curveTimesCard

/-- THE SECOND FORM's CARD OF 'signetlaw11.CurveKnows'. -/
def curveKnowsUptoCard : Claim7 := { stood := { row := curveKnowsUptoRow, standIns := [], harness := (true, "5f5766a45c9e4cf7baa9fef9fa3baaf10e19c51cfcb01e0d2f5ffe6b9e849fcc"), looks := true }, kinds := [], alts := [], laidByText := true, laidKinds := [.data, .data, .data, .sentinel, .sentinel], laidTests := true, laidLooks := .later }
def CurveKnowsUptoCardSaid : Prop := Claim7.holds Tryz.pinned (.plain (OpenSpec.upto curveKnowsSpec)) curveKnowsUptoCard

/-- THE SECOND FORM's CARD OF 'signetlaw11.CurveSums'. -/
def curveSumsUptoCard : Claim7 := { stood := { row := curveSumsUptoRow, standIns := [], harness := (true, "5f5766a45c9e4cf7baa9fef9fa3baaf10e19c51cfcb01e0d2f5ffe6b9e849fcc"), looks := true }, kinds := [], alts := [], laidByText := true, laidKinds := [.data, .data, .data, .sentinel, .sentinel], laidTests := true, laidLooks := .later }
def CurveSumsUptoCardSaid : Prop := Claim7.holds Tryz.pinned (.plain (OpenSpec.upto curveSumsSpec)) curveSumsUptoCard

/-- THE SECOND FORM's CARD OF 'signetlaw11.CurveCodes'. -/
def curveCodesUptoCard : Claim7 := { stood := { row := curveCodesUptoRow, standIns := [], harness := (true, "5f5766a45c9e4cf7baa9fef9fa3baaf10e19c51cfcb01e0d2f5ffe6b9e849fcc"), looks := true }, kinds := [], alts := [], laidByText := true, laidKinds := [.data, .data, .data, .sentinel, .sentinel], laidTests := true, laidLooks := .later }
def CurveCodesUptoCardSaid : Prop := Claim7.holds Tryz.pinned (.plain (OpenSpec.upto curveCodesSpec)) curveCodesUptoCard

/-- THE SECOND FORM's CARD OF 'signetlaw11.CurveTimes'. -/
def curveTimesUptoCard : Claim7 := { stood := { row := curveTimesUptoRow, standIns := [], harness := (true, "5f5766a45c9e4cf7baa9fef9fa3baaf10e19c51cfcb01e0d2f5ffe6b9e849fcc"), looks := true }, kinds := [], alts := [], laidByText := true, laidKinds := [.data, .data, .data, .sentinel, .sentinel], laidTests := true, laidLooks := .later }
def CurveTimesUptoCardSaid : Prop := Claim7.holds Tryz.pinned (.plain (OpenSpec.upto curveTimesSpec)) curveTimesUptoCard
end Rows
end Go.Proofs.YtmngdaolgdhgmaaGreatDoor
