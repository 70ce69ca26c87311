/-
  DERIVED. GIVEN WITH THE SEED: THE CARDS: each row of YtnifjhmjpbihoaaDoorRows.lean that lists a variable, with what it lists TIED to the program's text (the seventh form; the later family's looks); each row that meets fmt, with fmt's text TOLD by the authors' own Lean function (tested against real Go, not proved from fmt's source: count such statements apart). THE CARD IS WHAT COUNTS. Prove the row's statement (the work); the ties are given (YtnifjhmjpbihoaaDoorTie.lean); close each card by the builder's one call (the guide's Derived/Test/ToyasCard.lean, 'card_holds'). Laid BY PROGRAM, IN A SANDBOX (cutbox-door.mjs). By AI agents, Wed Nov 11 2026. No macro, syntax, notation, axiom, sorry.
-/
import Derived.Test.YtnifjhmjpbihoaaDoorRows
import GoSem.ClaimSeven
namespace Go.Proofs.YtnifjhmjpbihoaaDoor
namespace Rows

/-- THE TIED CARD OF 'signetlaw11.CurveMultiples'. -/
def curveMultiplesCard : Claim7 := { stood := { row := curveMultiplesRow, standIns := [], harness := (true, "1b05242abbff12820caed048fb70bf59327fd0013afa8e658b2de867b1209db8"), looks := true }, kinds := [], alts := [], laidByText := true, laidKinds := [.data, .data, .data, .sentinel, .sentinel], laidTests := true, laidLooks := .later }
def CurveMultiplesCardSaid : Prop := Claim7.holds Tryd.pinned (.plain (OpenSpec.ofChange curveMultiplesSpec)) curveMultiplesCard

/-- THE SECOND FORM's CARD OF 'signetlaw11.CurveMultiples'. -/
def curveMultiplesUptoCard : Claim7 := { stood := { row := curveMultiplesUptoRow, standIns := [], harness := (true, "1b05242abbff12820caed048fb70bf59327fd0013afa8e658b2de867b1209db8"), looks := true }, kinds := [], alts := [], laidByText := true, laidKinds := [.data, .data, .data, .sentinel, .sentinel], laidTests := true, laidLooks := .later }
def CurveMultiplesUptoCardSaid : Prop := Claim7.holds Tryd.pinned (.plain (OpenSpec.upto curveMultiplesSpec)) curveMultiplesUptoCard
end Rows
end Go.Proofs.YtnifjhmjpbihoaaDoor
