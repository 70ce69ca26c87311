/-
  DERIVED. GIVEN WITH THE SEED: THE CARDS: each row of YtefpjjonmoofpaaDoorRows.lean that lists a variable, with what it lists TIED to the program's text (the seventh form; the later family's looks); each row that meets fmt, with fmt's text TOLD by the authors' own Lean function (tested against real Go, not proved from fmt's source: count such statements apart). THE CARD IS WHAT COUNTS. Prove the row's statement (the work); the ties are given (YtefpjjonmoofpaaDoorTie.lean); close each card by the builder's one call (the guide's Derived/Test/ToyasCard.lean, 'card_holds'). Laid BY PROGRAM, IN A SANDBOX (cutbox-door.mjs). By AI agents, Wed Nov 11 2026. No macro, syntax, notation, axiom, sorry.
-/
import Derived.Test.YtefpjjonmoofpaaDoorRows
import GoSem.ClaimSeven
namespace Go.Proofs.YtefpjjonmoofpaaDoor
namespace Rows

/-- THE TIED CARD OF 'signetlaw9.RsaShape'. -/
def rsaShapeCard : Claim7 := { stood := { row := rsaShapeRow, standIns := [], harness := (true, "7110900adcfb56b1b0b19f194ba8038e75d083c5a2d0699d344e3563b3c15c01"), looks := false }, kinds := [], alts := [], laidByText := true, laidKinds := [.data, .data, .data], laidTests := true, laidLooks := .later }
def RsaShapeCardSaid : Prop := Claim7.holds Tryd.pinned (.plain (OpenSpec.ofChange rsaShapeSpec)) rsaShapeCard

/-- THE TIED CARD OF 'signetlaw9.RsaEncodes'. -/
def rsaEncodesCard : Claim7 := { stood := { row := rsaEncodesRow, standIns := [], harness := (true, "7110900adcfb56b1b0b19f194ba8038e75d083c5a2d0699d344e3563b3c15c01"), looks := false }, kinds := [], alts := [], laidByText := true, laidKinds := [.data, .data, .data, .data, .data, .data, .data, .data], laidTests := true, laidLooks := .later }
def RsaEncodesCardSaid : Prop := Claim7.holds Tryd.pinned (.plain (OpenSpec.ofChange rsaEncodesSpec)) rsaEncodesCard

/-- THE TIED CARD OF 'signetlaw9.RsaEquation'. -/
def rsaEquationCard : Claim7 := { stood := { row := rsaEquationRow, standIns := [], harness := (true, "7110900adcfb56b1b0b19f194ba8038e75d083c5a2d0699d344e3563b3c15c01"), looks := false }, kinds := [], alts := [], laidByText := true, laidKinds := [.data, .data, .data], laidTests := true, laidLooks := .later }
def RsaEquationCardSaid : Prop := Claim7.holds Tryd.pinned (.plain (OpenSpec.ofChange rsaEquationSpec)) rsaEquationCard

/-- THE TIED CARD OF 'signetlaw9.RsaOneSum'. -/
def rsaOneSumCard : Claim7 := { stood := { row := rsaOneSumRow, standIns := [], harness := (true, "7110900adcfb56b1b0b19f194ba8038e75d083c5a2d0699d344e3563b3c15c01"), looks := false }, kinds := [], alts := [], laidByText := true, laidKinds := [.data, .data, .data], laidTests := true, laidLooks := .later }
def RsaOneSumCardSaid : Prop := Claim7.holds Tryd.pinned (.plain (OpenSpec.ofChange rsaOneSumSpec)) rsaOneSumCard

/-- THE TIED CARD OF 'signetlaw9.RsaComplete'. -/
def rsaCompleteCard : Claim7 := { stood := { row := rsaCompleteRow, standIns := [], harness := (true, "7110900adcfb56b1b0b19f194ba8038e75d083c5a2d0699d344e3563b3c15c01"), looks := false }, kinds := [], alts := [], laidByText := true, laidKinds := [.data, .data, .data], laidTests := true, laidLooks := .later }
def RsaCompleteCardSaid : Prop := Claim7.holds Tryd.pinned (.plain (OpenSpec.ofChange rsaCompleteSpec)) rsaCompleteCard

/-- THE TIED CARD OF 'signetlaw9.RsaVerifies'. -/
def rsaVerifiesCard : Claim7 := { stood := { row := rsaVerifiesRow, standIns := [], harness := (true, "7110900adcfb56b1b0b19f194ba8038e75d083c5a2d0699d344e3563b3c15c01"), looks := false }, kinds := [], alts := [], laidByText := true, laidKinds := [.data, .data, .data, .data, .data, .data, .data, .data], laidTests := true, laidLooks := .later }
def RsaVerifiesCardSaid : Prop := Claim7.holds Tryd.pinned (.plain (OpenSpec.ofChange rsaVerifiesSpec)) rsaVerifiesCard

/-- THE SECOND FORM's CARD OF 'signetlaw9.RsaShape'. -/
def rsaShapeUptoCard : Claim7 := { stood := { row := rsaShapeUptoRow, standIns := [], harness := (true, "7110900adcfb56b1b0b19f194ba8038e75d083c5a2d0699d344e3563b3c15c01"), looks := false }, kinds := [], alts := [], laidByText := true, laidKinds := [.data, .data, .data], laidTests := true, laidLooks := .later }
def RsaShapeUptoCardSaid : Prop := Claim7.holds Tryd.pinned (.plain (OpenSpec.upto rsaShapeSpec)) rsaShapeUptoCard

/-- THE SECOND FORM's CARD OF 'signetlaw9.RsaEncodes'. -/
def rsaEncodesUptoCard : Claim7 := { stood := { row := rsaEncodesUptoRow, standIns := [], harness := (true, "7110900adcfb56b1b0b19f194ba8038e75d083c5a2d0699d344e3563b3c15c01"), looks := false }, kinds := [], alts := [], laidByText := true, laidKinds := [.data, .data, .data, .data, .data, .data, .data, .data], laidTests := true, laidLooks := .later }
def RsaEncodesUptoCardSaid : Prop := Claim7.holds Tryd.pinned (.plain (OpenSpec.upto rsaEncodesSpec)) rsaEncodesUptoCard

/-- THE SECOND FORM's CARD OF 'signetlaw9.RsaEquation'. -/
def rsaEquationUptoCard : Claim7 := { stood := { row := rsaEquationUptoRow, standIns := [], harness := (true, "7110900adcfb56b1b0b19f194ba8038e75d083c5a2d0699d344e3563b3c15c01"), looks := false }, kinds := [], alts := [], laidByText := true, laidKinds := [.data, .data, .data], laidTests := true, laidLooks := .later }
def RsaEquationUptoCardSaid : Prop := Claim7.holds Tryd.pinned (.plain (OpenSpec.upto rsaEquationSpec)) rsaEquationUptoCard

/-- THE SECOND FORM's CARD OF 'signetlaw9.RsaOneSum'. -/
def rsaOneSumUptoCard : Claim7 := { stood := { row := rsaOneSumUptoRow, standIns := [], harness := (true, "7110900adcfb56b1b0b19f194ba8038e75d083c5a2d0699d344e3563b3c15c01"), looks := false }, kinds := [], alts := [], laidByText := true, laidKinds := [.data, .data, .data], laidTests := true, laidLooks := .later }
def RsaOneSumUptoCardSaid : Prop := Claim7.holds Tryd.pinned (.plain (OpenSpec.upto rsaOneSumSpec)) rsaOneSumUptoCard

/-- THE SECOND FORM's CARD OF 'signetlaw9.RsaComplete'. -/
def rsaCompleteUptoCard : Claim7 := { stood := { row := rsaCompleteUptoRow, standIns := [], harness := (true, "7110900adcfb56b1b0b19f194ba8038e75d083c5a2d0699d344e3563b3c15c01"), looks := false }, kinds := [], alts := [], laidByText := true, laidKinds := [.data, .data, .data], laidTests := true, laidLooks := .later }
def RsaCompleteUptoCardSaid : Prop := Claim7.holds Tryd.pinned (.plain (OpenSpec.upto rsaCompleteSpec)) rsaCompleteUptoCard

/-- THE SECOND FORM's CARD OF 'signetlaw9.RsaVerifies'. -/
def rsaVerifiesUptoCard : Claim7 := { stood := { row := rsaVerifiesUptoRow, standIns := [], harness := (true, "7110900adcfb56b1b0b19f194ba8038e75d083c5a2d0699d344e3563b3c15c01"), looks := false }, kinds := [], alts := [], laidByText := true, laidKinds := [.data, .data, .data, .data, .data, .data, .data, .data], laidTests := true, laidLooks := .later }
def RsaVerifiesUptoCardSaid : Prop := Claim7.holds Tryd.pinned (.plain (OpenSpec.upto rsaVerifiesSpec)) rsaVerifiesUptoCard
end Rows
end Go.Proofs.YtefpjjonmoofpaaDoor
