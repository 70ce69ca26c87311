/-
  DERIVED. GIVEN WITH THE SEED: THE CARDS: each row of YtpbjamhalkahmaaGreatDoorRows.lean that lists a variable, with what it lists TIED to the program's text (the seventh form; the later family's looks); each row that meets fmt, with fmt's text TOLD by the authors' own Lean function (tested against real Go, not proved from fmt's source: count such statements apart). THE CARD IS WHAT COUNTS. Prove the row's statement (the work); the ties are given (YtpbjamhalkahmaaGreatDoorTie.lean); close each card by the builder's one call (the guide's Derived/Test/ToyasCard.lean, 'card_holds'). Laid BY PROGRAM, IN A SANDBOX (cutbox-door.mjs). By AI agents, Wed Nov 11 2026. No macro, syntax, notation, axiom, sorry.
-/
import Derived.Test.YtpbjamhalkahmaaGreatDoorRows
import GoSem.ClaimSeven
namespace Go.Proofs.YtpbjamhalkahmaaGreatDoor
namespace Rows

/-- THE TIED CARD OF 'signetlaw19.ClaimsWritten'. -/
def claimsWrittenCard : Claim7 := { stood := { row := claimsWrittenRow, standIns := [], harness := (true, "c40a4fc98e6510707d92f0d3dbb391970f049fe71e62ac56c4db965a86b2a5e5"), looks := true }, kinds := [], alts := [], laidByText := true, laidKinds := [.data, .data, .data, .data, .sentinel, .sentinel, .pinned], laidTests := true, laidLooks := .later }
def ClaimsWrittenCardSaid : Prop := Claim7.holds Tryz.pinned (.plain (OpenSpec.ofChange claimsWrittenSpec)) claimsWrittenCard

/-- THE SECOND FORM's CARD OF 'signetlaw19.ClaimsWritten'. -/
def claimsWrittenUptoCard : Claim7 := { stood := { row := claimsWrittenUptoRow, standIns := [], harness := (true, "c40a4fc98e6510707d92f0d3dbb391970f049fe71e62ac56c4db965a86b2a5e5"), looks := true }, kinds := [], alts := [], laidByText := true, laidKinds := [.data, .data, .data, .data, .sentinel, .sentinel, .pinned], laidTests := true, laidLooks := .later }
def ClaimsWrittenUptoCardSaid : Prop := Claim7.holds Tryz.pinned (.plain (OpenSpec.upto claimsWrittenSpec)) claimsWrittenUptoCard
end Rows
end Go.Proofs.YtpbjamhalkahmaaGreatDoor
