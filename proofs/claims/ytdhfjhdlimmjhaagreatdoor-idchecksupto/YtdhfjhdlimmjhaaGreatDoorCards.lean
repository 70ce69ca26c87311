/-
  DERIVED. GIVEN WITH THE SEED: THE CARDS: each row of YtdhfjhdlimmjhaaGreatDoorRows.lean that lists a variable, with what it lists TIED to the program's text (the seventh form; the later family's looks); each row that meets fmt, with fmt's text TOLD by the authors' own Lean function (tested against real Go, not proved from fmt's source: count such statements apart). THE CARD IS WHAT COUNTS. Prove the row's statement (the work); the ties are given (YtdhfjhdlimmjhaaGreatDoorTie.lean); close each card by the builder's one call (the guide's Derived/Test/ToyasCard.lean, 'card_holds'). Laid BY PROGRAM, IN A SANDBOX (cutbox-door.mjs). By AI agents, Wed Nov 11 2026. No macro, syntax, notation, axiom, sorry.
-/
import Derived.Test.YtdhfjhdlimmjhaaGreatDoorRows
import GoSem.ClaimSeven
namespace Go.Proofs.YtdhfjhdlimmjhaaGreatDoor
namespace Rows

/-- THE TIED CARD OF 'signetlaw22.IdChecks'. -/
def idChecksCard : Claim7 := { stood := { row := idChecksRow, standIns := [], harness := (true, "ac6e09999411f089918e7808825bbef154a77e81bbebfb5c6ebc6f596f9738ce"), looks := true }, kinds := [], alts := [], laidByText := true, laidKinds := [.data, .data, .data, .data, .sentinel, .sentinel, .data, .data, .data, .data, .data, .data, .data, .pinned], laidTests := true, laidLooks := .later }
def IdChecksCardSaid : Prop := Claim7.holds Tryz.pinned (.plain (OpenSpec.ofChange idChecksSpec)) idChecksCard

/-- THE SECOND FORM's CARD OF 'signetlaw22.IdChecks'. -/
def idChecksUptoCard : Claim7 := { stood := { row := idChecksUptoRow, standIns := [], harness := (true, "ac6e09999411f089918e7808825bbef154a77e81bbebfb5c6ebc6f596f9738ce"), looks := true }, kinds := [], alts := [], laidByText := true, laidKinds := [.data, .data, .data, .data, .sentinel, .sentinel, .data, .data, .data, .data, .data, .data, .data, .pinned], laidTests := true, laidLooks := .later }
def IdChecksUptoCardSaid : Prop := Claim7.holds Tryz.pinned (.plain (OpenSpec.upto idChecksSpec)) idChecksUptoCard
end Rows
end Go.Proofs.YtdhfjhdlimmjhaaGreatDoor
