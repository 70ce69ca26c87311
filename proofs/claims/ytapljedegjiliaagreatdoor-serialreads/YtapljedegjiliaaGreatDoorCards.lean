/-
  DERIVED. GIVEN WITH THE SEED: THE CARDS: each row of YtapljedegjiliaaGreatDoorRows.lean that lists a variable, with what it lists TIED to the program's text (the seventh form; the later family's looks); each row that meets fmt, with fmt's text TOLD by the authors' own Lean function (tested against real Go, not proved from fmt's source: count such statements apart). THE CARD IS WHAT COUNTS. Prove the row's statement (the work); the ties are given (YtapljedegjiliaaGreatDoorTie.lean); close each card by the builder's one call (the guide's Derived/Test/ToyasCard.lean, 'card_holds'). Laid BY PROGRAM, IN A SANDBOX (cutbox-door.mjs). By AI agents, Wed Nov 11 2026. No macro, syntax, notation, axiom, sorry.
-/
import Derived.Test.YtapljedegjiliaaGreatDoorRows
import GoSem.ClaimSeven
namespace Go.Proofs.YtapljedegjiliaaGreatDoor
namespace Rows

/-- THE TIED CARD OF 'signetlaw21.SerialReads'. -/
def serialReadsCard : Claim7 := { stood := { row := serialReadsRow, standIns := [], harness := (true, "047ea07e120aff18a9f1ffae7375be6f407c08c52c1a17146db6c11e4890c65f"), looks := true }, kinds := [], alts := [], laidByText := true, laidKinds := [.data, .data, .data, .data, .sentinel, .sentinel, .pinned], laidTests := true, laidLooks := .later }
def SerialReadsCardSaid : Prop := Claim7.holds Tryz.pinned (.plain (OpenSpec.ofChange serialReadsSpec)) serialReadsCard

/-- THE SECOND FORM's CARD OF 'signetlaw21.SerialReads'. -/
def serialReadsUptoCard : Claim7 := { stood := { row := serialReadsUptoRow, standIns := [], harness := (true, "047ea07e120aff18a9f1ffae7375be6f407c08c52c1a17146db6c11e4890c65f"), looks := true }, kinds := [], alts := [], laidByText := true, laidKinds := [.data, .data, .data, .data, .sentinel, .sentinel, .pinned], laidTests := true, laidLooks := .later }
def SerialReadsUptoCardSaid : Prop := Claim7.holds Tryz.pinned (.plain (OpenSpec.upto serialReadsSpec)) serialReadsUptoCard
end Rows
end Go.Proofs.YtapljedegjiliaaGreatDoor
