/-
  DERIVED. GIVEN WITH THE SEED: THE CARDS: each row of YtapljedegjiliaaDoorRows.lean that lists a variable, with what it lists TIED to the program's text (the seventh form; the later family's looks); each row that meets fmt, with fmt's text TOLD by the authors' own Lean function (tested against real Go, not proved from fmt's source: count such statements apart). THE CARD IS WHAT COUNTS. Prove the row's statement (the work); the ties are given (YtapljedegjiliaaDoorTie.lean); close each card by the builder's one call (the guide's Derived/Test/ToyasCard.lean, 'card_holds'). Laid BY PROGRAM, IN A SANDBOX (cutbox-door.mjs). By AI agents, Wed Nov 11 2026. No macro, syntax, notation, axiom, sorry.
-/
import Derived.Test.YtapljedegjiliaaDoorRows
import GoSem.ClaimSeven
namespace Go.Proofs.YtapljedegjiliaaDoor
namespace Rows

/-- THE TIED CARD OF 'signetlaw21.SerialWrites'. -/
def serialWritesCard : Claim7 := { stood := { row := serialWritesRow, standIns := [], harness := (true, "2cd10cd8281771fc289f4aeac14801ff47eee5fe8fbb29e275c3fd3564d13ce2"), looks := true }, kinds := [], alts := [], laidByText := true, laidKinds := [.data, .data, .data, .data, .sentinel, .sentinel, .pinned], laidTests := true, laidLooks := .later }
def SerialWritesCardSaid : Prop := Claim7.holds Tryd.pinned (.plain (OpenSpec.ofChange serialWritesSpec)) serialWritesCard

/-- THE SECOND FORM's CARD OF 'signetlaw21.SerialWrites'. -/
def serialWritesUptoCard : Claim7 := { stood := { row := serialWritesUptoRow, standIns := [], harness := (true, "2cd10cd8281771fc289f4aeac14801ff47eee5fe8fbb29e275c3fd3564d13ce2"), looks := true }, kinds := [], alts := [], laidByText := true, laidKinds := [.data, .data, .data, .data, .sentinel, .sentinel, .pinned], laidTests := true, laidLooks := .later }
def SerialWritesUptoCardSaid : Prop := Claim7.holds Tryd.pinned (.plain (OpenSpec.upto serialWritesSpec)) serialWritesUptoCard
end Rows
end Go.Proofs.YtapljedegjiliaaDoor
