/-
  DERIVED. GIVEN WITH THE SEED: THE CARDS: each row of YthnogdkkdekgpaaGreatDoorRows.lean that lists a variable, with what it lists TIED to the program's text (the seventh form; the later family's looks); each row that meets fmt, with fmt's text TOLD by the authors' own Lean function (tested against real Go, not proved from fmt's source: count such statements apart). THE CARD IS WHAT COUNTS. Prove the row's statement (the work); the ties are given (YthnogdkkdekgpaaGreatDoorTie.lean); close each card by the builder's one call (the guide's Derived/Test/ToyasCard.lean, 'card_holds'). Laid BY PROGRAM, IN A SANDBOX (cutbox-door.mjs). By AI agents, Wed Nov 11 2026. No macro, syntax, notation, axiom, sorry.
-/
import Derived.Test.YthnogdkkdekgpaaGreatDoorRows
import GoSem.ClaimSeven
namespace Go.Proofs.YthnogdkkdekgpaaGreatDoor
namespace Rows

/-- THE TIED CARD OF 'signetlaw10.PssVerifies'. -/
def pssVerifiesCard : Claim7 := { stood := { row := pssVerifiesRow, standIns := [], harness := (true, "0e96114bf05d3320b398bb80cf82d6631409fec4a0c2c784e00932a82e0212a8"), looks := false }, kinds := [], alts := [], laidByText := true, laidKinds := [.data, .data, .data, .data, .data, .data, .data], laidTests := true, laidLooks := .later }
def PssVerifiesCardSaid : Prop := Claim7.holds Tryz.pinned (.plain (OpenSpec.ofChange pssVerifiesSpec)) pssVerifiesCard

/-- THE SECOND FORM's CARD OF 'signetlaw10.PssVerifies'. -/
def pssVerifiesUptoCard : Claim7 := { stood := { row := pssVerifiesUptoRow, standIns := [], harness := (true, "0e96114bf05d3320b398bb80cf82d6631409fec4a0c2c784e00932a82e0212a8"), looks := false }, kinds := [], alts := [], laidByText := true, laidKinds := [.data, .data, .data, .data, .data, .data, .data], laidTests := true, laidLooks := .later }
def PssVerifiesUptoCardSaid : Prop := Claim7.holds Tryz.pinned (.plain (OpenSpec.upto pssVerifiesSpec)) pssVerifiesUptoCard
end Rows
end Go.Proofs.YthnogdkkdekgpaaGreatDoor
