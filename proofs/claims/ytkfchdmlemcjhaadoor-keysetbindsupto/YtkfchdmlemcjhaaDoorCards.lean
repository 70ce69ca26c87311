/-
  DERIVED. GIVEN WITH THE SEED: THE CARDS: each row of YtkfchdmlemcjhaaDoorRows.lean that lists a variable, with what it lists TIED to the program's text (the seventh form; the later family's looks); each row that meets fmt, with fmt's text TOLD by the authors' own Lean function (tested against real Go, not proved from fmt's source: count such statements apart). THE CARD IS WHAT COUNTS. Prove the row's statement (the work); the ties are given (YtkfchdmlemcjhaaDoorTie.lean); close each card by the builder's one call (the guide's Derived/Test/ToyasCard.lean, 'card_holds'). Laid BY PROGRAM, IN A SANDBOX (cutbox-door.mjs). By AI agents, Wed Nov 11 2026. No macro, syntax, notation, axiom, sorry.
-/
import Derived.Test.YtkfchdmlemcjhaaDoorRows
import GoSem.ClaimSeven
namespace Go.Proofs.YtkfchdmlemcjhaaDoor
namespace Rows

/-- THE TIED CARD OF 'signetlaw16.KeysetBinds'. -/
def keysetBindsCard : Claim7 := { stood := { row := keysetBindsRow, standIns := [], harness := (true, "f3d78ddc48a8fbff7dc0a3bcdc11845e380aaa82b6e612ec7022888816229cc0"), looks := true }, kinds := [], alts := [], laidByText := true, laidKinds := [.data, .data, .data, .data, .sentinel, .sentinel, .wider, .pinned], laidTests := true, laidLooks := .later }
def KeysetBindsCardSaid : Prop := Claim7.holds Tryd.pinned (.plain (OpenSpec.ofChange keysetBindsSpec)) keysetBindsCard

/-- THE SECOND FORM's CARD OF 'signetlaw16.KeysetBinds'. -/
def keysetBindsUptoCard : Claim7 := { stood := { row := keysetBindsUptoRow, standIns := [], harness := (true, "f3d78ddc48a8fbff7dc0a3bcdc11845e380aaa82b6e612ec7022888816229cc0"), looks := true }, kinds := [], alts := [], laidByText := true, laidKinds := [.data, .data, .data, .data, .sentinel, .sentinel, .wider, .pinned], laidTests := true, laidLooks := .later }
def KeysetBindsUptoCardSaid : Prop := Claim7.holds Tryd.pinned (.plain (OpenSpec.upto keysetBindsSpec)) keysetBindsUptoCard
end Rows
end Go.Proofs.YtkfchdmlemcjhaaDoor
