/-
  DERIVED. GIVEN WITH THE SEED: THE CARDS: each row of YtpfdaclmchcbiaaDoorRows.lean that lists a variable, with what it lists TIED to the program's text (the seventh form; the later family's looks); each row that meets fmt, with fmt's text TOLD by the authors' own Lean function (tested against real Go, not proved from fmt's source: count such statements apart). THE CARD IS WHAT COUNTS. Prove the row's statement (the work); the ties are given (YtpfdaclmchcbiaaDoorTie.lean); close each card by the builder's one call (the guide's Derived/Test/ToyasCard.lean, 'card_holds'). Laid BY PROGRAM, IN A SANDBOX (cutbox-door.mjs). By AI agents, Wed Nov 11 2026. No macro, syntax, notation, axiom, sorry.
-/
import Derived.Test.YtpfdaclmchcbiaaDoorRows
import GoSem.ClaimSeven
namespace Go.Proofs.YtpfdaclmchcbiaaDoor
namespace Rows

/-- THE TIED CARD OF 'signetlaw22.IdHalves'. -/
def idHalvesCard : Claim7 := { stood := { row := idHalvesRow, standIns := [], harness := (true, "74ea084dadb89c2fd999bf6e851b40f700cfb7afc53ee3fd6b7907070d9050ef"), looks := false }, kinds := [], alts := [], laidByText := true, laidKinds := [.data, .data, .data, .data, .data, .data, .data], laidTests := true, laidLooks := .later }
def IdHalvesCardSaid : Prop := Claim7.holds Tryd.pinned (.plain (OpenSpec.ofChange idHalvesSpec)) idHalvesCard

/-- THE SECOND FORM's CARD OF 'signetlaw22.IdHalves'. -/
def idHalvesUptoCard : Claim7 := { stood := { row := idHalvesUptoRow, standIns := [], harness := (true, "74ea084dadb89c2fd999bf6e851b40f700cfb7afc53ee3fd6b7907070d9050ef"), looks := false }, kinds := [], alts := [], laidByText := true, laidKinds := [.data, .data, .data, .data, .data, .data, .data], laidTests := true, laidLooks := .later }
def IdHalvesUptoCardSaid : Prop := Claim7.holds Tryd.pinned (.plain (OpenSpec.upto idHalvesSpec)) idHalvesUptoCard
end Rows
end Go.Proofs.YtpfdaclmchcbiaaDoor
