/-
  DERIVED. GIVEN WITH THE SEED: THE CARDS: each row of YtklfaoiddiigkaaDoorRows.lean that lists a variable, with what it lists TIED to the program's text (the seventh form; the later family's looks); each row that meets fmt, with fmt's text TOLD by the authors' own Lean function (tested against real Go, not proved from fmt's source: count such statements apart). THE CARD IS WHAT COUNTS. Prove the row's statement (the work); the ties are given (YtklfaoiddiigkaaDoorTie.lean); close each card by the builder's one call (the guide's Derived/Test/ToyasCard.lean, 'card_holds'). Laid BY PROGRAM, IN A SANDBOX (cutbox-door.mjs). By AI agents, Wed Nov 11 2026. No macro, syntax, notation, axiom, sorry.
-/
import Derived.Test.YtklfaoiddiigkaaDoorRows
import GoSem.ClaimSeven
namespace Go.Proofs.YtklfaoiddiigkaaDoor
namespace Rows

/-- THE TIED CARD OF 'signetlaw16.KeysetNames'. -/
def keysetNamesCard : Claim7 := { stood := { row := keysetNamesRow, standIns := [], harness := (true, "1e05e06a0885202cef80d1c3f7ca1f1ff17c5a2dea14fc7309d7944bbd1cf7e7"), looks := true }, kinds := [], alts := [], laidByText := true, laidKinds := [.wider], laidTests := true, laidLooks := .later }
def KeysetNamesCardSaid : Prop := Claim7.holds Tryd.pinned (.plain (OpenSpec.ofChange keysetNamesSpec)) keysetNamesCard

/-- THE TIED CARD OF 'signetlaw16.KeysetBinds'. -/
def keysetBindsCard : Claim7 := { stood := { row := keysetBindsRow, standIns := [], harness := (true, "1e05e06a0885202cef80d1c3f7ca1f1ff17c5a2dea14fc7309d7944bbd1cf7e7"), looks := true }, kinds := [], alts := [], laidByText := true, laidKinds := [.data, .data, .data, .data, .sentinel, .sentinel, .wider, .pinned], laidTests := true, laidLooks := .later }
def KeysetBindsCardSaid : Prop := Claim7.holds Tryd.pinned (.plain (OpenSpec.ofChange keysetBindsSpec)) keysetBindsCard

/-- THE SECOND FORM's CARD OF 'signetlaw16.KeysetNames'. -/
def keysetNamesUptoCard : Claim7 := { stood := { row := keysetNamesUptoRow, standIns := [], harness := (true, "1e05e06a0885202cef80d1c3f7ca1f1ff17c5a2dea14fc7309d7944bbd1cf7e7"), looks := true }, kinds := [], alts := [], laidByText := true, laidKinds := [.wider], laidTests := true, laidLooks := .later }
def KeysetNamesUptoCardSaid : Prop := Claim7.holds Tryd.pinned (.plain (OpenSpec.upto keysetNamesSpec)) keysetNamesUptoCard

/-- THE SECOND FORM's CARD OF 'signetlaw16.KeysetBinds'. -/
def keysetBindsUptoCard : Claim7 := { stood := { row := keysetBindsUptoRow, standIns := [], harness := (true, "1e05e06a0885202cef80d1c3f7ca1f1ff17c5a2dea14fc7309d7944bbd1cf7e7"), looks := true }, kinds := [], alts := [], laidByText := true, laidKinds := [.data, .data, .data, .data, .sentinel, .sentinel, .wider, .pinned], laidTests := true, laidLooks := .later }
def KeysetBindsUptoCardSaid : Prop := Claim7.holds Tryd.pinned (.plain (OpenSpec.upto keysetBindsSpec)) keysetBindsUptoCard
end Rows
end Go.Proofs.YtklfaoiddiigkaaDoor
