/-
  DERIVED. GIVEN WITH THE SEED: THE CARDS: each row of YtghfoppojdkhkaaGreatDoorRows.lean that lists a variable, with what it lists TIED to the program's text (the seventh form; the later family's looks); each row that meets fmt, with fmt's text TOLD by the authors' own Lean function (tested against real Go, not proved from fmt's source: count such statements apart). THE CARD IS WHAT COUNTS. Prove the row's statement (the work); the ties are given (YtghfoppojdkhkaaGreatDoorTie.lean); close each card by the builder's one call (the guide's Derived/Test/ToyasCard.lean, 'card_holds'). Laid BY PROGRAM, IN A SANDBOX (cutbox-door.mjs). By AI agents, Wed Nov 11 2026. No macro, syntax, notation, axiom, sorry.
-/
import Derived.Test.YtghfoppojdkhkaaGreatDoorRows
import GoSem.ClaimSeven
namespace Go.Proofs.YtghfoppojdkhkaaGreatDoor
namespace Rows

/-- THE TIED CARD OF 'signetlaw12.EcdsaTwins'. -/
def ecdsaTwinsCard : Claim7 := { stood := { row := ecdsaTwinsRow, standIns := [], harness := (true, "ee15e71f3f16079b0910cc3b82b5ba4b038eae499361e83db3eca642584e747b"), looks := true }, kinds := [], alts := [], laidByText := true, laidKinds := [.data, .data, .data, .sentinel, .sentinel, .data, .data], laidTests := true, laidLooks := .later }
def EcdsaTwinsCardSaid : Prop := Claim7.holds Tryz.pinned (.plain (OpenSpec.ofChange ecdsaTwinsSpec)) ecdsaTwinsCard

/-- THE TIED CARD OF 'signetlaw12.EcdsaSpares'. -/
def ecdsaSparesCard : Claim7 := { stood := { row := ecdsaSparesRow, standIns := [], harness := (true, "ee15e71f3f16079b0910cc3b82b5ba4b038eae499361e83db3eca642584e747b"), looks := true }, kinds := [], alts := [], laidByText := true, laidKinds := [.data, .data, .data, .sentinel, .sentinel, .data, .data], laidTests := true, laidLooks := .later }
def EcdsaSparesCardSaid : Prop := Claim7.holds Tryz.pinned (.plain (OpenSpec.ofChange ecdsaSparesSpec)) ecdsaSparesCard

/-- THE TIED CARD OF 'signetlaw12.EcdsaComplete'. -/
def ecdsaCompleteCard : Claim7 := { stood := { row := ecdsaCompleteRow, standIns := [], harness := (true, "ee15e71f3f16079b0910cc3b82b5ba4b038eae499361e83db3eca642584e747b"), looks := true }, kinds := [], alts := [], laidByText := true, laidKinds := [.data, .data, .data, .sentinel, .sentinel, .data, .data], laidTests := true, laidLooks := .later }
def EcdsaCompleteCardSaid : Prop := Claim7.holds Tryz.pinned (.plain (OpenSpec.ofChange ecdsaCompleteSpec)) ecdsaCompleteCard

/-- THE TIED CARD OF 'signetlaw12.EcdsaEquation'. -/
def ecdsaEquationCard : Claim7 := { stood := { row := ecdsaEquationRow, standIns := [], harness := (true, "ee15e71f3f16079b0910cc3b82b5ba4b038eae499361e83db3eca642584e747b"), looks := true }, kinds := [], alts := [], laidByText := true, laidKinds := [.data, .data, .data, .sentinel, .sentinel, .data, .data], laidTests := true, laidLooks := .later }
def EcdsaEquationCardSaid : Prop := Claim7.holds Tryz.pinned (.plain (OpenSpec.ofChange ecdsaEquationSpec)) ecdsaEquationCard

/-- THE SECOND FORM's CARD OF 'signetlaw12.EcdsaTwins'. -/
def ecdsaTwinsUptoCard : Claim7 := { stood := { row := ecdsaTwinsUptoRow, standIns := [], harness := (true, "ee15e71f3f16079b0910cc3b82b5ba4b038eae499361e83db3eca642584e747b"), looks := true }, kinds := [], alts := [], laidByText := true, laidKinds := [.data, .data, .data, .sentinel, .sentinel, .data, .data], laidTests := true, laidLooks := .later }
def EcdsaTwinsUptoCardSaid : Prop := Claim7.holds Tryz.pinned (.plain (OpenSpec.upto ecdsaTwinsSpec)) ecdsaTwinsUptoCard

/-- THE SECOND FORM's CARD OF 'signetlaw12.EcdsaSpares'. -/
def ecdsaSparesUptoCard : Claim7 := { stood := { row := ecdsaSparesUptoRow, standIns := [], harness := (true, "ee15e71f3f16079b0910cc3b82b5ba4b038eae499361e83db3eca642584e747b"), looks := true }, kinds := [], alts := [], laidByText := true, laidKinds := [.data, .data, .data, .sentinel, .sentinel, .data, .data], laidTests := true, laidLooks := .later }
def EcdsaSparesUptoCardSaid : Prop := Claim7.holds Tryz.pinned (.plain (OpenSpec.upto ecdsaSparesSpec)) ecdsaSparesUptoCard

/-- THE SECOND FORM's CARD OF 'signetlaw12.EcdsaComplete'. -/
def ecdsaCompleteUptoCard : Claim7 := { stood := { row := ecdsaCompleteUptoRow, standIns := [], harness := (true, "ee15e71f3f16079b0910cc3b82b5ba4b038eae499361e83db3eca642584e747b"), looks := true }, kinds := [], alts := [], laidByText := true, laidKinds := [.data, .data, .data, .sentinel, .sentinel, .data, .data], laidTests := true, laidLooks := .later }
def EcdsaCompleteUptoCardSaid : Prop := Claim7.holds Tryz.pinned (.plain (OpenSpec.upto ecdsaCompleteSpec)) ecdsaCompleteUptoCard

/-- THE SECOND FORM's CARD OF 'signetlaw12.EcdsaEquation'. -/
def ecdsaEquationUptoCard : Claim7 := { stood := { row := ecdsaEquationUptoRow, standIns := [], harness := (true, "ee15e71f3f16079b0910cc3b82b5ba4b038eae499361e83db3eca642584e747b"), looks := true }, kinds := [], alts := [], laidByText := true, laidKinds := [.data, .data, .data, .sentinel, .sentinel, .data, .data], laidTests := true, laidLooks := .later }
def EcdsaEquationUptoCardSaid : Prop := Claim7.holds Tryz.pinned (.plain (OpenSpec.upto ecdsaEquationSpec)) ecdsaEquationUptoCard
end Rows
end Go.Proofs.YtghfoppojdkhkaaGreatDoor
