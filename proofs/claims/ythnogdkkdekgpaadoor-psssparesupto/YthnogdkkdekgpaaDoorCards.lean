/-
  DERIVED. GIVEN WITH THE SEED: THE CARDS: each row of YthnogdkkdekgpaaDoorRows.lean that lists a variable, with what it lists TIED to the program's text (the seventh form; the later family's looks); each row that meets fmt, with fmt's text TOLD by the authors' own Lean function (tested against real Go, not proved from fmt's source: count such statements apart). THE CARD IS WHAT COUNTS. Prove the row's statement (the work); the ties are given (YthnogdkkdekgpaaDoorTie.lean); close each card by the builder's one call (the guide's Derived/Test/ToyasCard.lean, 'card_holds'). Laid BY PROGRAM, IN A SANDBOX (cutbox-door.mjs). By AI agents, Wed Nov 11 2026. No macro, syntax, notation, axiom, sorry.
-/
import Derived.Test.YthnogdkkdekgpaaDoorRows
import GoSem.ClaimSeven
namespace Go.Proofs.YthnogdkkdekgpaaDoor
namespace Rows

/-- THE TIED CARD OF 'signetlaw10.PssMaskParts'. -/
def pssMaskPartsCard : Claim7 := { stood := { row := pssMaskPartsRow, standIns := [], harness := (true, "946df75f80339014c6f124c64d866da507851e08601d8082ba162f86e3ac5389"), looks := false }, kinds := [], alts := [], laidByText := true, laidKinds := [.data, .data], laidTests := true, laidLooks := .later }
def PssMaskPartsCardSaid : Prop := Claim7.holds Tryd.pinned (.plain (OpenSpec.ofChange pssMaskPartsSpec)) pssMaskPartsCard

/-- THE TIED CARD OF 'signetlaw10.PssSpares'. -/
def pssSparesCard : Claim7 := { stood := { row := pssSparesRow, standIns := [], harness := (true, "946df75f80339014c6f124c64d866da507851e08601d8082ba162f86e3ac5389"), looks := false }, kinds := [], alts := [], laidByText := true, laidKinds := [.data, .data], laidTests := true, laidLooks := .later }
def PssSparesCardSaid : Prop := Claim7.holds Tryd.pinned (.plain (OpenSpec.ofChange pssSparesSpec)) pssSparesCard

/-- THE TIED CARD OF 'signetlaw10.PssUndone'. -/
def pssUndoneCard : Claim7 := { stood := { row := pssUndoneRow, standIns := [], harness := (true, "946df75f80339014c6f124c64d866da507851e08601d8082ba162f86e3ac5389"), looks := false }, kinds := [], alts := [], laidByText := true, laidKinds := [.data, .data], laidTests := true, laidLooks := .later }
def PssUndoneCardSaid : Prop := Claim7.holds Tryd.pinned (.plain (OpenSpec.ofChange pssUndoneSpec)) pssUndoneCard

/-- THE TIED CARD OF 'signetlaw10.PssMasks'. -/
def pssMasksCard : Claim7 := { stood := { row := pssMasksRow, standIns := [], harness := (true, "946df75f80339014c6f124c64d866da507851e08601d8082ba162f86e3ac5389"), looks := false }, kinds := [], alts := [], laidByText := true, laidKinds := [.data, .data, .data, .data, .data, .data, .data], laidTests := true, laidLooks := .later }
def PssMasksCardSaid : Prop := Claim7.holds Tryd.pinned (.plain (OpenSpec.ofChange pssMasksSpec)) pssMasksCard

/-- THE TIED CARD OF 'signetlaw10.PssEncodes'. -/
def pssEncodesCard : Claim7 := { stood := { row := pssEncodesRow, standIns := [], harness := (true, "946df75f80339014c6f124c64d866da507851e08601d8082ba162f86e3ac5389"), looks := false }, kinds := [], alts := [], laidByText := true, laidKinds := [.data, .data, .data, .data, .data, .data, .data], laidTests := true, laidLooks := .later }
def PssEncodesCardSaid : Prop := Claim7.holds Tryd.pinned (.plain (OpenSpec.ofChange pssEncodesSpec)) pssEncodesCard

/-- THE TIED CARD OF 'signetlaw10.PssHolds'. -/
def pssHoldsCard : Claim7 := { stood := { row := pssHoldsRow, standIns := [], harness := (true, "946df75f80339014c6f124c64d866da507851e08601d8082ba162f86e3ac5389"), looks := false }, kinds := [], alts := [], laidByText := true, laidKinds := [.data, .data, .data, .data, .data, .data, .data], laidTests := true, laidLooks := .later }
def PssHoldsCardSaid : Prop := Claim7.holds Tryd.pinned (.plain (OpenSpec.ofChange pssHoldsSpec)) pssHoldsCard

/-- THE TIED CARD OF 'signetlaw10.PssComplete'. -/
def pssCompleteCard : Claim7 := { stood := { row := pssCompleteRow, standIns := [], harness := (true, "946df75f80339014c6f124c64d866da507851e08601d8082ba162f86e3ac5389"), looks := false }, kinds := [], alts := [], laidByText := true, laidKinds := [.data, .data], laidTests := true, laidLooks := .later }
def PssCompleteCardSaid : Prop := Claim7.holds Tryd.pinned (.plain (OpenSpec.ofChange pssCompleteSpec)) pssCompleteCard

/-- THE TIED CARD OF 'signetlaw10.PssJust'. -/
def pssJustCard : Claim7 := { stood := { row := pssJustRow, standIns := [], harness := (true, "946df75f80339014c6f124c64d866da507851e08601d8082ba162f86e3ac5389"), looks := false }, kinds := [], alts := [], laidByText := true, laidKinds := [.data, .data], laidTests := true, laidLooks := .later }
def PssJustCardSaid : Prop := Claim7.holds Tryd.pinned (.plain (OpenSpec.ofChange pssJustSpec)) pssJustCard

/-- THE SECOND FORM's CARD OF 'signetlaw10.PssMaskParts'. -/
def pssMaskPartsUptoCard : Claim7 := { stood := { row := pssMaskPartsUptoRow, standIns := [], harness := (true, "946df75f80339014c6f124c64d866da507851e08601d8082ba162f86e3ac5389"), looks := false }, kinds := [], alts := [], laidByText := true, laidKinds := [.data, .data], laidTests := true, laidLooks := .later }
def PssMaskPartsUptoCardSaid : Prop := Claim7.holds Tryd.pinned (.plain (OpenSpec.upto pssMaskPartsSpec)) pssMaskPartsUptoCard

/-- THE SECOND FORM's CARD OF 'signetlaw10.PssSpares'. -/
def pssSparesUptoCard : Claim7 := { stood := { row := pssSparesUptoRow, standIns := [], harness := (true, "946df75f80339014c6f124c64d866da507851e08601d8082ba162f86e3ac5389"), looks := false }, kinds := [], alts := [], laidByText := true, laidKinds := [.data, .data], laidTests := true, laidLooks := .later }
def PssSparesUptoCardSaid : Prop := Claim7.holds Tryd.pinned (.plain (OpenSpec.upto pssSparesSpec)) pssSparesUptoCard

/-- THE SECOND FORM's CARD OF 'signetlaw10.PssUndone'. -/
def pssUndoneUptoCard : Claim7 := { stood := { row := pssUndoneUptoRow, standIns := [], harness := (true, "946df75f80339014c6f124c64d866da507851e08601d8082ba162f86e3ac5389"), looks := false }, kinds := [], alts := [], laidByText := true, laidKinds := [.data, .data], laidTests := true, laidLooks := .later }
def PssUndoneUptoCardSaid : Prop := Claim7.holds Tryd.pinned (.plain (OpenSpec.upto pssUndoneSpec)) pssUndoneUptoCard

/-- THE SECOND FORM's CARD OF 'signetlaw10.PssMasks'. -/
def pssMasksUptoCard : Claim7 := { stood := { row := pssMasksUptoRow, standIns := [], harness := (true, "946df75f80339014c6f124c64d866da507851e08601d8082ba162f86e3ac5389"), looks := false }, kinds := [], alts := [], laidByText := true, laidKinds := [.data, .data, .data, .data, .data, .data, .data], laidTests := true, laidLooks := .later }
def PssMasksUptoCardSaid : Prop := Claim7.holds Tryd.pinned (.plain (OpenSpec.upto pssMasksSpec)) pssMasksUptoCard

/-- THE SECOND FORM's CARD OF 'signetlaw10.PssEncodes'. -/
def pssEncodesUptoCard : Claim7 := { stood := { row := pssEncodesUptoRow, standIns := [], harness := (true, "946df75f80339014c6f124c64d866da507851e08601d8082ba162f86e3ac5389"), looks := false }, kinds := [], alts := [], laidByText := true, laidKinds := [.data, .data, .data, .data, .data, .data, .data], laidTests := true, laidLooks := .later }
def PssEncodesUptoCardSaid : Prop := Claim7.holds Tryd.pinned (.plain (OpenSpec.upto pssEncodesSpec)) pssEncodesUptoCard

/-- THE SECOND FORM's CARD OF 'signetlaw10.PssHolds'. -/
def pssHoldsUptoCard : Claim7 := { stood := { row := pssHoldsUptoRow, standIns := [], harness := (true, "946df75f80339014c6f124c64d866da507851e08601d8082ba162f86e3ac5389"), looks := false }, kinds := [], alts := [], laidByText := true, laidKinds := [.data, .data, .data, .data, .data, .data, .data], laidTests := true, laidLooks := .later }
def PssHoldsUptoCardSaid : Prop := Claim7.holds Tryd.pinned (.plain (OpenSpec.upto pssHoldsSpec)) pssHoldsUptoCard

/-- THE SECOND FORM's CARD OF 'signetlaw10.PssComplete'. -/
def pssCompleteUptoCard : Claim7 := { stood := { row := pssCompleteUptoRow, standIns := [], harness := (true, "946df75f80339014c6f124c64d866da507851e08601d8082ba162f86e3ac5389"), looks := false }, kinds := [], alts := [], laidByText := true, laidKinds := [.data, .data], laidTests := true, laidLooks := .later }
def PssCompleteUptoCardSaid : Prop := Claim7.holds Tryd.pinned (.plain (OpenSpec.upto pssCompleteSpec)) pssCompleteUptoCard

/-- THE SECOND FORM's CARD OF 'signetlaw10.PssJust'. -/
def pssJustUptoCard : Claim7 := { stood := { row := pssJustUptoRow, standIns := [], harness := (true, "946df75f80339014c6f124c64d866da507851e08601d8082ba162f86e3ac5389"), looks := false }, kinds := [], alts := [], laidByText := true, laidKinds := [.data, .data], laidTests := true, laidLooks := .later }
def PssJustUptoCardSaid : Prop := Claim7.holds Tryd.pinned (.plain (OpenSpec.upto pssJustSpec)) pssJustUptoCard
end Rows
end Go.Proofs.YthnogdkkdekgpaaDoor
