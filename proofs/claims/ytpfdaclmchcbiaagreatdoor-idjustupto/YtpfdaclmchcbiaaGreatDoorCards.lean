/-
  DERIVED. GIVEN WITH THE SEED: THE CARDS: each row of YtpfdaclmchcbiaaGreatDoorRows.lean that lists a variable, with what it lists TIED to the program's text (the seventh form; the later family's looks); each row that meets fmt, with fmt's text TOLD by the authors' own Lean function (tested against real Go, not proved from fmt's source: count such statements apart). THE CARD IS WHAT COUNTS. Prove the row's statement (the work); the ties are given (YtpfdaclmchcbiaaGreatDoorTie.lean); close each card by the builder's one call (the guide's Derived/Test/ToyasCard.lean, 'card_holds'). Laid BY PROGRAM, IN A SANDBOX (cutbox-door.mjs). By AI agents, Wed Nov 11 2026. No macro, syntax, notation, axiom, sorry.
-/
import Derived.Test.YtpfdaclmchcbiaaGreatDoorRows
import GoSem.ClaimSeven
namespace Go.Proofs.YtpfdaclmchcbiaaGreatDoor
namespace Rows

/-- THE TIED CARD OF 'signetlaw22.IdChecks'. -/
def idChecksCard : Claim7 := { stood := { row := idChecksRow, standIns := [], harness := (true, "4aac5a4962731997fcdbee1769266fd8457d4838a959e8ff4374f73b8ae65ce3"), looks := true }, kinds := [], alts := [], laidByText := true, laidKinds := [.data, .data, .data, .data, .sentinel, .sentinel, .data, .data, .data, .data, .data, .data, .data, .pinned], laidTests := true, laidLooks := .later }
def IdChecksCardSaid : Prop := Claim7.holds Tryz.pinned (.plain (OpenSpec.ofChange idChecksSpec)) idChecksCard

/-- THE TIED CARD OF 'signetlaw22.IdHalf'. -/
def idHalfCard : Claim7 := { stood := { row := idHalfRow, standIns := [], harness := (true, "4aac5a4962731997fcdbee1769266fd8457d4838a959e8ff4374f73b8ae65ce3"), looks := true }, kinds := [], alts := [], laidByText := true, laidKinds := [.data, .data, .data, .data, .sentinel, .sentinel, .data, .data, .pinned], laidTests := true, laidLooks := .later }
def IdHalfCardSaid : Prop := Claim7.holds Tryz.pinned (.plain (OpenSpec.ofChange idHalfSpec)) idHalfCard

/-- THE TIED CARD OF 'signetlaw22.IdQuiet'. -/
def idQuietCard : Claim7 := { stood := { row := idQuietRow, standIns := [], harness := (true, "4aac5a4962731997fcdbee1769266fd8457d4838a959e8ff4374f73b8ae65ce3"), looks := true }, kinds := [], alts := [], laidByText := true, laidKinds := [.data, .data, .data, .data, .sentinel, .sentinel, .data, .data, .pinned], laidTests := true, laidLooks := .later }
def IdQuietCardSaid : Prop := Claim7.holds Tryz.pinned (.plain (OpenSpec.ofChange idQuietSpec)) idQuietCard

/-- THE TIED CARD OF 'signetlaw22.IdAge'. -/
def idAgeCard : Claim7 := { stood := { row := idAgeRow, standIns := [], harness := (true, "4aac5a4962731997fcdbee1769266fd8457d4838a959e8ff4374f73b8ae65ce3"), looks := true }, kinds := [], alts := [], laidByText := true, laidKinds := [.data, .data, .data, .data, .sentinel, .sentinel, .data, .data, .pinned], laidTests := true, laidLooks := .later }
def IdAgeCardSaid : Prop := Claim7.holds Tryz.pinned (.plain (OpenSpec.ofChange idAgeSpec)) idAgeCard

/-- THE TIED CARD OF 'signetlaw22.IdJust'. -/
def idJustCard : Claim7 := { stood := { row := idJustRow, standIns := [], harness := (true, "4aac5a4962731997fcdbee1769266fd8457d4838a959e8ff4374f73b8ae65ce3"), looks := true }, kinds := [], alts := [], laidByText := true, laidKinds := [.data, .data, .data, .data, .sentinel, .sentinel, .data, .data, .pinned], laidTests := true, laidLooks := .later }
def IdJustCardSaid : Prop := Claim7.holds Tryz.pinned (.plain (OpenSpec.ofChange idJustSpec)) idJustCard

/-- THE SECOND FORM's CARD OF 'signetlaw22.IdChecks'. -/
def idChecksUptoCard : Claim7 := { stood := { row := idChecksUptoRow, standIns := [], harness := (true, "4aac5a4962731997fcdbee1769266fd8457d4838a959e8ff4374f73b8ae65ce3"), looks := true }, kinds := [], alts := [], laidByText := true, laidKinds := [.data, .data, .data, .data, .sentinel, .sentinel, .data, .data, .data, .data, .data, .data, .data, .pinned], laidTests := true, laidLooks := .later }
def IdChecksUptoCardSaid : Prop := Claim7.holds Tryz.pinned (.plain (OpenSpec.upto idChecksSpec)) idChecksUptoCard

/-- THE SECOND FORM's CARD OF 'signetlaw22.IdHalf'. -/
def idHalfUptoCard : Claim7 := { stood := { row := idHalfUptoRow, standIns := [], harness := (true, "4aac5a4962731997fcdbee1769266fd8457d4838a959e8ff4374f73b8ae65ce3"), looks := true }, kinds := [], alts := [], laidByText := true, laidKinds := [.data, .data, .data, .data, .sentinel, .sentinel, .data, .data, .pinned], laidTests := true, laidLooks := .later }
def IdHalfUptoCardSaid : Prop := Claim7.holds Tryz.pinned (.plain (OpenSpec.upto idHalfSpec)) idHalfUptoCard

/-- THE SECOND FORM's CARD OF 'signetlaw22.IdQuiet'. -/
def idQuietUptoCard : Claim7 := { stood := { row := idQuietUptoRow, standIns := [], harness := (true, "4aac5a4962731997fcdbee1769266fd8457d4838a959e8ff4374f73b8ae65ce3"), looks := true }, kinds := [], alts := [], laidByText := true, laidKinds := [.data, .data, .data, .data, .sentinel, .sentinel, .data, .data, .pinned], laidTests := true, laidLooks := .later }
def IdQuietUptoCardSaid : Prop := Claim7.holds Tryz.pinned (.plain (OpenSpec.upto idQuietSpec)) idQuietUptoCard

/-- THE SECOND FORM's CARD OF 'signetlaw22.IdAge'. -/
def idAgeUptoCard : Claim7 := { stood := { row := idAgeUptoRow, standIns := [], harness := (true, "4aac5a4962731997fcdbee1769266fd8457d4838a959e8ff4374f73b8ae65ce3"), looks := true }, kinds := [], alts := [], laidByText := true, laidKinds := [.data, .data, .data, .data, .sentinel, .sentinel, .data, .data, .pinned], laidTests := true, laidLooks := .later }
def IdAgeUptoCardSaid : Prop := Claim7.holds Tryz.pinned (.plain (OpenSpec.upto idAgeSpec)) idAgeUptoCard

/-- THE SECOND FORM's CARD OF 'signetlaw22.IdJust'. -/
def idJustUptoCard : Claim7 := { stood := { row := idJustUptoRow, standIns := [], harness := (true, "4aac5a4962731997fcdbee1769266fd8457d4838a959e8ff4374f73b8ae65ce3"), looks := true }, kinds := [], alts := [], laidByText := true, laidKinds := [.data, .data, .data, .data, .sentinel, .sentinel, .data, .data, .pinned], laidTests := true, laidLooks := .later }
def IdJustUptoCardSaid : Prop := Claim7.holds Tryz.pinned (.plain (OpenSpec.upto idJustSpec)) idJustUptoCard
end Rows
end Go.Proofs.YtpfdaclmchcbiaaGreatDoor
