/-
  DERIVED. GIVEN WITH THE SEED: THE CARDS: each row of YtgkbbcoagnilgabDoorRows.lean that lists a variable, with what it lists TIED to the program's text (the seventh form; the later family's looks); each row that meets fmt, with fmt's text TOLD by the authors' own Lean function (tested against real Go, not proved from fmt's source: count such statements apart). THE CARD IS WHAT COUNTS. Prove the row's statement (the work); the ties are given (YtgkbbcoagnilgabDoorTie.lean); close each card by the builder's one call (the guide's Derived/Test/ToyasCard.lean, 'card_holds'). Laid BY PROGRAM, IN A SANDBOX (cutbox-door.mjs). By AI agents, Wed Nov 11 2026. No macro, syntax, notation, axiom, sorry.
-/
import Derived.Test.YtgkbbcoagnilgabDoorRows
import GoSem.ClaimSeven
namespace Go.Proofs.YtgkbbcoagnilgabDoor
namespace Rows

/-- THE TIED CARD OF 'signetlaw2.DecimalNearest'. -/
def decimalNearestCard : Claim7 := { stood := { row := decimalNearestRow, standIns := [], harness := (true, "9eee73b4e5014caace5104ea303f74a5a30ec634762436b419c2a6d546be5876"), looks := true }, kinds := [], alts := [], laidByText := true, laidKinds := [.data, .data, .data, .data, .sentinel, .sentinel, .pinned], laidTests := true, laidLooks := .later }
def DecimalNearestCardSaid : Prop := Claim7.holds Tryd.pinned (.plain (OpenSpec.ofChange decimalNearestSpec)) decimalNearestCard

/-- THE TIED CARD OF 'signetlaw2.DecimalNears'. -/
def decimalNearsCard : Claim7 := { stood := { row := decimalNearsRow, standIns := [], harness := (true, "9eee73b4e5014caace5104ea303f74a5a30ec634762436b419c2a6d546be5876"), looks := true }, kinds := [], alts := [], laidByText := true, laidKinds := [.data, .pinned], laidTests := true, laidLooks := .later }
def DecimalNearsCardSaid : Prop := Claim7.holds Tryd.pinned (.plain (OpenSpec.ofChange decimalNearsSpec)) decimalNearsCard

/-- THE TIED CARD OF 'signetlaw2.DecimalWholes'. -/
def decimalWholesCard : Claim7 := { stood := { row := decimalWholesRow, standIns := [], harness := (true, "9eee73b4e5014caace5104ea303f74a5a30ec634762436b419c2a6d546be5876"), looks := true }, kinds := [], alts := [], laidByText := true, laidKinds := [.data, .data, .data, .data, .sentinel, .sentinel, .pinned], laidTests := true, laidLooks := .later }
def DecimalWholesCardSaid : Prop := Claim7.holds Tryd.pinned (.plain (OpenSpec.ofChange decimalWholesSpec)) decimalWholesCard

/-- THE TIED CARD OF 'signetlaw2.DecimalShifts'. -/
def decimalShiftsCard : Claim7 := { stood := { row := decimalShiftsRow, standIns := [], harness := (true, "9eee73b4e5014caace5104ea303f74a5a30ec634762436b419c2a6d546be5876"), looks := true }, kinds := [], alts := [], laidByText := true, laidKinds := [.data, .data, .data, .data, .sentinel, .sentinel, .pinned], laidTests := true, laidLooks := .later }
def DecimalShiftsCardSaid : Prop := Claim7.holds Tryd.pinned (.plain (OpenSpec.ofChange decimalShiftsSpec)) decimalShiftsCard

/-- THE SECOND FORM's CARD OF 'signetlaw2.DecimalNearest'. -/
def decimalNearestUptoCard : Claim7 := { stood := { row := decimalNearestUptoRow, standIns := [], harness := (true, "9eee73b4e5014caace5104ea303f74a5a30ec634762436b419c2a6d546be5876"), looks := true }, kinds := [], alts := [], laidByText := true, laidKinds := [.data, .data, .data, .data, .sentinel, .sentinel, .pinned], laidTests := true, laidLooks := .later }
def DecimalNearestUptoCardSaid : Prop := Claim7.holds Tryd.pinned (.plain (OpenSpec.upto decimalNearestSpec)) decimalNearestUptoCard

/-- THE SECOND FORM's CARD OF 'signetlaw2.DecimalNears'. -/
def decimalNearsUptoCard : Claim7 := { stood := { row := decimalNearsUptoRow, standIns := [], harness := (true, "9eee73b4e5014caace5104ea303f74a5a30ec634762436b419c2a6d546be5876"), looks := true }, kinds := [], alts := [], laidByText := true, laidKinds := [.data, .pinned], laidTests := true, laidLooks := .later }
def DecimalNearsUptoCardSaid : Prop := Claim7.holds Tryd.pinned (.plain (OpenSpec.upto decimalNearsSpec)) decimalNearsUptoCard

/-- THE SECOND FORM's CARD OF 'signetlaw2.DecimalWholes'. -/
def decimalWholesUptoCard : Claim7 := { stood := { row := decimalWholesUptoRow, standIns := [], harness := (true, "9eee73b4e5014caace5104ea303f74a5a30ec634762436b419c2a6d546be5876"), looks := true }, kinds := [], alts := [], laidByText := true, laidKinds := [.data, .data, .data, .data, .sentinel, .sentinel, .pinned], laidTests := true, laidLooks := .later }
def DecimalWholesUptoCardSaid : Prop := Claim7.holds Tryd.pinned (.plain (OpenSpec.upto decimalWholesSpec)) decimalWholesUptoCard

/-- THE SECOND FORM's CARD OF 'signetlaw2.DecimalShifts'. -/
def decimalShiftsUptoCard : Claim7 := { stood := { row := decimalShiftsUptoRow, standIns := [], harness := (true, "9eee73b4e5014caace5104ea303f74a5a30ec634762436b419c2a6d546be5876"), looks := true }, kinds := [], alts := [], laidByText := true, laidKinds := [.data, .data, .data, .data, .sentinel, .sentinel, .pinned], laidTests := true, laidLooks := .later }
def DecimalShiftsUptoCardSaid : Prop := Claim7.holds Tryd.pinned (.plain (OpenSpec.upto decimalShiftsSpec)) decimalShiftsUptoCard
end Rows
end Go.Proofs.YtgkbbcoagnilgabDoor
