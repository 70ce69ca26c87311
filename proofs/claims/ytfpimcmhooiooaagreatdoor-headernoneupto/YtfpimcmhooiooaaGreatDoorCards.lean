/-
  DERIVED. GIVEN WITH THE SEED: THE CARDS: each row of YtfpimcmhooiooaaGreatDoorRows.lean that lists a variable, with what it lists TIED to the program's text (the seventh form; the later family's looks); each row that meets fmt, with fmt's text TOLD by the authors' own Lean function (tested against real Go, not proved from fmt's source: count such statements apart). THE CARD IS WHAT COUNTS. Prove the row's statement (the work); the ties are given (YtfpimcmhooiooaaGreatDoorTie.lean); close each card by the builder's one call (the guide's Derived/Test/ToyasCard.lean, 'card_holds'). Laid BY PROGRAM, IN A SANDBOX (cutbox-door.mjs). By AI agents, Wed Nov 11 2026. No macro, syntax, notation, axiom, sorry.
-/
import Derived.Test.YtfpimcmhooiooaaGreatDoorRows
import GoSem.ClaimSeven
namespace Go.Proofs.YtfpimcmhooiooaaGreatDoor
namespace Rows

/-- THE TIED CARD OF 'signetlaw17.HeaderNone'. -/
def headerNoneCard : Claim7 := { stood := { row := headerNoneRow, standIns := [], harness := (true, "a1280f06d5200aa41f8fc35197835861de91c84b2b985db112a5a4a1de353e32"), looks := true }, kinds := [], alts := [], laidByText := true, laidKinds := [.data, .data, .data, .data, .sentinel, .sentinel, .wider, .pinned], laidTests := true, laidLooks := .later }
def HeaderNoneCardSaid : Prop := Claim7.holds Tryz.pinned (.plain (OpenSpec.ofChange headerNoneSpec)) headerNoneCard

/-- THE TIED CARD OF 'signetlaw17.HeaderTyp'. -/
def headerTypCard : Claim7 := { stood := { row := headerTypRow, standIns := [], harness := (true, "a1280f06d5200aa41f8fc35197835861de91c84b2b985db112a5a4a1de353e32"), looks := true }, kinds := [], alts := [], laidByText := true, laidKinds := [.data, .data, .data, .data, .sentinel, .sentinel, .wider, .pinned], laidTests := true, laidLooks := .later }
def HeaderTypCardSaid : Prop := Claim7.holds Tryz.pinned (.plain (OpenSpec.ofChange headerTypSpec)) headerTypCard

/-- THE TIED CARD OF 'signetlaw17.HeaderBack'. -/
def headerBackCard : Claim7 := { stood := { row := headerBackRow, standIns := [], harness := (true, "a1280f06d5200aa41f8fc35197835861de91c84b2b985db112a5a4a1de353e32"), looks := true }, kinds := [], alts := [], laidByText := true, laidKinds := [.data, .data, .data, .data, .sentinel, .sentinel, .wider, .pinned], laidTests := true, laidLooks := .later }
def HeaderBackCardSaid : Prop := Claim7.holds Tryz.pinned (.plain (OpenSpec.ofChange headerBackSpec)) headerBackCard

/-- THE TIED CARD OF 'signetlaw17.HeaderClosed'. -/
def headerClosedCard : Claim7 := { stood := { row := headerClosedRow, standIns := [], harness := (true, "a1280f06d5200aa41f8fc35197835861de91c84b2b985db112a5a4a1de353e32"), looks := true }, kinds := [], alts := [], laidByText := true, laidKinds := [.data, .data, .data, .data, .sentinel, .sentinel, .wider, .pinned], laidTests := true, laidLooks := .later }
def HeaderClosedCardSaid : Prop := Claim7.holds Tryz.pinned (.plain (OpenSpec.ofChange headerClosedSpec)) headerClosedCard

/-- THE TIED CARD OF 'signetlaw17.HeaderReads'. -/
def headerReadsCard : Claim7 := { stood := { row := headerReadsRow, standIns := [], harness := (true, "a1280f06d5200aa41f8fc35197835861de91c84b2b985db112a5a4a1de353e32"), looks := true }, kinds := [], alts := [], laidByText := true, laidKinds := [.data, .data, .data, .data, .sentinel, .sentinel, .wider, .pinned], laidTests := true, laidLooks := .later }
def HeaderReadsCardSaid : Prop := Claim7.holds Tryz.pinned (.plain (OpenSpec.ofChange headerReadsSpec)) headerReadsCard

/-- THE SECOND FORM's CARD OF 'signetlaw17.HeaderNone'. -/
def headerNoneUptoCard : Claim7 := { stood := { row := headerNoneUptoRow, standIns := [], harness := (true, "a1280f06d5200aa41f8fc35197835861de91c84b2b985db112a5a4a1de353e32"), looks := true }, kinds := [], alts := [], laidByText := true, laidKinds := [.data, .data, .data, .data, .sentinel, .sentinel, .wider, .pinned], laidTests := true, laidLooks := .later }
def HeaderNoneUptoCardSaid : Prop := Claim7.holds Tryz.pinned (.plain (OpenSpec.upto headerNoneSpec)) headerNoneUptoCard

/-- THE SECOND FORM's CARD OF 'signetlaw17.HeaderTyp'. -/
def headerTypUptoCard : Claim7 := { stood := { row := headerTypUptoRow, standIns := [], harness := (true, "a1280f06d5200aa41f8fc35197835861de91c84b2b985db112a5a4a1de353e32"), looks := true }, kinds := [], alts := [], laidByText := true, laidKinds := [.data, .data, .data, .data, .sentinel, .sentinel, .wider, .pinned], laidTests := true, laidLooks := .later }
def HeaderTypUptoCardSaid : Prop := Claim7.holds Tryz.pinned (.plain (OpenSpec.upto headerTypSpec)) headerTypUptoCard

/-- THE SECOND FORM's CARD OF 'signetlaw17.HeaderBack'. -/
def headerBackUptoCard : Claim7 := { stood := { row := headerBackUptoRow, standIns := [], harness := (true, "a1280f06d5200aa41f8fc35197835861de91c84b2b985db112a5a4a1de353e32"), looks := true }, kinds := [], alts := [], laidByText := true, laidKinds := [.data, .data, .data, .data, .sentinel, .sentinel, .wider, .pinned], laidTests := true, laidLooks := .later }
def HeaderBackUptoCardSaid : Prop := Claim7.holds Tryz.pinned (.plain (OpenSpec.upto headerBackSpec)) headerBackUptoCard

/-- THE SECOND FORM's CARD OF 'signetlaw17.HeaderClosed'. -/
def headerClosedUptoCard : Claim7 := { stood := { row := headerClosedUptoRow, standIns := [], harness := (true, "a1280f06d5200aa41f8fc35197835861de91c84b2b985db112a5a4a1de353e32"), looks := true }, kinds := [], alts := [], laidByText := true, laidKinds := [.data, .data, .data, .data, .sentinel, .sentinel, .wider, .pinned], laidTests := true, laidLooks := .later }
def HeaderClosedUptoCardSaid : Prop := Claim7.holds Tryz.pinned (.plain (OpenSpec.upto headerClosedSpec)) headerClosedUptoCard

/-- THE SECOND FORM's CARD OF 'signetlaw17.HeaderReads'. -/
def headerReadsUptoCard : Claim7 := { stood := { row := headerReadsUptoRow, standIns := [], harness := (true, "a1280f06d5200aa41f8fc35197835861de91c84b2b985db112a5a4a1de353e32"), looks := true }, kinds := [], alts := [], laidByText := true, laidKinds := [.data, .data, .data, .data, .sentinel, .sentinel, .wider, .pinned], laidTests := true, laidLooks := .later }
def HeaderReadsUptoCardSaid : Prop := Claim7.holds Tryz.pinned (.plain (OpenSpec.upto headerReadsSpec)) headerReadsUptoCard
end Rows
end Go.Proofs.YtfpimcmhooiooaaGreatDoor
