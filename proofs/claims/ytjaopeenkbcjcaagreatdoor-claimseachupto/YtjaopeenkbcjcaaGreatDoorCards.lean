/-
  DERIVED. GIVEN WITH THE SEED: THE CARDS: each row of YtjaopeenkbcjcaaGreatDoorRows.lean that lists a variable, with what it lists TIED to the program's text (the seventh form; the later family's looks); each row that meets fmt, with fmt's text TOLD by the authors' own Lean function (tested against real Go, not proved from fmt's source: count such statements apart). THE CARD IS WHAT COUNTS. Prove the row's statement (the work); the ties are given (YtjaopeenkbcjcaaGreatDoorTie.lean); close each card by the builder's one call (the guide's Derived/Test/ToyasCard.lean, 'card_holds'). Laid BY PROGRAM, IN A SANDBOX (cutbox-door.mjs). By AI agents, Wed Nov 11 2026. No macro, syntax, notation, axiom, sorry.
-/
import Derived.Test.YtjaopeenkbcjcaaGreatDoorRows
import GoSem.ClaimSeven
namespace Go.Proofs.YtjaopeenkbcjcaaGreatDoor
namespace Rows

/-- THE TIED CARD OF 'signetlaw19.ClaimsClock'. -/
def claimsClockCard : Claim7 := { stood := { row := claimsClockRow, standIns := [], harness := (true, "94d910d0f1bf6a9140102dcb78ba6ea4d7539fe31e589c379817aed80605a497"), looks := true }, kinds := [], alts := [], laidByText := true, laidKinds := [.data, .data, .data, .data, .sentinel, .sentinel, .pinned], laidTests := true, laidLooks := .later }
def ClaimsClockCardSaid : Prop := Claim7.holds Tryz.pinned (.plain (OpenSpec.ofChange claimsClockSpec)) claimsClockCard

/-- THE TIED CARD OF 'signetlaw19.ClaimsSpares'. -/
def claimsSparesCard : Claim7 := { stood := { row := claimsSparesRow, standIns := [], harness := (true, "94d910d0f1bf6a9140102dcb78ba6ea4d7539fe31e589c379817aed80605a497"), looks := true }, kinds := [], alts := [], laidByText := true, laidKinds := [.data, .data, .data, .data, .sentinel, .sentinel, .pinned], laidTests := true, laidLooks := .later }
def ClaimsSparesCardSaid : Prop := Claim7.holds Tryz.pinned (.plain (OpenSpec.ofChange claimsSparesSpec)) claimsSparesCard

/-- THE TIED CARD OF 'signetlaw19.ClaimsSaid'. -/
def claimsSaidCard : Claim7 := { stood := { row := claimsSaidRow, standIns := [], harness := (true, "94d910d0f1bf6a9140102dcb78ba6ea4d7539fe31e589c379817aed80605a497"), looks := true }, kinds := [], alts := [], laidByText := true, laidKinds := [.data, .data, .data, .data, .sentinel, .sentinel, .pinned], laidTests := true, laidLooks := .later }
def ClaimsSaidCardSaid : Prop := Claim7.holds Tryz.pinned (.plain (OpenSpec.ofChange claimsSaidSpec)) claimsSaidCard

/-- THE TIED CARD OF 'signetlaw19.ClaimsEach'. -/
def claimsEachCard : Claim7 := { stood := { row := claimsEachRow, standIns := [], harness := (true, "94d910d0f1bf6a9140102dcb78ba6ea4d7539fe31e589c379817aed80605a497"), looks := true }, kinds := [], alts := [], laidByText := true, laidKinds := [.data, .data, .data, .data, .sentinel, .sentinel, .pinned], laidTests := true, laidLooks := .later }
def ClaimsEachCardSaid : Prop := Claim7.holds Tryz.pinned (.plain (OpenSpec.ofChange claimsEachSpec)) claimsEachCard

/-- THE TIED CARD OF 'signetlaw19.ClaimsWritten'. -/
def claimsWrittenCard : Claim7 := { stood := { row := claimsWrittenRow, standIns := [], harness := (true, "94d910d0f1bf6a9140102dcb78ba6ea4d7539fe31e589c379817aed80605a497"), looks := true }, kinds := [], alts := [], laidByText := true, laidKinds := [.data, .data, .data, .data, .sentinel, .sentinel, .pinned], laidTests := true, laidLooks := .later }
def ClaimsWrittenCardSaid : Prop := Claim7.holds Tryz.pinned (.plain (OpenSpec.ofChange claimsWrittenSpec)) claimsWrittenCard

/-- THE TIED CARD OF 'signetlaw19.ClaimsParses'. -/
def claimsParsesCard : Claim7 := { stood := { row := claimsParsesRow, standIns := [], harness := (true, "94d910d0f1bf6a9140102dcb78ba6ea4d7539fe31e589c379817aed80605a497"), looks := true }, kinds := [], alts := [], laidByText := true, laidKinds := [.data, .data, .data, .data, .sentinel, .sentinel, .pinned], laidTests := true, laidLooks := .later }
def ClaimsParsesCardSaid : Prop := Claim7.holds Tryz.pinned (.plain (OpenSpec.ofChange claimsParsesSpec)) claimsParsesCard

/-- THE SECOND FORM's CARD OF 'signetlaw19.ClaimsClock'. -/
def claimsClockUptoCard : Claim7 := { stood := { row := claimsClockUptoRow, standIns := [], harness := (true, "94d910d0f1bf6a9140102dcb78ba6ea4d7539fe31e589c379817aed80605a497"), looks := true }, kinds := [], alts := [], laidByText := true, laidKinds := [.data, .data, .data, .data, .sentinel, .sentinel, .pinned], laidTests := true, laidLooks := .later }
def ClaimsClockUptoCardSaid : Prop := Claim7.holds Tryz.pinned (.plain (OpenSpec.upto claimsClockSpec)) claimsClockUptoCard

/-- THE SECOND FORM's CARD OF 'signetlaw19.ClaimsSpares'. -/
def claimsSparesUptoCard : Claim7 := { stood := { row := claimsSparesUptoRow, standIns := [], harness := (true, "94d910d0f1bf6a9140102dcb78ba6ea4d7539fe31e589c379817aed80605a497"), looks := true }, kinds := [], alts := [], laidByText := true, laidKinds := [.data, .data, .data, .data, .sentinel, .sentinel, .pinned], laidTests := true, laidLooks := .later }
def ClaimsSparesUptoCardSaid : Prop := Claim7.holds Tryz.pinned (.plain (OpenSpec.upto claimsSparesSpec)) claimsSparesUptoCard

/-- THE SECOND FORM's CARD OF 'signetlaw19.ClaimsSaid'. -/
def claimsSaidUptoCard : Claim7 := { stood := { row := claimsSaidUptoRow, standIns := [], harness := (true, "94d910d0f1bf6a9140102dcb78ba6ea4d7539fe31e589c379817aed80605a497"), looks := true }, kinds := [], alts := [], laidByText := true, laidKinds := [.data, .data, .data, .data, .sentinel, .sentinel, .pinned], laidTests := true, laidLooks := .later }
def ClaimsSaidUptoCardSaid : Prop := Claim7.holds Tryz.pinned (.plain (OpenSpec.upto claimsSaidSpec)) claimsSaidUptoCard

/-- THE SECOND FORM's CARD OF 'signetlaw19.ClaimsEach'. -/
def claimsEachUptoCard : Claim7 := { stood := { row := claimsEachUptoRow, standIns := [], harness := (true, "94d910d0f1bf6a9140102dcb78ba6ea4d7539fe31e589c379817aed80605a497"), looks := true }, kinds := [], alts := [], laidByText := true, laidKinds := [.data, .data, .data, .data, .sentinel, .sentinel, .pinned], laidTests := true, laidLooks := .later }
def ClaimsEachUptoCardSaid : Prop := Claim7.holds Tryz.pinned (.plain (OpenSpec.upto claimsEachSpec)) claimsEachUptoCard

/-- THE SECOND FORM's CARD OF 'signetlaw19.ClaimsWritten'. -/
def claimsWrittenUptoCard : Claim7 := { stood := { row := claimsWrittenUptoRow, standIns := [], harness := (true, "94d910d0f1bf6a9140102dcb78ba6ea4d7539fe31e589c379817aed80605a497"), looks := true }, kinds := [], alts := [], laidByText := true, laidKinds := [.data, .data, .data, .data, .sentinel, .sentinel, .pinned], laidTests := true, laidLooks := .later }
def ClaimsWrittenUptoCardSaid : Prop := Claim7.holds Tryz.pinned (.plain (OpenSpec.upto claimsWrittenSpec)) claimsWrittenUptoCard

/-- THE SECOND FORM's CARD OF 'signetlaw19.ClaimsParses'. -/
def claimsParsesUptoCard : Claim7 := { stood := { row := claimsParsesUptoRow, standIns := [], harness := (true, "94d910d0f1bf6a9140102dcb78ba6ea4d7539fe31e589c379817aed80605a497"), looks := true }, kinds := [], alts := [], laidByText := true, laidKinds := [.data, .data, .data, .data, .sentinel, .sentinel, .pinned], laidTests := true, laidLooks := .later }
def ClaimsParsesUptoCardSaid : Prop := Claim7.holds Tryz.pinned (.plain (OpenSpec.upto claimsParsesSpec)) claimsParsesUptoCard
end Rows
end Go.Proofs.YtjaopeenkbcjcaaGreatDoor
