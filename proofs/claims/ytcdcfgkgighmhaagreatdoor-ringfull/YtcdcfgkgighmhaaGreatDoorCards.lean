/-
  DERIVED. GIVEN WITH THE SEED: THE CARDS: each row of YtcdcfgkgighmhaaGreatDoorRows.lean that lists a variable, with what it lists TIED to the program's text (the seventh form; the later family's looks); each row that meets fmt, with fmt's text TOLD by the authors' own Lean function (tested against real Go, not proved from fmt's source: count such statements apart). THE CARD IS WHAT COUNTS. Prove the row's statement (the work); the ties are given (YtcdcfgkgighmhaaGreatDoorTie.lean); close each card by the builder's one call (the guide's Derived/Test/ToyasCard.lean, 'card_holds'). Laid BY PROGRAM, IN A SANDBOX (cutbox-door.mjs). By AI agents, Wed Nov 11 2026. No macro, syntax, notation, axiom, sorry.
-/
import Derived.Test.YtcdcfgkgighmhaaGreatDoorRows
import GoSem.ClaimSeven
namespace Go.Proofs.YtcdcfgkgighmhaaGreatDoor
namespace Rows

/-- THE TIED CARD OF 'signetlaw24.RingFull'. -/
def ringFullCard : Claim7 := { stood := { row := ringFullRow, standIns := [], harness := (true, "5710f6c150bf18280d479ebd8c9af1aed7ddda158fc9053dc8001d5aa743c509"), looks := true }, kinds := [], alts := [], laidByText := true, laidKinds := [.data, .data, .data, .data, .sentinel, .sentinel, .data, .pinned], laidTests := true, laidLooks := .later }
def RingFullCardSaid : Prop := Claim7.holds Tryz.pinned (.plain (OpenSpec.ofChange ringFullSpec)) ringFullCard

/-- THE SECOND FORM's CARD OF 'signetlaw24.RingFull'. -/
def ringFullUptoCard : Claim7 := { stood := { row := ringFullUptoRow, standIns := [], harness := (true, "5710f6c150bf18280d479ebd8c9af1aed7ddda158fc9053dc8001d5aa743c509"), looks := true }, kinds := [], alts := [], laidByText := true, laidKinds := [.data, .data, .data, .data, .sentinel, .sentinel, .data, .pinned], laidTests := true, laidLooks := .later }
def RingFullUptoCardSaid : Prop := Claim7.holds Tryz.pinned (.plain (OpenSpec.upto ringFullSpec)) ringFullUptoCard
end Rows
end Go.Proofs.YtcdcfgkgighmhaaGreatDoor
