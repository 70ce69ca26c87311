/-
  DERIVED. GIVEN WITH THE SEED: THE CARDS: each row of YtjaopeenkbcjcaaDoorRows.lean that lists a variable, with what it lists TIED to the program's text (the seventh form; the later family's looks); each row that meets fmt, with fmt's text TOLD by the authors' own Lean function (tested against real Go, not proved from fmt's source: count such statements apart). THE CARD IS WHAT COUNTS. Prove the row's statement (the work); the ties are given (YtjaopeenkbcjcaaDoorTie.lean); close each card by the builder's one call (the guide's Derived/Test/ToyasCard.lean, 'card_holds'). Laid BY PROGRAM, IN A SANDBOX (cutbox-door.mjs). By AI agents, Wed Nov 11 2026. No macro, syntax, notation, axiom, sorry.
-/
import Derived.Test.YtjaopeenkbcjcaaDoorRows
import GoSem.ClaimSeven
namespace Go.Proofs.YtjaopeenkbcjcaaDoor
namespace Rows

/-- THE TIED CARD OF 'signetlaw19.ClaimsChecks'. -/
def claimsChecksCard : Claim7 := { stood := { row := claimsChecksRow, standIns := [], harness := (true, "a3390c37ed9cc627c1f1b6dcf48b04d18958e61135b10f171a24489b4070387f"), looks := true }, kinds := [], alts := [], laidByText := true, laidKinds := [.data, .data, .data, .data, .sentinel, .sentinel, .pinned], laidTests := true, laidLooks := .later }
def ClaimsChecksCardSaid : Prop := Claim7.holds Tryd.pinned (.plain (OpenSpec.ofChange claimsChecksSpec)) claimsChecksCard

/-- THE SECOND FORM's CARD OF 'signetlaw19.ClaimsChecks'. -/
def claimsChecksUptoCard : Claim7 := { stood := { row := claimsChecksUptoRow, standIns := [], harness := (true, "a3390c37ed9cc627c1f1b6dcf48b04d18958e61135b10f171a24489b4070387f"), looks := true }, kinds := [], alts := [], laidByText := true, laidKinds := [.data, .data, .data, .data, .sentinel, .sentinel, .pinned], laidTests := true, laidLooks := .later }
def ClaimsChecksUptoCardSaid : Prop := Claim7.holds Tryd.pinned (.plain (OpenSpec.upto claimsChecksSpec)) claimsChecksUptoCard
end Rows
end Go.Proofs.YtjaopeenkbcjcaaDoor
