/-
  DERIVED. GIVEN WITH THE SEED: THE CARDS: each row of YtfpimcmhooiooaaDoorRows.lean that lists a variable, with what it lists TIED to the program's text (the seventh form; the later family's looks); each row that meets fmt, with fmt's text TOLD by the authors' own Lean function (tested against real Go, not proved from fmt's source: count such statements apart). THE CARD IS WHAT COUNTS. Prove the row's statement (the work); the ties are given (YtfpimcmhooiooaaDoorTie.lean); close each card by the builder's one call (the guide's Derived/Test/ToyasCard.lean, 'card_holds'). Laid BY PROGRAM, IN A SANDBOX (cutbox-door.mjs). By AI agents, Wed Nov 11 2026. No macro, syntax, notation, axiom, sorry.
-/
import Derived.Test.YtfpimcmhooiooaaDoorRows
import GoSem.ClaimSeven
namespace Go.Proofs.YtfpimcmhooiooaaDoor
namespace Rows

/-- THE TIED CARD OF 'signetlaw17.HeaderAllows'. -/
def headerAllowsCard : Claim7 := { stood := { row := headerAllowsRow, standIns := [], harness := (true, "4dc4b8c80be613637de4bc1d22af1d754121e3ebe50cc6aa4dd22a24bb7f25ee"), looks := true }, kinds := [], alts := [], laidByText := true, laidKinds := [.wider], laidTests := true, laidLooks := .later }
def HeaderAllowsCardSaid : Prop := Claim7.holds Tryd.pinned (.plain (OpenSpec.ofChange headerAllowsSpec)) headerAllowsCard

/-- THE TIED CARD OF 'signetlaw17.HeaderWrites'. -/
def headerWritesCard : Claim7 := { stood := { row := headerWritesRow, standIns := [], harness := (true, "4dc4b8c80be613637de4bc1d22af1d754121e3ebe50cc6aa4dd22a24bb7f25ee"), looks := true }, kinds := [], alts := [], laidByText := true, laidKinds := [.data, .data, .data, .data, .sentinel, .sentinel, .wider, .pinned], laidTests := true, laidLooks := .later }
def HeaderWritesCardSaid : Prop := Claim7.holds Tryd.pinned (.plain (OpenSpec.ofChange headerWritesSpec)) headerWritesCard

/-- THE SECOND FORM's CARD OF 'signetlaw17.HeaderAllows'. -/
def headerAllowsUptoCard : Claim7 := { stood := { row := headerAllowsUptoRow, standIns := [], harness := (true, "4dc4b8c80be613637de4bc1d22af1d754121e3ebe50cc6aa4dd22a24bb7f25ee"), looks := true }, kinds := [], alts := [], laidByText := true, laidKinds := [.wider], laidTests := true, laidLooks := .later }
def HeaderAllowsUptoCardSaid : Prop := Claim7.holds Tryd.pinned (.plain (OpenSpec.upto headerAllowsSpec)) headerAllowsUptoCard

/-- THE SECOND FORM's CARD OF 'signetlaw17.HeaderWrites'. -/
def headerWritesUptoCard : Claim7 := { stood := { row := headerWritesUptoRow, standIns := [], harness := (true, "4dc4b8c80be613637de4bc1d22af1d754121e3ebe50cc6aa4dd22a24bb7f25ee"), looks := true }, kinds := [], alts := [], laidByText := true, laidKinds := [.data, .data, .data, .data, .sentinel, .sentinel, .wider, .pinned], laidTests := true, laidLooks := .later }
def HeaderWritesUptoCardSaid : Prop := Claim7.holds Tryd.pinned (.plain (OpenSpec.upto headerWritesSpec)) headerWritesUptoCard
end Rows
end Go.Proofs.YtfpimcmhooiooaaDoor
