/-
  No cell of these rows narrows 'for every input' (looked for: loops, veiled, ifaces, maps, wideKeys, modest, calm, conditions, laid).
  DERIVED. THE GIVEN ROWS OF THIS SEAT. 7 by the template 'for every input the law returns true; each argument reads behind the call as it read before'; 0 by the template 'total and deterministic' (their statements: YtecapoknnnoheaaTotals.lean).
  GIVEN WITH THE SEED: the statements are not yours to turn. If you find one false, say at which input.
  Laid BY PROGRAM, IN A SANDBOX (cutbox-rows.mjs): the forced cells as the released guide's own fill.sh prints them over the translation 4e75e1588bfb4600… (all of the seat's roots in one cut). By AI agents, Wed Nov 11 2026. No macro, syntax, notation, axiom, sorry.
-/
import Derived.Test.YtecapoknnnoheaaChecked
import GoSem.Claim
import GoSem.ClaimJoined
import GoSem.ClaimMapViews
import Derived.JoinedTies
import Derived.KernelRfl
namespace Go.Proofs.Ytecapoknnnoheaa
/- THE CELL 'sum', in the pinned program and in every row, IS THE sha256 OF THE DUMP (.gsa) THAT YtecapoknnnoheaaProg.lean LOADS. Nothing in Lean hashes anything: it is a label: what it is worth is what the hold of that sum in a sandbox is worth. -/
noncomputable def Try.pinned : Pinned := { name := "ytecapoknnnoheaa", sum := "4e75e1588bfb4600f6a2e9496310f09515659b4d20985427e2062fe5c26ba2c3", checked := Try.checked }
namespace Rows
def none {H : Type} : Left H := { results := [], args := [] }

/-- 'signetlaw7.ModnPowers': WHATEVER THE INPUT: true; the input reads as it did. -/
def modnPowersSpec : ChangeSpec := { name := "modnPowers", fn := fun _ => fun
  | [d1, d2, d3] => { results := [.lit (.bool true)], args := [d1, d2, d3] }
  | _ => none }
def modnPowersRow : OpenClaim := { program := "ytecapoknnnoheaa", sum := "4e75e1588bfb4600f6a2e9496310f09515659b4d20985427e2062fe5c26ba2c3", func := "signet/signetlaw7.ModnPowers", spec := "modnPowers", unfollowed := true, recurses := true, apart := false }
def ModnPowersSaid : Prop := modnPowersRow.holds Try.pinned (OpenSpec.ofChange modnPowersSpec)

/-- ITS FALSE NEIGHBOUR: 'it returns false'. Refute it at one input. -/
def modnPowersWrong : ChangeSpec := { name := "modnPowers", fn := fun _ => fun
  | [d1, d2, d3] => { results := [.lit (.bool false)], args := [d1, d2, d3] }
  | _ => none }
def ModnPowersWrongFalsely : Prop := modnPowersRow.holds Try.pinned (OpenSpec.ofChange modnPowersWrong)

/-- 'signetlaw7.ModnSpares': WHATEVER THE INPUT: true; the input reads as it did. -/
def modnSparesSpec : ChangeSpec := { name := "modnSpares", fn := fun _ => fun
  | [d1, d2, d3] => { results := [.lit (.bool true)], args := [d1, d2, d3] }
  | _ => none }
def modnSparesRow : OpenClaim := { program := "ytecapoknnnoheaa", sum := "4e75e1588bfb4600f6a2e9496310f09515659b4d20985427e2062fe5c26ba2c3", func := "signet/signetlaw7.ModnSpares", spec := "modnSpares", unfollowed := true, recurses := true, apart := false }
def ModnSparesSaid : Prop := modnSparesRow.holds Try.pinned (OpenSpec.ofChange modnSparesSpec)

/-- ITS FALSE NEIGHBOUR: 'it returns false'. Refute it at one input. -/
def modnSparesWrong : ChangeSpec := { name := "modnSpares", fn := fun _ => fun
  | [d1, d2, d3] => { results := [.lit (.bool false)], args := [d1, d2, d3] }
  | _ => none }
def ModnSparesWrongFalsely : Prop := modnSparesRow.holds Try.pinned (OpenSpec.ofChange modnSparesWrong)

/-- 'signetlaw7.ModnExp': WHATEVER THE INPUT: true; the input reads as it did. -/
def modnExpSpec : ChangeSpec := { name := "modnExp", fn := fun _ => fun
  | [d1, d2, d3, d4, d5] => { results := [.lit (.bool true)], args := [d1, d2, d3, d4, d5] }
  | _ => none }
def modnExpRow : OpenClaim := { program := "ytecapoknnnoheaa", sum := "4e75e1588bfb4600f6a2e9496310f09515659b4d20985427e2062fe5c26ba2c3", func := "signet/signetlaw7.ModnExp", spec := "modnExp", unfollowed := true, recurses := true, apart := false }
def ModnExpSaid : Prop := modnExpRow.holds Try.pinned (OpenSpec.ofChange modnExpSpec)

/-- ITS FALSE NEIGHBOUR: 'it returns false'. Refute it at one input. -/
def modnExpWrong : ChangeSpec := { name := "modnExp", fn := fun _ => fun
  | [d1, d2, d3, d4, d5] => { results := [.lit (.bool false)], args := [d1, d2, d3, d4, d5] }
  | _ => none }
def ModnExpWrongFalsely : Prop := modnExpRow.holds Try.pinned (OpenSpec.ofChange modnExpWrong)

/-- 'signetlaw7.ModnDefined': WHATEVER THE INPUT: true; the input reads as it did. -/
def modnDefinedSpec : ChangeSpec := { name := "modnDefined", fn := fun _ => fun
  | [d1, d2, d3] => { results := [.lit (.bool true)], args := [d1, d2, d3] }
  | _ => none }
def modnDefinedRow : OpenClaim := { program := "ytecapoknnnoheaa", sum := "4e75e1588bfb4600f6a2e9496310f09515659b4d20985427e2062fe5c26ba2c3", func := "signet/signetlaw7.ModnDefined", spec := "modnDefined", unfollowed := true, recurses := true, apart := false }
def ModnDefinedSaid : Prop := modnDefinedRow.holds Try.pinned (OpenSpec.ofChange modnDefinedSpec)

/-- ITS FALSE NEIGHBOUR: 'it returns false'. Refute it at one input. -/
def modnDefinedWrong : ChangeSpec := { name := "modnDefined", fn := fun _ => fun
  | [d1, d2, d3] => { results := [.lit (.bool false)], args := [d1, d2, d3] }
  | _ => none }
def ModnDefinedWrongFalsely : Prop := modnDefinedRow.holds Try.pinned (OpenSpec.ofChange modnDefinedWrong)

/-- 'signetlaw7.ModnInverse': WHATEVER THE INPUT: true; the input reads as it did. -/
def modnInverseSpec : ChangeSpec := { name := "modnInverse", fn := fun _ => fun
  | [d1, d2, d3] => { results := [.lit (.bool true)], args := [d1, d2, d3] }
  | _ => none }
def modnInverseRow : OpenClaim := { program := "ytecapoknnnoheaa", sum := "4e75e1588bfb4600f6a2e9496310f09515659b4d20985427e2062fe5c26ba2c3", func := "signet/signetlaw7.ModnInverse", spec := "modnInverse", unfollowed := true, recurses := true, apart := false }
def ModnInverseSaid : Prop := modnInverseRow.holds Try.pinned (OpenSpec.ofChange modnInverseSpec)

/-- ITS FALSE NEIGHBOUR: 'it returns false'. Refute it at one input. -/
def modnInverseWrong : ChangeSpec := { name := "modnInverse", fn := fun _ => fun
  | [d1, d2, d3] => { results := [.lit (.bool false)], args := [d1, d2, d3] }
  | _ => none }
def ModnInverseWrongFalsely : Prop := modnInverseRow.holds Try.pinned (OpenSpec.ofChange modnInverseWrong)

/-- 'signetlaw7.ModnRing': WHATEVER THE INPUT: true; the input reads as it did. -/
def modnRingSpec : ChangeSpec := { name := "modnRing", fn := fun _ => fun
  | [d1, d2, d3, d4] => { results := [.lit (.bool true)], args := [d1, d2, d3, d4] }
  | _ => none }
def modnRingRow : OpenClaim := { program := "ytecapoknnnoheaa", sum := "4e75e1588bfb4600f6a2e9496310f09515659b4d20985427e2062fe5c26ba2c3", func := "signet/signetlaw7.ModnRing", spec := "modnRing", unfollowed := true, recurses := true, apart := false }
def ModnRingSaid : Prop := modnRingRow.holds Try.pinned (OpenSpec.ofChange modnRingSpec)

/-- ITS FALSE NEIGHBOUR: 'it returns false'. Refute it at one input. -/
def modnRingWrong : ChangeSpec := { name := "modnRing", fn := fun _ => fun
  | [d1, d2, d3, d4] => { results := [.lit (.bool false)], args := [d1, d2, d3, d4] }
  | _ => none }
def ModnRingWrongFalsely : Prop := modnRingRow.holds Try.pinned (OpenSpec.ofChange modnRingWrong)

/-- 'signetlaw7.ModnReckons': WHATEVER THE INPUT: true; the input reads as it did. -/
def modnReckonsSpec : ChangeSpec := { name := "modnReckons", fn := fun _ => fun
  | [d1, d2, d3] => { results := [.lit (.bool true)], args := [d1, d2, d3] }
  | _ => none }
def modnReckonsRow : OpenClaim := { program := "ytecapoknnnoheaa", sum := "4e75e1588bfb4600f6a2e9496310f09515659b4d20985427e2062fe5c26ba2c3", func := "signet/signetlaw7.ModnReckons", spec := "modnReckons", unfollowed := true, recurses := true, apart := false }
def ModnReckonsSaid : Prop := modnReckonsRow.holds Try.pinned (OpenSpec.ofChange modnReckonsSpec)

/-- ITS FALSE NEIGHBOUR: 'it returns false'. Refute it at one input. -/
def modnReckonsWrong : ChangeSpec := { name := "modnReckons", fn := fun _ => fun
  | [d1, d2, d3] => { results := [.lit (.bool false)], args := [d1, d2, d3] }
  | _ => none }
def ModnReckonsWrongFalsely : Prop := modnReckonsRow.holds Try.pinned (OpenSpec.ofChange modnReckonsWrong)

/- THE SECOND FORM. 'bulk': how many values and letters a reading holds, each counted each time it is reached (what is shared counts as often as it is met; a slice's spare places count too). A statement '..UptoSaid' is the law's where the arguments, and the package variables that the reading takes, are together of bulk at most 1048576: NARROWER than '..Said'. Prove '..Said' where nothing that the law and all that it calls make is longer than what came in: it says more and counts as full. Else prove '..UptoSaid'. A law counts once. -/
mutual
def uptoBulk {H : Type} : DataW H → Nat
  | .lit (.string bytes) => bytes.length + 1
  | .lit _ => 1
  | .nil => 1
  | .ptr d => uptoBulk d + 1
  | .slice elems spare => uptoBulkAll elems + uptoBulkAll spare + 1
  | .agg parts => uptoBulkAll parts + 1
  | .iface _ d => uptoBulk d + 1
  | .map entries => uptoBulkEntries entries + 1
  | .held _ => 1
def uptoBulkAll {H : Type} : List (DataW H) → Nat
  | [] => 0
  | d :: r => uptoBulk d + uptoBulkAll r
def uptoBulkEntries {H : Type} : List (Lit × DataW H) → Nat
  | [] => 0
  | x :: r => uptoBulkEntry x + uptoBulkEntries r
def uptoBulkEntry {H : Type} : Lit × DataW H → Nat
  | (.string bytes, d) => bytes.length + uptoBulk d + 1
  | (_, d) => uptoBulk d + 1
 end
def uptoSmall : (H : Type) → List (DataW H) → Bool := fun _ ds => decide (uptoBulkAll ds ≤ 1048576)
def OpenSpec.upto (s : _root_.Go.ChangeSpec) : _root_.Go.OpenSpec := { _root_.Go.OpenSpec.ofChange s with cond := some uptoSmall }

/-- 'signetlaw7.ModnPowers', WHERE WHAT IT READS IS OF BULK AT MOST 1048576: true; the input reads as it did. -/
def modnPowersUptoRow : OpenClaim := { program := "ytecapoknnnoheaa", sum := "4e75e1588bfb4600f6a2e9496310f09515659b4d20985427e2062fe5c26ba2c3", func := "signet/signetlaw7.ModnPowers", spec := "modnPowers", unfollowed := true, recurses := true, apart := false, narrowed := true }
def ModnPowersUptoSaid : Prop := modnPowersUptoRow.holds Try.pinned (OpenSpec.upto modnPowersSpec)

/-- 'signetlaw7.ModnSpares', WHERE WHAT IT READS IS OF BULK AT MOST 1048576: true; the input reads as it did. -/
def modnSparesUptoRow : OpenClaim := { program := "ytecapoknnnoheaa", sum := "4e75e1588bfb4600f6a2e9496310f09515659b4d20985427e2062fe5c26ba2c3", func := "signet/signetlaw7.ModnSpares", spec := "modnSpares", unfollowed := true, recurses := true, apart := false, narrowed := true }
def ModnSparesUptoSaid : Prop := modnSparesUptoRow.holds Try.pinned (OpenSpec.upto modnSparesSpec)

/-- 'signetlaw7.ModnExp', WHERE WHAT IT READS IS OF BULK AT MOST 1048576: true; the input reads as it did. -/
def modnExpUptoRow : OpenClaim := { program := "ytecapoknnnoheaa", sum := "4e75e1588bfb4600f6a2e9496310f09515659b4d20985427e2062fe5c26ba2c3", func := "signet/signetlaw7.ModnExp", spec := "modnExp", unfollowed := true, recurses := true, apart := false, narrowed := true }
def ModnExpUptoSaid : Prop := modnExpUptoRow.holds Try.pinned (OpenSpec.upto modnExpSpec)

/-- 'signetlaw7.ModnDefined', WHERE WHAT IT READS IS OF BULK AT MOST 1048576: true; the input reads as it did. -/
def modnDefinedUptoRow : OpenClaim := { program := "ytecapoknnnoheaa", sum := "4e75e1588bfb4600f6a2e9496310f09515659b4d20985427e2062fe5c26ba2c3", func := "signet/signetlaw7.ModnDefined", spec := "modnDefined", unfollowed := true, recurses := true, apart := false, narrowed := true }
def ModnDefinedUptoSaid : Prop := modnDefinedUptoRow.holds Try.pinned (OpenSpec.upto modnDefinedSpec)

/-- 'signetlaw7.ModnInverse', WHERE WHAT IT READS IS OF BULK AT MOST 1048576: true; the input reads as it did. -/
def modnInverseUptoRow : OpenClaim := { program := "ytecapoknnnoheaa", sum := "4e75e1588bfb4600f6a2e9496310f09515659b4d20985427e2062fe5c26ba2c3", func := "signet/signetlaw7.ModnInverse", spec := "modnInverse", unfollowed := true, recurses := true, apart := false, narrowed := true }
def ModnInverseUptoSaid : Prop := modnInverseUptoRow.holds Try.pinned (OpenSpec.upto modnInverseSpec)

/-- 'signetlaw7.ModnRing', WHERE WHAT IT READS IS OF BULK AT MOST 1048576: true; the input reads as it did. -/
def modnRingUptoRow : OpenClaim := { program := "ytecapoknnnoheaa", sum := "4e75e1588bfb4600f6a2e9496310f09515659b4d20985427e2062fe5c26ba2c3", func := "signet/signetlaw7.ModnRing", spec := "modnRing", unfollowed := true, recurses := true, apart := false, narrowed := true }
def ModnRingUptoSaid : Prop := modnRingUptoRow.holds Try.pinned (OpenSpec.upto modnRingSpec)

/-- 'signetlaw7.ModnReckons', WHERE WHAT IT READS IS OF BULK AT MOST 1048576: true; the input reads as it did. -/
def modnReckonsUptoRow : OpenClaim := { program := "ytecapoknnnoheaa", sum := "4e75e1588bfb4600f6a2e9496310f09515659b4d20985427e2062fe5c26ba2c3", func := "signet/signetlaw7.ModnReckons", spec := "modnReckons", unfollowed := true, recurses := true, apart := false, narrowed := true }
def ModnReckonsUptoSaid : Prop := modnReckonsUptoRow.holds Try.pinned (OpenSpec.upto modnReckonsSpec)

end Rows
end Go.Proofs.Ytecapoknnnoheaa
