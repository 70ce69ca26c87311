import Derived.Test.YtccfcplhifbjlaaGreatDoorTa
import Derived.LaidEql
import Derived.Stop.Asserts
import Derived.Stop.IfaceNil
import Derived.Lib.IfaceEq
import Derived.RowKitTokens
namespace Go.Proofs.YtccfcplhifbjlaaGreatDoor
open Go.RowKit Go.Extern.Stop Go.Stop Go.Extern
set_option maxRecDepth 100000

theorem cmpCall (w : World) : (callFunc 359 #[.agg #[.pointer (some ⟨20, 23, none⟩)]]).run Tryz.prog w = .ok (Next.value (.bool true)) w := by kernel_rfl
theorem typCall (v : Value) (w : World) : (callFunc 214 #[.iface 23 v]).run Tryz.prog w = .ok (Next.value (.iface 245 (.agg #[.pointer (some ⟨20, 23, none⟩)]))) w := by kernel_rfl
theorem isMethodComparable (v : Value) (w : World) : (Go.method 428 245 v "Comparable").run Tryz.prog w = .ok (359, v) w := by kernel_rfl
theorem errComp : (Tryz.prog.info? 23).map (·.comparable) = some true := by kernel_rfl
theorem noIsE (v : Value) (xT : TypeId) (w : World) : (Instr.typeAssert (.iface 23 v) xT 247 true).run Tryz.prog w = .ok (.tuple #[.nilIface, .bool false]) w := run_typeAssert_lacksB Tryz.underlying247 (by kernel_rfl) (by kernel_rfl) v xT w
theorem noUnE (v : Value) (xT : TypeId) (w : World) : (Instr.typeAssert (.iface 23 v) xT 250 true).run Tryz.prog w = .ok (.tuple #[.nilIface, .bool false]) w := run_typeAssert_lacksB Tryz.underlying250 (by kernel_rfl) (by kernel_rfl) v xT w
theorem noUnsE (v : Value) (xT : TypeId) (w : World) : (Instr.typeAssert (.iface 23 v) xT 252 true).run Tryz.prog w = .ok (.tuple #[.nilIface, .bool false]) w := run_typeAssert_lacksB Tryz.underlying252 (by kernel_rfl) (by kernel_rfl) v xT w
theorem noIsF (v : Value) (xT : TypeId) (w : World) : (Instr.typeAssert (.iface 217 v) xT 247 true).run Tryz.prog w = .ok (.tuple #[.nilIface, .bool false]) w := run_typeAssert_lacksB Tryz.underlying247 (by kernel_rfl) (by kernel_rfl) v xT w
theorem hasUnF (v : Value) (xT : TypeId) (w : World) : (Instr.typeAssert (.iface 217 v) xT 250 true).run Tryz.prog w = .ok (.tuple #[.iface 217 v, .bool true]) w := run_typeAssert_hasB Tryz.underlying250 (by kernel_rfl) v xT w
theorem methodUn (v : Value) (w : World) : (Go.method 428 217 v "Unwrap").run Tryz.prog w = .ok (355, v) w := by kernel_rfl

theorem unwrap_any (b : Nat) (c : Int) (w : World) (h1 : w.cell? ⟨b, 1, none⟩ = some (.iface 23 (.int .i64 c))) : Calls Tryz.prog 355 #[.pointer (some ⟨b, 0, none⟩)] w fun e w' => e = .returned (.iface 23 (.int .i64 c)) ∧ w' = w := by
  go_enter Tryz.func355, Tryz.ntmps355
  go_wp2
  go_ret
  exact ⟨rfl, rfl⟩

set_option maxHeartbeats 4000000 in
/-- errors.is of a fault that wraps another code. -/
theorem eis_any (b : Nat) (c d : Int) (w : World) (h1 : w.cell? ⟨b, 1, none⟩ = some (.iface 23 (.int .i64 c))) (hne : c ≠ d) : Calls Tryz.prog 215 #[.iface 217 (.pointer (some ⟨b, 0, none⟩)), .iface 23 (.int .i64 d), .bool true] w fun e w' => e = .returned (.bool false) ∧ w' = w := by
  have nE := noIsE
  have uE := noUnE
  have vE := noUnsE
  have nF := noIsF
  have uF := hasUnF
  have mU := methodUn
  have hbe : (c == d) = false := beq_eq_false_iff_ne.2 hne
  have heq := Lib.run_eql_iface_int (P := Tryz.prog) w (k := .i64) c d Tryz.underlying112 errComp Tryz.underlying23
  rw [hbe] at heq
  have hty := run_eql_iface_types (P := Tryz.prog) 217 23 (.pointer (some ⟨b, 0, none⟩)) (.int .i64 d) Tryz.underlying112 (by decide) w
  have C := unwrap_any b c w h1
  go_enter Tryz.func215, Tryz.ntmps215
  go_wp2
  refine wp_loop_rounds 2 ?_
  rw [rounds_succ]
  go_wp2_with fail
  refine C.mono ?_
  rintro e w1 ⟨rfl, rfl⟩
  go_wp2
  rw [rounds_succ]
  go_wp2
  go_ret
  exact ⟨rfl, rfl⟩

set_option maxHeartbeats 4000000 in
theorem eIs_any (b : Nat) (c d : Int) (w : World) (h1 : w.cell? ⟨b, 1, none⟩ = some (.iface 23 (.int .i64 c))) (hne : c ≠ d) : Calls Tryz.prog 134 #[.iface 217 (.pointer (some ⟨b, 0, none⟩)), .iface 23 (.int .i64 d)] w fun e w' => e = .returned (.bool false) ∧ w' = w := by
  have h8 := typCall
  have h32 := cmpCall
  have mR := isMethodComparable
  have C := eis_any b c d w h1 hne
  go_enter Tryz.func134, Tryz.ntmps134
  go_wp2_with fail
  refine C.mono ?_
  rintro e w1 ⟨rfl, rfl⟩
  go_wp2
  go_ret
  exact ⟨rfl, rfl⟩

end Go.Proofs.YtccfcplhifbjlaaGreatDoor
