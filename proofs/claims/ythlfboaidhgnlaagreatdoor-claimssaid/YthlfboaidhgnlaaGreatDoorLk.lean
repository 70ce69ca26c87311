import Derived.Test.YthlfboaidhgnlaaGreatDoorCk
import Derived.Test.YthlfboaidhgnlaaGreatDoorTZ
namespace Go.Proofs.YthlfboaidhgnlaaGreatDoor
open Go.RowKit Go.Shelf

theorem fields_win : (Tryz.prog.fieldsOf 32).toList = [⟨"Empty", 4, 0, false, "", "", 0⟩, ⟨"From", 2, 1, false, "", "", 8⟩, ⟨"To", 2, 2, false, "", "", 16⟩] := by kernel_rfl
theorem fields_tm : (Tryz.prog.fieldsOf 25).toList = [⟨"Has", 4, 0, false, "", "", 0⟩, ⟨"At", 2, 1, false, "", "", 8⟩] := by kernel_rfl
set_option maxRecDepth 100000 in
theorem run_win (w : World) (a a' : Bool) (b c b' c' : Int) : (binOp .eql 32 (.agg #[.bool a, .int .i64 b, .int .i64 c]) (.agg #[.bool a', .int .i64 b', .int .i64 c'])).run Tryz.prog w = .ok (.bool ((a == a') && ((b == b') && (c == c')))) w := by
  have ht : Tryz.prog.underlying 32 = some (.struct (Tryz.prog.fieldsOf 32)) := by kernel_rfl
  have hp : Tryz.prog.stoodInHeld 32 = false := by kernel_rfl
  have u4 : Tryz.prog.underlying 4 = some .bool := by kernel_rfl
  have u2 : Tryz.prog.underlying 2 = some (.int .i64) := by kernel_rfl
  have e1 : (Op.equalIn 9999 4 (.bool a) (.bool a')).run Tryz.prog w = .ok (a == a') w := run_equalIn_bool' w 9998 4 _ _ u4
  have e2 : (Op.equalIn 9999 2 (.int .i64 b) (.int .i64 b')).run Tryz.prog w = .ok (b == b') w := run_equalIn_int w 9998 2 .i64 .i64 b b' u2
  have e3 : (Op.equalIn 9999 2 (.int .i64 c) (.int .i64 c')).run Tryz.prog w = .ok (c == c') w := run_equalIn_int w 9998 2 .i64 .i64 c c' u2
  rw [run_eql_struct]
  show Result.andThen ((Op.equalIn (9999 + 1) 32 _ _).run Tryz.prog w) _ = _
  rw [run_equalIn_struct w 9999 32 _ _ ht hp, fields_win]
  rw [eqf_step (x := .bool a) (y := .bool a') (by decide) (by kernel_rfl) (by kernel_rfl) e1]
  rw [eqf_step (x := .int .i64 b) (y := .int .i64 b') (by decide) (by kernel_rfl) (by kernel_rfl) e2]
  rw [eqf_step (x := .int .i64 c) (y := .int .i64 c') (by decide) (by kernel_rfl) (by kernel_rfl) e3]
  have hn : (Op.eqFields 9999 #[.bool a, .int .i64 b, .int .i64 c] #[.bool a', .int .i64 b', .int .i64 c'] []).run Tryz.prog w = .ok true w := rfl
  rw [hn]
  cases (a == a') <;> cases (b == b') <;> cases (c == c') <;> rfl
set_option maxRecDepth 100000 in
theorem run_tm (w : World) (a a' : Bool) (b b' : Int) : (binOp .eql 25 (.agg #[.bool a, .int .i64 b]) (.agg #[.bool a', .int .i64 b'])).run Tryz.prog w = .ok (.bool ((a == a') && (b == b'))) w := by
  have ht : Tryz.prog.underlying 25 = some (.struct (Tryz.prog.fieldsOf 25)) := by kernel_rfl
  have hp : Tryz.prog.stoodInHeld 25 = false := by kernel_rfl
  have u4 : Tryz.prog.underlying 4 = some .bool := by kernel_rfl
  have u2 : Tryz.prog.underlying 2 = some (.int .i64) := by kernel_rfl
  have e1 : (Op.equalIn 9999 4 (.bool a) (.bool a')).run Tryz.prog w = .ok (a == a') w := run_equalIn_bool' w 9998 4 _ _ u4
  have e2 : (Op.equalIn 9999 2 (.int .i64 b) (.int .i64 b')).run Tryz.prog w = .ok (b == b') w := run_equalIn_int w 9998 2 .i64 .i64 b b' u2
  rw [run_eql_struct]
  show Result.andThen ((Op.equalIn (9999 + 1) 25 _ _).run Tryz.prog w) _ = _
  rw [run_equalIn_struct w 9999 25 _ _ ht hp, fields_tm]
  rw [eqf_step (x := .bool a) (y := .bool a') (by decide) (by kernel_rfl) (by kernel_rfl) e1]
  rw [eqf_step (x := .int .i64 b) (y := .int .i64 b') (by decide) (by kernel_rfl) (by kernel_rfl) e2]
  have hn : (Op.eqFields 9999 #[.bool a, .int .i64 b] #[.bool a', .int .i64 b'] []).run Tryz.prog w = .ok true w := rfl
  rw [hn]
  cases (a == a') <;> cases (b == b') <;> rfl

end Go.Proofs.YthlfboaidhgnlaaGreatDoor
