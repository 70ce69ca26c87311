import Derived.Test.YtmngdaolgdhgmaaGreatDoorNtZ8
import Derived.Test.YtmngdaolgdhgmaaGreatDoorRows
import Derived.Test.YtmngdaolgdhgmaaGreatDoorTie
import Derived.Test.YtmngdaolgdhgmaaGreatDoorCards
import Derived.Deep.Strs
import Derived.Deep.DeepHandedRow
import Derived.Lay
import Derived.Lib.LaidTab
import Derived.Stop.LaidErr
import Derived.Deep.DeepWitnessRowRef
namespace Go.Proofs.YtmngdaolgdhgmaaGreatDoor
open Go.ChangeShapes Go.WideShapes Go.ChangeAt Go.RowKit Go.Deep

theorem cellsN : Tryz.prog.cellsOf 24 = 1 := by kernel_rfl
theorem cellsBo : Tryz.prog.cellsOf 4 = 1 := by kernel_rfl
theorem cellsPt : Tryz.prog.cellsOf 26 = 3 := by kernel_rfl
/-- A number, by its cell. -/
theorem open_natC {H : Type} {enc : TypeId × Value → H} {W : World} {held : Bool} {cs : List Value} {d : DataW H} {p : List MemPlace} {fuel : Nat}
    (hf : DataW.trod enc Tryz.prog W 0 (fun _ => true) held fuel 24 cs = some (d, p)) :
    ∃ (x : Value) (l : List Nat), cs = [x] ∧ Nm W x l ∧ l.length ≤ Rows.uptoBulk d := by
  rcases open_slice1 Tryz.underlying24 cellsU hf with ⟨hcs, hx⟩ | ⟨x, len, cap, m, n, V, D, Pl, hcs, _, hl, hm, hmm, hx, hall⟩
  · exact ⟨_, [], hcs, ⟨none, 0, rfl, Nat.le_refl _, Rn.nil _ _, fun y hy => by cases hy⟩, Nat.zero_le _⟩
  · simp only [if_true] at hmm
    subst hmm
    have hf2 : DataW.trod enc Tryz.prog W 0 (fun _ => true) held fuel 24 (Value.slice (some x) len m).cells.toList = some (d, p) := by rw [hcs] at hf; exact hf
    obtain ⟨l, h1, h2, h3, h4, h5, _⟩ := open_nat rfl hf2
    exact ⟨_, l, hcs, ⟨some x, m, by rw [h1], by omega, h4, h5⟩, by omega⟩
set_option maxRecDepth 100000 in
/-- A point that came in. -/
theorem open_point {H : Type} {enc : TypeId × Value → H} {W : World} {base : Nat} {v : Value} {held : Bool} {d : DataW H} {p : List MemPlace} {fuel : Nat} (hv : Value.okWide Tryz.prog W .any base 26 v)
    (hf : DataW.trod enc Tryz.prog W 0 (fun _ => true) held fuel 26 v.cells.toList = some (d, p)) :
    ∃ (x y : Value) (inf : Bool) (X Y : List Nat), v = .agg #[x, y, .bool inf] ∧ Nm W x X ∧ Nm W y Y ∧ X.length + Y.length ≤ Rows.uptoBulk d := by
  obtain ⟨cs, rfl, hsz⟩ := okWide_struct Tryz.underlying26 hv
  obtain ⟨y0, y1, y2, n, hx, hl, h0, h1, h2⟩ := trod_struct3 Tryz.underlying26 hf
  rw [cellsPt] at hl
  obtain ⟨l⟩ := cs
  simp only [Value.cells] at hl h0 h1 h2
  match l, hl with
  | [c0, c1, c2], _ =>
    simp only [cellsN, cellsBo, List.drop_zero, List.drop_succ_cons, List.take_succ_cons, List.take_zero] at h0 h1 h2
    obtain ⟨x, X, e0, n0, b0⟩ := open_natC h0
    obtain ⟨y, Y, e1, n1, b1⟩ := open_natC h1
    obtain ⟨f, e2, _⟩ := DataW.trod_bool Tryz.underlying4 h2
    simp only [List.cons.injEq, and_true] at e0 e1 e2
    refine ⟨x, y, f, X, Y, by rw [e0, e1, e2], n0, n1, ?_⟩
    simp only [Prod.mk.injEq] at hx
    rw [hx.1]
    simp only [Rows.uptoBulk, Rows.uptoBulkAll]
    omega
theorem Nm.nu {w : World} {v : Value} {xs : List Nat} (h : Nm w v xs) (hl : xs.length ≤ 3000000) : Nu w v (nv Bs xs) := ⟨xs, h, rfl, hl⟩
end Go.Proofs.YtmngdaolgdhgmaaGreatDoor
