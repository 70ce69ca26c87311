import Derived.Test.YtkfchdmlemcjhaaDoorSU
import Derived.Test.YtkfchdmlemcjhaaDoorDcWh
import Derived.Laws.ResultCell
namespace Go.Proofs.YtkfchdmlemcjhaaDoor
open Go.RowKit Go.Shelf

end Go.Proofs.YtkfchdmlemcjhaaDoor

namespace Go.Proofs.YtkfchdmlemcjhaaDoor
open Go.RowKit Go.Shelf

theorem results_cell {fn : Func} {p : Tmp} {ty : TypeId} (h : fn.results = #[.cell p ty]) (tmps : Array Value) (P : Program) (w : World) :
    (results fn tmps).run P w = ((asAddr (tmps.getD p undef)).run P w).andThen fun a w₁ => (loadVar ty a).run P w₁ := by
  simp only [results, h]
  simp [Sem.run_bind, Result.andThen]
set_option maxRecDepth 100000 in
set_option maxHeartbeats 2000000 in
theorem numberNode_any {B : Nat} (l : List UInt8) (w : World) (hl : l.length ≤ 1073741824) (hG : GL B w) (hBw : B ≤ w.heap.size) :
    Calls Tryd.prog 47 #[.string ⟨l.toArray⟩] w fun e w' => e = .returned (.agg #[.int .i64 (numN l).kind, .string ⟨(numN l).key.toArray⟩, .string ⟨(numN l).text.toArray⟩, .bool (numN l).whole, .int .i64 (numN l).int, .int .i64 (numN l).kids]) ∧ Below w.heap.size w w' := by
  have hA := alloc_below w (Obj.cells #[.int .i64 0, .string ⟨#[]⟩, .string ⟨#[]⟩, .bool false, .int .i64 0, .int .i64 0] 36)
  have hGA := hG.below (hA.mono hBw)
  obtain ⟨t1, p1, t2, p2, e1, e2⟩ := hGA.er
  have C := Dec.whole_any l _ (by omega) t1 t2 p1 p2 e1 e2
  have HBA : Hid (Below w.heap.size w (w.alloc (Obj.cells #[.int .i64 0, .string ⟨#[]⟩, .string ⟨#[]⟩, .bool false, .int .i64 0, .int .i64 0] 36))) := hA
  have HNA : Hid (Bl 36 (w.alloc (Obj.cells #[.int .i64 0, .string ⟨#[]⟩, .string ⟨#[]⟩, .bool false, .int .i64 0, .int .i64 0] 36)) w.heap.size [.int .i64 0, .string ⟨#[]⟩, .string ⟨#[]⟩, .bool false, .int .i64 0, .int .i64 0]) := alloc_bl _ _ _
  show Calls _ _ _ _ fun e w' => e = .returned (.agg #[.int .i64 4, .string ⟨#[]⟩, .string ⟨l.toArray⟩, .bool (Dec.wholeV (Dec.pcut l)).2, .int .i64 (Dec.wholeV (Dec.pcut l)).1, .int .i64 0]) ∧ Below w.heap.size w w'
  generalize (Dec.wholeV (Dec.pcut l)).1 = A at *
  generalize (Dec.wholeV (Dec.pcut l)).2 = F at *
  clear hA hGA e1 e2 hG
  go_enter Tryd.func47, Tryd.ntmps47
  go_wp2_with fail
  refine C.mono ?_
  clear C
  rintro e w1 ⟨rfl, hB1⟩
  have HN1 : Hid (Bl 36 w1 w.heap.size [.int .i64 0, .string ⟨#[]⟩, .string ⟨#[]⟩, .bool false, .int .i64 0, .int .i64 0]) := HNA.out.below hB1 HNA.out.lt
  have HB1 : Hid (Below w.heap.size w w1) := HBA.out.trans (hB1.mono HBA.out.size)
  have e0 := HN1.out.cell 0 (by simp)
  have e1 := HN1.out.cell 1 (by simp)
  have e2 := HN1.out.cell 2 (by simp)
  have e3 := HN1.out.cell 3 (by simp)
  have e4 := HN1.out.cell 4 (by simp)
  have e5 := HN1.out.cell 5 (by simp)
  simp only [List.getElem_cons_zero, List.getElem_cons_succ] at e0 e1 e2 e3 e4 e5
  have f0 := HN1.out.frozen 0
  have f1 := HN1.out.frozen 1
  have f2 := HN1.out.frozen 2
  have f3 := HN1.out.frozen 3
  have f4 := HN1.out.frozen 4
  have f5 := HN1.out.frozen 5
  clear hB1
  have hb := ((((((But.refl w1 w.heap.size).set 0 (.int .i64 4)).set 1 (.string ⟨#[]⟩)).set 2 (.string ⟨l.toArray⟩)).set 3 (.bool F)).set 4 (.int .i64 A)).set 5 (.int .i64 0)
  have HB2 := HB1.out.trans (hb.below HB1.out.size (Nat.le_refl _))
  have HB3 : Hid _ := HB2
  clear hb HB2
  go_wp2
  (try simp only [Exit.inBlock, Exit.then])
  refine bodyPost_ret (v := .agg #[.int .i64 4, .string ⟨#[]⟩, .string ⟨l.toArray⟩, .bool F, .int .i64 A, .int .i64 0]) ?_ rfl ⟨rfl, HB3.out⟩
  rw [results_cell rfl]; go_simp

end Go.Proofs.YtkfchdmlemcjhaaDoor

namespace Go.Proofs.YtkfchdmlemcjhaaDoor
open Go.RowKit Go.Shelf

/-- What a reader tells that has met a fault. -/
def Bd (w : World) (b : Nat) (c q : Int) : Prop := w.cell? ⟨b, 7, none⟩ = some (.int .i64 c) ∧ w.cell? ⟨b, 8, none⟩ = some (.int .i64 q)
end Go.Proofs.YtkfchdmlemcjhaaDoor

namespace Go.Proofs.YtkfchdmlemcjhaaDoor
open Go.RowKit Go.Shelf

end Go.Proofs.YtkfchdmlemcjhaaDoor

namespace Go.Proofs.YtkfchdmlemcjhaaDoor
open Go.RowKit Go.Shelf

end Go.Proofs.YtkfchdmlemcjhaaDoor

namespace Go.Proofs.YtkfchdmlemcjhaaDoor
open Go.RowKit Go.Shelf

end Go.Proofs.YtkfchdmlemcjhaaDoor

namespace Go.Proofs.YtkfchdmlemcjhaaDoor
open Go.RowKit Go.Shelf

/-- A list of nodes of one's own. -/
def NO (B : Nat) (w : World) (v : Value) (l : List Nd) : Prop := w.ownsRow B 36 6 v l.length (nCs l)

end Go.Proofs.YtkfchdmlemcjhaaDoor
