import Derived.Test.YtkfchdmlemcjhaaSU
import Derived.Test.YtkfchdmlemcjhaaDcWh
import Derived.Laws.ResultCell
namespace Go.Proofs.Ytkfchdmlemcjhaa
open Go.RowKit Go.Shelf

end Go.Proofs.Ytkfchdmlemcjhaa

namespace Go.Proofs.Ytkfchdmlemcjhaa
open Go.RowKit Go.Shelf

theorem results_cell {fn : Func} {p : Tmp} {ty : TypeId} (h : fn.results = #[.cell p ty]) (tmps : Array Value) (P : Program) (w : World) :
    (results fn tmps).run P w = ((asAddr (tmps.getD p undef)).run P w).andThen fun a w₁ => (loadVar ty a).run P w₁ := by
  simp only [results, h]
  simp [Sem.run_bind, Result.andThen]
end Go.Proofs.Ytkfchdmlemcjhaa

namespace Go.Proofs.Ytkfchdmlemcjhaa
open Go.RowKit Go.Shelf

/-- What a reader tells that has met a fault. -/
def Bd (w : World) (b : Nat) (c q : Int) : Prop := w.cell? ⟨b, 7, none⟩ = some (.int .i64 c) ∧ w.cell? ⟨b, 8, none⟩ = some (.int .i64 q)
end Go.Proofs.Ytkfchdmlemcjhaa

namespace Go.Proofs.Ytkfchdmlemcjhaa
open Go.RowKit Go.Shelf

end Go.Proofs.Ytkfchdmlemcjhaa

namespace Go.Proofs.Ytkfchdmlemcjhaa
open Go.RowKit Go.Shelf

end Go.Proofs.Ytkfchdmlemcjhaa

namespace Go.Proofs.Ytkfchdmlemcjhaa
open Go.RowKit Go.Shelf

end Go.Proofs.Ytkfchdmlemcjhaa

namespace Go.Proofs.Ytkfchdmlemcjhaa
open Go.RowKit Go.Shelf

/-- A list of nodes of one's own. -/
def NO (B : Nat) (w : World) (v : Value) (l : List Nd) : Prop := w.ownsRow B 37 6 v l.length (nCs l)

end Go.Proofs.Ytkfchdmlemcjhaa
