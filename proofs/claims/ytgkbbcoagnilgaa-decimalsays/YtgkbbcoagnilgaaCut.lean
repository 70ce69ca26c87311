import Derived.Test.YtgkbbcoagnilgaaBase
import Derived.Laws.ResultCell
namespace Go.Proofs.Ytgkbbcoagnilgaa
open Go.RowKit

/-- What cutFraction answers; what cutPower does: the sign and the digits, what follows, whether. -/
def cutF (l : List UInt8) : List UInt8 × List UInt8 × Bool :=
  if l.head? = some 46 then (digs l.tail, rst l.tail, !(digs l.tail).isEmpty) else ([], l, true)
def isE (l : List UInt8) : Prop := l.head? = some 101 ∨ l.head? = some 69
instance (l : List UInt8) : Decidable (isE l) := inferInstanceAs (Decidable (_ ∨ _))
def isS (l : List UInt8) : Prop := l.head? = some 43 ∨ l.head? = some 45
instance (l : List UInt8) : Decidable (isS l) := inferInstanceAs (Decidable (_ ∨ _))
def skS (l : List UInt8) : List UInt8 := if isS l then l.tail else l
def cutP (l : List UInt8) : Bool × List UInt8 × List UInt8 × Bool :=
  if isE l then (decide (l.tail.head? = some 45), digs (skS l.tail), rst (skS l.tail), !(digs (skS l.tail)).isEmpty) else (false, [], l, true)

theorem suf1 (l : List UInt8) : (⟨l.toArray⟩ : ByteArray).extract 1 l.length = ⟨l.tail.toArray⟩ := by rw [suf_eq]; simp

theorem skS_len (l : List UInt8) : (skS l).length ≤ l.length := by unfold skS; split <;> simp

theorem results_cell_tmp2 {fn : Func} {p u v : Tmp} {ty : TypeId} (h : fn.results = #[.cell p ty, .tmp u, .tmp v]) (tmps : Array Value) (P : Program) (w : World) :
    (results fn tmps).run P w =
      ((asAddr (tmps.getD p undef)).run P w).andThen fun a w₁ => ((loadVar ty a).run P w₁).andThen fun x w₂ => .ok (.tuple #[x, tmps.getD u undef, tmps.getD v undef]) w₂ := by
  simp only [results, h]
  simp [Sem.run_bind, Result.andThen]

end Go.Proofs.Ytgkbbcoagnilgaa
