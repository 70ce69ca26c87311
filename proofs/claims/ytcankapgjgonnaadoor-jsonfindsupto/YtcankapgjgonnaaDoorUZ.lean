import Derived.Test.YtcankapgjgonnaaDoorTY
import Derived.Test.YtcankapgjgonnaaDoorJZ
import Derived.Lib.AppendStr
namespace Go.Proofs.YtcankapgjgonnaaDoor
open Go.RowKit Go.Shelf

/-- The writer: all that was put into it, as far as that has room. -/
structure WS (B0 : Nat) (w : World) (b : Nat) (full : List UInt8) (tv : Value) (acc : List UInt8) (lg : Bool) : Prop where
  lo : B0 ≤ b
  blo : B0 ≤ w.heap.size
  bl : Bl 48 w b [tv, .bool lg]
  own : w.ownsRow B0 5 1 tv acc.length (acc.map B)
  fit : full.length ≤ 262144 → acc = full ∧ lg = false
  big : 262144 < full.length → lg = true
  len : acc.length ≤ 262144

theorem WS.below {B0 : Nat} {w w' : World} {b : Nat} {full acc : List UInt8} {tv : Value} {lg : Bool} (h : WS B0 w b full tv acc lg) (hb : Below w.heap.size w w') : WS B0 w' b full tv acc lg :=
  ⟨h.lo, Nat.le_trans h.blo hb.size, h.bl.below hb h.bl.lt, own_below h.own hb (Nat.le_refl _), h.fit, h.big, h.len⟩

end Go.Proofs.YtcankapgjgonnaaDoor

namespace Go.Proofs.YtcankapgjgonnaaDoor
open Go.RowKit Go.Shelf

end Go.Proofs.YtcankapgjgonnaaDoor

namespace Go.Proofs.YtcankapgjgonnaaDoor
open Go.RowKit Go.Shelf

/-- The writer, with what it holds left open. -/
def WE (B0 : Nat) (w : World) (b : Nat) (full : List UInt8) : Prop := ∃ tv acc lg, WS B0 w b full tv acc lg
theorem WE.drewN {B0 : Nat} {w : World} {b : Nat} {full : List UInt8} (h : WE B0 w b full) (n : Nat) : WE B0 (w.drewN n) b full := by
  obtain ⟨tv, acc, lg, h⟩ := h
  exact ⟨tv, acc, lg, h.lo, h.blo, h.bl, h.own, h.fit, h.big, h.len⟩
theorem WE.below {B0 : Nat} {w w' : World} {b : Nat} {full : List UInt8} (h : WE B0 w b full) (hb : Below w.heap.size w w') : WE B0 w' b full := by
  obtain ⟨tv, acc, lg, h⟩ := h
  exact ⟨tv, acc, lg, h.below hb⟩

end Go.Proofs.YtcankapgjgonnaaDoor

namespace Go.Proofs.YtcankapgjgonnaaDoor
open Go.RowKit Go.Shelf

/-- What the writer's value does, so deep at most. -/
def WvC (w0 : World) (l : List Nd) (ao : Option Addr) (cap f : Nat) : Prop := ∀ (w : World) (b : Nat) (full : List UInt8) (i : Nat) (a d : Int) (m : List (Nat × List UInt8)) (j : Nat) (m' : List (Nat × List UInt8)), Below w0.heap.size w0 w → WE w0.heap.size w b full → svF l f i a d m = some (j, m') →
    Calls Tryd.prog 26 #[.pointer (some ⟨b, 0, none⟩), .slice ao l.length cap, .int .i64 (i : Int)] w fun e w' => e = .returned (.int .i64 (j : Int)) ∧ Below w0.heap.size w0 w' ∧ WE w0.heap.size w' b (full ++ (prF l f i).1)
def WiC (w0 : World) (l : List Nd) (ao : Option Addr) (cap f : Nat) : Prop := ∀ (w : World) (b : Nat) (full : List UInt8) (i : Nat) (d : Int) (m : List (Nat × List UInt8)) (j : Nat) (m' : List (Nat × List UInt8)) (o c : UInt8), Below w0.heap.size w0 w → WE w0.heap.size w b full → i < l.length → skF (fun j m => svF l f j (i : Int) (d + 1) m) (l.length + 1) (l.getD i (nd0 0)).kids (i + 1) m = some (j, m') →
    Calls Tryd.prog 36 #[.pointer (some ⟨b, 0, none⟩), .slice ao l.length cap, .int .i64 (i : Int), .string { data := #[o] }, .string { data := #[c] }] w fun e w' => e = .returned (.int .i64 (j : Int)) ∧ Below w0.heap.size w0 w' ∧ WE w0.heap.size w' b (full ++ (o :: ((pkF (prF l f) l (decide ((l.getD i (nd0 0)).kind = 7)) (l.length + 1) true (l.getD i (nd0 0)).kids (i + 1)).1 ++ [c])))

end Go.Proofs.YtcankapgjgonnaaDoor

namespace Go.Proofs.YtcankapgjgonnaaDoor
open Go.RowKit Go.Shelf

end Go.Proofs.YtcankapgjgonnaaDoor

namespace Go.Proofs.YtcankapgjgonnaaDoor
open Go.RowKit Go.Shelf

end Go.Proofs.YtcankapgjgonnaaDoor
