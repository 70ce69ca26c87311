import Derived.Test.YtkfchdmlemcjhaaDoorSZ
import Derived.Test.YtkfchdmlemcjhaaDoorJZ
import Derived.WalkSmall
namespace Go.Proofs.YtkfchdmlemcjhaaDoor
open Go.RowKit Go.Shelf

/-- What stands ahead of all memory of one's own: the tables of unicode/utf8, strconv's two errors. -/
structure GL (B : Nat) (w : World) : Prop where
  hi : 8 ≤ B
  u8 : U8 w
  er : ∃ t1 p1 t2 p2, w.var? Tryd.prog "strconv.ErrSyntax" = some #[.iface t1 p1] ∧ w.var? Tryd.prog "strconv.ErrRange" = some #[.iface t2 p2]
theorem GL.below {B : Nat} {w w' : World} (h : GL B w) (hb : Below B w w') : GL B w' := by
  have h8 := h.hi
  refine ⟨h.hi, ⟨fun c hc => cell_but (h.u8.1 c hc) fun _ => hb.block _ (by omega), fun i hi => ⟨cell_but (h.u8.2 i hi).1 fun _ => hb.block _ (by omega), cell_but (h.u8.2 i hi).2 fun _ => hb.block _ (by omega)⟩⟩, ?_⟩
  obtain ⟨t1, p1, t2, p2, e1, e2⟩ := h.er
  exact ⟨t1, p1, t2, p2, var?_below hb (g := 3) (by kernel_rfl) (by omega) e1, var?_below hb (g := 4) (by kernel_rfl) (by omega) e2⟩

def iV (i : Nat) : Value := .int .i64 (i : Int)

theorem Mp.lt {w : World} {mb : Nat} {l : List (Nat × List UInt8)} (h : Mp w mb l) : mb < w.heap.size := by
  obtain ⟨es, clk, hw, _⟩ := h
  exact (Array.getElem?_eq_some_iff.1 hw).1
theorem Mp.keep {w w' : World} {mb : Nat} {l : List (Nat × List UInt8)} (h : Mp w mb l) (hk : w'.heap[mb]? = w.heap[mb]?) : Mp w' mb l := by
  obtain ⟨es, clk, hw, r⟩ := h
  exact ⟨es, clk, by rw [hk]; exact hw, r⟩
theorem Mp.ne_bl {w : World} {mb b : Nat} {l : List (Nat × List UInt8)} {t : TypeId} {vs : List Value} (h : Mp w mb l) (h2 : Bl t w b vs) : mb ≠ b := by
  obtain ⟨es, clk, hw, _⟩ := h
  intro e
  subst e
  unfold Bl at h2
  rw [hw] at h2
  cases h2
theorem Mp.ne_own {w : World} {mb base n size : Nat} {l : List (Nat × List UInt8)} {e : TypeId} {v : Value} {xs : List Value} (h : Mp w mb l) (h2 : w.ownsRow base e size v n xs) : v.ownBlock ≠ some mb := by
  obtain ⟨es, clk, hw, _⟩ := h
  intro hg
  obtain ⟨cur, hc⟩ := own_type h2 hg
  rw [hw] at hc
  cases hc

theorem hne_ni : 36 ≠ 3 := by decide
theorem hne_in : 3 ≠ 36 := by decide

end Go.Proofs.YtkfchdmlemcjhaaDoor

namespace Go.Proofs.YtkfchdmlemcjhaaDoor
open Go.RowKit Go.Shelf

end Go.Proofs.YtkfchdmlemcjhaaDoor

namespace Go.Proofs.YtkfchdmlemcjhaaDoor
open Go.RowKit Go.Shelf

theorem infoN : (Tryd.prog.info? 36).map (fun i => (i.zero, i.size, i.bytes)) = some (some (.agg #[.int .i64 0, .string ⟨#[]⟩, .string ⟨#[]⟩, .bool false, .int .i64 0, .int .i64 0]), 6, 64) := by kernel_rfl
theorem infoI : (Tryd.prog.info? 3).map (fun i => (i.zero, i.size, i.bytes)) = some (some (.int .i64 0), 1, 8) := by kernel_rfl

theorem bl_grown {t : TypeId} {w w' : World} {b : Nat} {vs : List Value} {o : Option Nat} (h : Bl t w b vs) (hg : w.grownBy w' o) (hne : o ≠ some b) : Bl t w' b vs := by
  have := h.lt
  unfold Bl at *
  rw [hg.block b this (fun e => hne e.symm)]
  exact h
end Go.Proofs.YtkfchdmlemcjhaaDoor
