import Derived.Test.YtkaoobdemaahbaaWr3
import Derived.Test.YtkaoobdemaahbaaSm
namespace Go.Proofs.Ytkaoobdemaahbaa
open Go.RowKit

theorem row_lit (w : World) (x : X) (h : XOk w x) : Row (w.alloc (Obj.cells #[.int .i64 x.e.tag, xD x, .int .i64 x.e.kids] 32)) (some ⟨w.heap.size, 0, none⟩) [x] := by
  have hb := alloc_bl w [.int .i64 x.e.tag, xD x, .int .i64 x.e.kids] 32
  refine ⟨.inr ⟨w.heap.size, 0, rfl, hb.lt, fun j hj => ?_⟩, fun y hy => by rw [List.mem_singleton.1 hy]; exact h.below (alloc_below _ _) (Nat.le_refl _)⟩
  obtain rfl : j = 0 := by simpa using hj
  exact ⟨hb.cell 0 (by simp), hb.cell 1 (by simp), hb.cell 2 (by simp)⟩

def aloneV (t : E) (tag : Int) : Bool := t.tag == tag && shaped [t]

/-- Bytes without the noughts ahead. -/
def lst (l : List UInt8) : List UInt8 := l.dropWhile (· == 0)

/-- A piece of bytes that can be read. -/
structure Sl (w : World) (v : Value) (l : List UInt8) : Prop where
  ex : ∃ a c, v = .slice a l.length c ∧ Rd w a l ∧ l.length ≤ c ∧ c ≤ 9223372036854775807 ∧ (a = none → c = 0)

/-- Uint's answer. -/
def uintV (t : E) : Option (List UInt8) := if aloneV t 2 && decide ((t.data.getD 0 0).toNat < 128) then some (lst t.data) else none

theorem alone_int {t : E} (h : aloneV t 2 = true) : 0 < t.data.length := by
  unfold aloneV at h
  simp only [Bool.and_eq_true, beq_iff_eq] at h
  obtain ⟨h1, h2⟩ := h
  obtain ⟨bs, hE⟩ := shaped_El.1 h2
  have hs := El_sound _ _ _ hE t (List.mem_singleton.2 rfl)
  unfold sound right at hs
  rw [h1] at hs
  simp at hs
  have h3 := hs.1.2
  cases hd : t.data with
  | nil => rw [hd] at h3; simp [isInt] at h3
  | cons a b => simp

end Go.Proofs.Ytkaoobdemaahbaa
