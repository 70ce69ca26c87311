import Derived.Test.YtgkbbcoagnilgaaDiff
namespace Go.Proofs.Ytgkbbcoagnilgaa
open Go.RowKit

/-- What the loop of difference makes of the places below n, with x so far. -/
def dif (a b : Nat → Int) : Nat → Int → Int
  | 0, x => x
  | n + 1, x => if x * 10 + a n - b n < -1099511627776 ∨ 1099511627776 < x * 10 + a n - b n then x * 10 + a n - b n else dif a b n (x * 10 + a n - b n)

theorem dif_out (a b : Nat → Int) (n : Nat) (x : Int) (h : x * 10 + a n - b n < -1099511627776 ∨ 1099511627776 < x * 10 + a n - b n) : dif a b (n + 1) x = x * 10 + a n - b n := by
  unfold dif; rw [if_pos h]
theorem dif_in (a b : Nat → Int) (n : Nat) (x : Int) (h : ¬ (x * 10 + a n - b n < -1099511627776 ∨ 1099511627776 < x * 10 + a n - b n)) : dif a b (n + 1) x = dif a b n (x * 10 + a n - b n) := by
  rw [dif]; rw [if_neg h]

def dif0 (ma : Bool) (da : List UInt8) (mb : Bool) (db : List UInt8) : Int := dif (sd ma da) (sd mb db) (max da.length db.length) 0

/-- The two boxes of difference, in whatever world. -/
structure Boxes (w wr : World) (ma : Bool) (da : List UInt8) (mb : Bool) (db : List UInt8) : Prop where
  a0 : wr.cell? ⟨w.heap.size, 0, none⟩ = some (.bool ma)
  a1 : wr.cell? ⟨w.heap.size, 1, none⟩ = some (.string ⟨da.toArray⟩)
  b0 : wr.cell? ⟨w.heap.size + 1, 0, none⟩ = some (.bool mb)
  b1 : wr.cell? ⟨w.heap.size + 1, 1, none⟩ = some (.string ⟨db.toArray⟩)
  size : w.heap.size + 2 ≤ wr.heap.size

theorem Boxes.alloc {w wr : World} {ma : Bool} {da : List UInt8} {mb : Bool} {db : List UInt8} (h : Boxes w wr ma da mb db) (o : Obj) : Boxes w (wr.alloc o) ma da mb db := by
  have hs := h.size
  exact ⟨(World.cell?_alloc_lt _ _ _ (by show w.heap.size < _; omega)).trans h.a0, (World.cell?_alloc_lt _ _ _ (by show w.heap.size < _; omega)).trans h.a1,
    (World.cell?_alloc_lt _ _ _ (by show w.heap.size + 1 < _; omega)).trans h.b0, (World.cell?_alloc_lt _ _ _ (by show w.heap.size + 1 < _; omega)).trans h.b1, by rw [World.size_alloc]; omega⟩
theorem Boxes.drew {w wr : World} {ma : Bool} {da : List UInt8} {mb : Bool} {db : List UInt8} (h : Boxes w wr ma da mb db) : Boxes w wr.drew ma da mb db := ⟨h.a0, h.a1, h.b0, h.b1, h.size⟩

end Go.Proofs.Ytgkbbcoagnilgaa
