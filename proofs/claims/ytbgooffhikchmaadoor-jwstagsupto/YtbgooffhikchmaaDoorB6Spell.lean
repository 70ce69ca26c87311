import Derived.Test.YtbgooffhikchmaaDoorB6Grp
namespace Go.Proofs.YtbgooffhikchmaaDoor.B64
open Go.RowKit
set_option maxRecDepth 100000

/-- The signs of bytes, without filling. -/
def enc (row : ByteArray) : List UInt8 → List UInt8
  | [] => []
  | [x] => sg row (x.toNat * 65536) 2
  | [x, y] => sg row (x.toNat * 65536 + y.toNat * 256) 3
  | x :: y :: z :: r => sg row (x.toNat * 65536 + y.toNat * 256 + z.toNat) 4 ++ enc row r

theorem enc_cons3 (row : ByteArray) (x y z : UInt8) (r : List UInt8) : enc row (x :: y :: z :: r) = sg row (x.toNat * 65536 + y.toNat * 256 + z.toNat) 4 ++ enc row r := by rw [enc]

/-- The bytes of a slice's value can be read in a world. -/
def Rd (w : World) (ao : Option Addr) (l : List UInt8) : Prop :=
  l = [] ∨ ∃ b off, ao = some ⟨b, off, none⟩ ∧ b < w.heap.size ∧ ∀ j, j < l.length → w.cell? ⟨b, off + j, none⟩ = some (B (l.getD j 0))

theorem Rd.below {B' : Nat} {w w' : World} {ao : Option Addr} {l : List UInt8} (h : Rd w ao l) (hb : Below B' w w') (hB : w.heap.size ≤ B') : Rd w' ao l := by
  rcases h with h | ⟨b, off, e, hlt, hc⟩
  · exact .inl h
  · exact .inr ⟨b, off, e, Nat.lt_of_lt_of_le hlt hb.size, fun j hj => by rw [hb.cell (p := ⟨b, off + j, none⟩) (by show b < B'; omega)]; exact hc j hj⟩

/-- A slice's length. -/
def sliceN : Value → Nat
  | .slice _ n _ => n
  | _ => 0

theorem one {l : List UInt8} (h : l.length = 1) : ∃ x, l = [x] := by
  match l, h with
  | [x], _ => exact ⟨x, rfl⟩

theorem two {l : List UInt8} (h : l.length = 2) : ∃ x y, l = [x, y] := by
  match l, h with
  | [x, y], _ => exact ⟨x, y, rfl⟩

theorem three {l : List UInt8} (h : 3 ≤ l.length) : ∃ x y z r, l = x :: y :: z :: r := by
  match l, h with
  | x :: y :: z :: r, _ => exact ⟨x, y, z, r, rfl⟩

end Go.Proofs.YtbgooffhikchmaaDoor.B64