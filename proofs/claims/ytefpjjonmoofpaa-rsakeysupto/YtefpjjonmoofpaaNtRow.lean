import Derived.Test.YtefpjjonmoofpaaNtLow
namespace Go.Proofs.Ytefpjjonmoofpaa
open Go.RowKit

/-- The base of the limbs. -/
def Bs : Nat := 4294967296
theorem Bs_eq : Bs = 4294967296 := rfl
theorem Bs_two : 2 ≤ Bs := by decide
theorem Bs_pos : 0 < Bs := by decide

theorem mid_set (lo ds r hi : List Nat) (x v : Nat) : (lo ++ ds ++ (x :: r) ++ hi).set (lo.length + ds.length) v = lo ++ (ds ++ [v]) ++ r ++ hi := by
  rw [List.append_assoc (lo ++ ds), List.set_append_right _ _ (by simp)]
  simp
theorem mid_get (lo ds r hi : List Nat) (x : Nat) (h : lo.length + ds.length < (lo ++ ds ++ (x :: r) ++ hi).length) : (lo ++ ds ++ (x :: r) ++ hi)[lo.length + ds.length] = x := by
  simp [List.getElem_append_right]
theorem mid_cell {t : TypeId} {w : World} {g o : Nat} {lo ds r hi : List Nat} {x : Nat} (h : Bl t w g ((lo ++ ds ++ (x :: r) ++ hi).map U)) (ho : o = lo.length + ds.length) : w.cell? ⟨g, o, none⟩ = some (.int .u32 (x : Int)) := by
  subst ho
  rw [h.cell _ (by simp), List.getElem_map, mid_get]
  rfl
theorem mid_bl {t : TypeId} {w : World} {g o : Nat} {lo ds r hi : List Nat} {x : Nat} (h : Bl t w g ((lo ++ ds ++ (x :: r) ++ hi).map U)) (ho : o = lo.length + ds.length) (v : Nat) : Bl t (w.setCell ⟨g, o, none⟩ (.int .u32 (v : Int))) g ((lo ++ (ds ++ [v]) ++ r ++ hi).map U) := by
  subst ho
  have := h.set (lo.length + ds.length) (U v)
  rw [← List.map_set, mid_set] at this
  exact this

theorem add_step (B p A c X Y x y v c' : Nat) (h : A + p * c = X + Y) (hs : v + B * c' = x + y + c) : (A + p * v) + (p * B) * c' = (X + p * x) + (Y + p * y) := by
  have h1 := congrArg (p * ·) hs
  simp only [Nat.mul_add, ← Nat.mul_assoc] at h1
  omega

end Go.Proofs.Ytefpjjonmoofpaa
