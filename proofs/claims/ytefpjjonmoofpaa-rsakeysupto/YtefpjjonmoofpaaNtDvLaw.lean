import Derived.Test.YtefpjjonmoofpaaNtLsame
namespace Go.Proofs.Ytefpjjonmoofpaa
open Go.RowKit

theorem div_made (X D Y : Nat) (h : Y < D) : (X * D + Y) / D = X ∧ (X * D + Y) % D = Y := by
  have h0 : 0 < D := by omega
  rw [Nat.mul_comm X D]
  exact ⟨by rw [Nat.mul_add_div h0, Nat.div_eq_of_lt h, Nat.add_zero], by rw [Nat.mul_add_mod, Nat.mod_eq_of_lt h]⟩
theorem vnil (w : World) : Vl w (.slice none 0 0) 0 0 := ⟨[], ⟨none, 0, rfl, Nat.le_refl _, .inl rfl, Sm.nil _⟩, rfl, Nat.le_refl _⟩
theorem vlit (w : World) (xs : List Nat) (h : ∀ x ∈ xs, x < 4294967296) : Vl (w.alloc (.cells (xs.map U).toArray 36)) (.slice (some ⟨w.heap.size, 0, none⟩) xs.length xs.length) (nv Bs xs) xs.length :=
  ⟨xs, ⟨_, xs.length, rfl, Nat.le_refl _, (alloc_bl w (xs.map U) 36).rn, h⟩, rfl, Nat.le_refl _⟩

end Go.Proofs.Ytefpjjonmoofpaa
