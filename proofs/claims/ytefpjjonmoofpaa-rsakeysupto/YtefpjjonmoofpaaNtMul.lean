import Derived.Test.YtefpjjonmoofpaaNtOps
namespace Go.Proofs.Ytefpjjonmoofpaa
open Go.RowKit

theorem mul_step (B i j T x Yj y N N' p v c c' : Nat) (h : N + B ^ (i + j) * c = T + B ^ i * (x * Yj)) (hset : N' + B ^ (i + j) * p = N + B ^ (i + j) * v) (hs : v + B * c' = c + (x * y + p)) :
    N' + B ^ (i + j + 1) * c' = T + B ^ i * (x * (Yj + B ^ j * y)) := by
  have h1 := congrArg (B ^ (i + j) * ·) hs
  simp only [Nat.mul_add, ← Nat.mul_assoc] at h1
  have h2 : B ^ i * (x * (B ^ j * y)) = B ^ (i + j) * x * y := by
    rw [Nat.pow_add, Nat.mul_left_comm x, ← Nat.mul_assoc, ← Nat.mul_assoc]
  rw [Nat.pow_succ, Nat.mul_add, Nat.mul_add, h2]
  omega
theorem mul_end (B i T x Y N N' c n : Nat) (h : N + B ^ (i + n) * c = T * Y + B ^ i * (x * Y)) (hset : N' + B ^ (i + n) * 0 = N + B ^ (i + n) * c) : N' = (T + B ^ i * x) * Y := by
  rw [Nat.add_mul, Nat.mul_assoc]
  omega

theorem nv_set' (B : Nat) (xs : List Nat) (k v p : Nat) (hk : k < xs.length) (hp : xs.getD k 0 = p) : nv B (xs.set k v) + B ^ k * p = nv B xs + B ^ k * v := by
  rw [← hp, getD_eq _ _ hk]; exact nv_set B xs k v hk
theorem getD_set_ne (xs : List Nat) (k j v : Nat) (h : k ≠ j) : (xs.set k v).getD j 0 = xs.getD j 0 := by
  rw [List.getD_eq_getElem?_getD, List.getElem?_set_ne h, List.getD_eq_getElem?_getD]
theorem Bl.limb {t : TypeId} {w : World} {g : Nat} {P : List Nat} (h : Bl t w g (P.map U)) (k p : Nat) (hk : k < P.length) (hp : P.getD k 0 = p) : w.cell? ⟨g, k, none⟩ = some (.int .u32 (p : Int)) := by
  rw [h.cell k (by simpa using hk), List.getElem_map, ← hp, getD_eq _ _ hk]; rfl
theorem Bl.setU {t : TypeId} {w : World} {g : Nat} {P : List Nat} (h : Bl t w g (P.map U)) (k v : Nat) : Bl t (w.setCell ⟨g, k, none⟩ (.int .u32 (v : Int))) g ((P.set k v).map U) := by
  have := h.set k (U v)
  rw [← List.map_set] at this
  exact this

theorem getD_zeros (n j : Nat) : (List.replicate n 0).getD j 0 = 0 := by
  rw [List.getD_eq_getElem?_getD, List.getElem?_replicate]
  split <;> rfl

/-- What stands while the product is made. -/
structure MS (w wr : World) (g n : Nat) (P : List Nat) : Prop where
  bl : Bl 36 wr g (P.map U)
  len : P.length = n
  sm : Sm Bs P
  bel : Below g w wr

theorem MS.set {w wr : World} {g n : Nat} {P : List Nat} (h : MS w wr g n P) (k v : Nat) (hv : v < 4294967296) : MS w (wr.setCell ⟨g, k, none⟩ (.int .u32 (v : Int))) g n (P.set k v) :=
  ⟨h.bl.setU k v, by rw [List.length_set]; exact h.len, h.sm.set k v hv, h.bel.setCell (Nat.le_refl _) _⟩

end Go.Proofs.Ytefpjjonmoofpaa
