import Derived.Test.YtgkbbcoagnilgaaLay
import Derived.Test.YtgkbbcoagnilgaaExact
namespace Go.Proofs.Ytgkbbcoagnilgaa
open Go.RowKit

/-- All that lay answers. -/
def LayA (z : List UInt8) (P : Int) (xs : List Nat) : Prop := xs.length = 10 ∧ smallL xs ∧ ∃ q r, wv 4294967296 0 xs 10 = stk q r ∧ vU z P * 2 ^ 160 = vD z P * q + r ∧ r < vD z P

theorem or_small (x : Nat) (h : x < 4294967296) : x ||| 1 < 4294967296 := Nat.or_lt_two_pow (n := 32) h (by decide)

theorem Fx.but {W W' : World} {b x : Nat} {xs : List Nat} (h : Fx W b xs) (hB : But W W' x) (hne : b ≠ x) : Fx W' b xs := by
  obtain ⟨t, ht⟩ := h
  exact ⟨t, (hB.2.2.2.2 b hne).trans ht⟩

theorem below_of_but {w w' : World} {b B : Nat} (h : But w w' b) (hb : B ≤ b) : Below B w w' := ⟨h.1, h.2.1, h.2.2.1, Nat.le_of_eq h.2.2.2.1.symm, fun k hk => h.2.2.2.2 k (by omega)⟩

/-- The three blocks that lay begins with. -/
def LayW (w : World) (z : List UInt8) : World := ((w.alloc (.cells #[.string ⟨z.toArray⟩] 9)).alloc (.cells #[Value.int IntKind.u32 0, Value.int IntKind.u32 0, Value.int IntKind.u32 0, Value.int IntKind.u32 0, Value.int IntKind.u32 0, Value.int IntKind.u32 0, Value.int IntKind.u32 0, Value.int IntKind.u32 0, Value.int IntKind.u32 0, Value.int IntKind.u32 0] 27)).alloc (.cells #[Value.int IntKind.u32 0, Value.int IntKind.u32 0, Value.int IntKind.u32 0, Value.int IntKind.u32 0, Value.int IntKind.u32 0, Value.int IntKind.u32 0, Value.int IntKind.u32 0, Value.int IntKind.u32 0, Value.int IntKind.u32 0, Value.int IntKind.u32 0] 27)

theorem layW_size (w : World) (z : List UInt8) : (LayW w z).heap.size = w.heap.size + 3 := by
  unfold LayW; rw [World.size_alloc, World.size_alloc, World.size_alloc]
theorem layW_F (w : World) (z : List UInt8) : Fx (LayW w z) (w.heap.size + 1 + 1) Z10 := ⟨27, by
  have e : w.heap.size + 1 + 1 = ((w.alloc (.cells #[.string ⟨z.toArray⟩] 9)).alloc (.cells #[Value.int IntKind.u32 0, Value.int IntKind.u32 0, Value.int IntKind.u32 0, Value.int IntKind.u32 0, Value.int IntKind.u32 0, Value.int IntKind.u32 0, Value.int IntKind.u32 0, Value.int IntKind.u32 0, Value.int IntKind.u32 0, Value.int IntKind.u32 0] 27)).heap.size := by rw [World.size_alloc, World.size_alloc]
  rw [e]; exact heap_alloc_new _ _⟩
theorem layW_R (w : World) (z : List UInt8) : Fx (LayW w z) (w.heap.size + 1) Z10 := ⟨27, by
  have e : w.heap.size + 1 = (w.alloc (.cells #[.string ⟨z.toArray⟩] 9)).heap.size := by rw [World.size_alloc]
  rw [LayW, Below.heap_alloc _ _ _ (by rw [World.size_alloc, World.size_alloc]; omega), e]; exact heap_alloc_new _ _⟩
theorem layW_X (w : World) (z : List UInt8) : (LayW w z).cell? ⟨w.heap.size, 0, none⟩ = some (.string ⟨z.toArray⟩) := by
  have h : (LayW w z).heap[w.heap.size]? = some (.cells #[.string ⟨z.toArray⟩] 9) := by
    rw [LayW, Below.heap_alloc _ _ _ (by rw [World.size_alloc, World.size_alloc]; omega), Below.heap_alloc _ _ _ (by rw [World.size_alloc]; omega)]
    exact heap_alloc_new _ _
  unfold World.cell?
  simp [h]
theorem layW_below (w : World) (z : List UInt8) : Below w.heap.size w (LayW w z) := by
  unfold LayW
  exact (((Below.refl _ w).alloc (Nat.le_refl _) _).alloc (by rw [World.size_alloc]; omega) _).alloc (by rw [World.size_alloc, World.size_alloc]; omega) _

end Go.Proofs.Ytgkbbcoagnilgaa
