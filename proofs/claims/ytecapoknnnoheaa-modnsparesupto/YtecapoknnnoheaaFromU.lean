import Derived.Test.YtecapoknnnoheaaDivMod
import Derived.Test.YtecapoknnnoheaaBits
namespace Go.Proofs.Ytecapoknnnoheaa
open Go.RowKit

set_option maxHeartbeats 400000 in
theorem fromUint_any (u : Nat) (w : World) (hu : u < 18446744073709551616) :
    Calls Try.prog 35 #[.int .u64 (u : Int)] w fun e w' => ∃ r, e = .returned r ∧ Ow w' w.heap.size r (dg Bs u) ∧ Below w.heap.size w w' := by
  have e1 : IntKind.u32.wrap (u : Int) = ((u % 4294967296 : Nat) : Int) := by rw [IntKind.wrap_u32]; omega
  have e2 : IntKind.u32.wrap ((u : Int) / 4294967296) = ((u / 4294967296 : Nat) : Int) := by rw [IntKind.wrap_u32]; omega
  go_enter Try.func35, Try.ntmps35
  go_wp2_with fail
  have hb : Bl 29 (w.alloc (.cells #[.int .u32 ((u : Int) % 4294967296), .int .u32 ((u : Int) / 4294967296)] 29)) w.heap.size (([u % 4294967296, u / 4294967296] : List Nat).map U) := by
    have := alloc_bl w (([u % 4294967296, u / 4294967296] : List Nat).map U) 29
    exact this
  have hbel := alloc_below w (.cells #[.int .u32 ((u : Int) % 4294967296), .int .u32 ((u : Int) / 4294967296)] 29)
  have sL : Sm Bs [u % 4294967296, u / 4294967296] := fun y hy => by
    rw [Bs_eq]
    simp at hy
    omega
  have C := proper_any (some ⟨w.heap.size, 0, none⟩) 2 2 [u % 4294967296, u / 4294967296] _ hb.rn rfl (Nat.le_refl _) (by decide)
  have HA : Hid (Ow (w.alloc (.cells #[.int .u32 ((u : Int) % 4294967296), .int .u32 ((u : Int) / 4294967296)] 29)) w.heap.size (.slice (some ⟨w.heap.size, 0, none⟩) (tl [u % 4294967296, u / 4294967296]) 2) (dg Bs u)) := by
    have h1 := hb.proper sL (Nat.le_refl _) (by simp)
    have h2 : nv Bs [u % 4294967296, u / 4294967296] = u := by simp only [nv, Nat.mul_zero, Nat.add_zero]; rw [Bs_eq]; omega
    rw [h2] at h1
    exact h1
  have HB : Hid (Below w.heap.size w (w.alloc (.cells #[.int .u32 ((u : Int) % 4294967296), .int .u32 ((u : Int) / 4294967296)] 29))) := hbel
  clear hb hbel sL
  generalize w.alloc (.cells #[.int .u32 ((u : Int) % 4294967296), .int .u32 ((u : Int) / 4294967296)] 29) = w1 at *
  refine C.mono ?_
  clear C
  rintro e w1 ⟨rfl, rfl⟩
  go_wp2
  go_ret
  exact ⟨_, rfl, HA.out, HB.out⟩

theorem small_limbs (xs : List Nat) (hs : Sm Bs xs) (h : nv Bs xs < 18446744073709551616) : xs.getD 1 0 * 4294967296 + xs.getD 0 0 = nv Bs xs := by
  have h0 := nv_getD Bs_pos hs 0
  have h1 := nv_getD Bs_pos hs 1
  rw [Nat.pow_zero, Nat.div_one, Bs_eq] at h0
  rw [Nat.pow_one, Bs_eq] at h1
  rw [h0, h1, ← Bs_eq]
  generalize nv Bs xs = N at *
  rw [Bs_eq]
  omega

end Go.Proofs.Ytecapoknnnoheaa
