import Derived.Test.YtkkcmfkegbdgjaaDivMod
import Derived.Test.YtkkcmfkegbdgjaaBits
namespace Go.Proofs.Ytkkcmfkegbdgjaa
open Go.RowKit

set_option maxHeartbeats 400000 in
theorem fromUint_any (u : Nat) (w : World) (hu : u < 18446744073709551616) :
    Calls Try.prog 37 #[.int .u64 (u : Int)] w fun e w' => ∃ r, e = .returned r ∧ Ow w' w.heap.size r (dg Bs u) ∧ Below w.heap.size w w' := by
  have e1 : IntKind.u32.wrap (u : Int) = ((u % 4294967296 : Nat) : Int) := by rw [IntKind.wrap_u32]; omega
  have e2 : IntKind.u32.wrap ((u : Int) / 4294967296) = ((u / 4294967296 : Nat) : Int) := by rw [IntKind.wrap_u32]; omega
  go_enter Try.func37, Try.ntmps37
  go_wp2_with fail
  have hb : Bl 36 (w.alloc (.cells #[.int .u32 ((u : Int) % 4294967296), .int .u32 ((u : Int) / 4294967296)] 36)) w.heap.size (([u % 4294967296, u / 4294967296] : List Nat).map U) := by
    have := alloc_bl w (([u % 4294967296, u / 4294967296] : List Nat).map U) 36
    exact this
  have hbel := alloc_below w (.cells #[.int .u32 ((u : Int) % 4294967296), .int .u32 ((u : Int) / 4294967296)] 36)
  have sL : Sm Bs [u % 4294967296, u / 4294967296] := fun y hy => by
    rw [Bs_eq]
    simp at hy
    omega
  have C := proper_any (some ⟨w.heap.size, 0, none⟩) 2 2 [u % 4294967296, u / 4294967296] _ hb.rn rfl (Nat.le_refl _) (by decide)
  have HA : Hid (Ow (w.alloc (.cells #[.int .u32 ((u : Int) % 4294967296), .int .u32 ((u : Int) / 4294967296)] 36)) w.heap.size (.slice (some ⟨w.heap.size, 0, none⟩) (tl [u % 4294967296, u / 4294967296]) 2) (dg Bs u)) := by
    have h1 := hb.proper sL (Nat.le_refl _) (by simp)
    have h2 : nv Bs [u % 4294967296, u / 4294967296] = u := by simp only [nv, Nat.mul_zero, Nat.add_zero]; rw [Bs_eq]; omega
    rw [h2] at h1
    exact h1
  have HB : Hid (Below w.heap.size w (w.alloc (.cells #[.int .u32 ((u : Int) % 4294967296), .int .u32 ((u : Int) / 4294967296)] 36))) := hbel
  clear hb hbel sL
  generalize w.alloc (.cells #[.int .u32 ((u : Int) % 4294967296), .int .u32 ((u : Int) / 4294967296)] 36) = w1 at *
  refine C.mono ?_
  clear C
  rintro e w1 ⟨rfl, rfl⟩
  go_wp2
  go_ret
  exact ⟨_, rfl, HA.out, HB.out⟩

theorem small_limbs (xs : List Nat) (hs : Sm Bs xs) (h : nv Bs xs < 18446744073709551616) : xs.getD 1 0 * 4294967296 + xs.getD 0 0 = nv Bs xs := by
  have h0 := nv_getD Bs_pos hs 0
  have h1 := nv_getD Bs_pos hs 1
  rw [Nat.pow_zero, Nat.div_one, Bs_eq] at h0
  rw [Nat.pow_one, Bs_eq] at h1
  rw [h0, h1, ← Bs_eq]
  generalize nv Bs xs = N at *
  rw [Bs_eq]
  omega

set_option maxHeartbeats 400000 in
theorem uint_nm (v : Value) (xs : List Nat) (w : World) (hv : Nm w v xs) (h1 : xs.length ≤ 1000000000) :
    Calls Try.prog 35 #[v] w fun e w' => e = .returned (.tuple #[.int .u64 ((if nv Bs xs < 18446744073709551616 then nv Bs xs else 0 : Nat) : Int), .bool (decide (nv Bs xs < 18446744073709551616))]) ∧ w' = w := by
  have CB := bits_nm v xs w hv h1
  have e64 : (18446744073709551616 : Nat) = 2 ^ 64 := by decide
  by_cases hlt : nv Bs xs < 18446744073709551616
  · have hb : bl (nv Bs xs) ≤ 64 := by
      rcases Nat.lt_or_ge 64 (bl (nv Bs xs)) with h3 | h3
      · exfalso
        have h4 : nv Bs xs ≠ 0 := fun e => by rw [e] at h3; exact absurd h3 (by decide)
        have h5 := bl_le _ h4
        have h6 : 2 ^ 64 ≤ 2 ^ (bl (nv Bs xs) - 1) := Nat.pow_le_pow_right (by decide) (by omega)
        omega
      · exact h3
    rw [if_pos hlt, decide_eq_true hlt, ← small_limbs xs hv.sm hlt]
    obtain ⟨ax, cx, rfl, hcx, hx, sx⟩ := hv
    have C1 := at_nat ax xs.length cx 1 xs w hx rfl
    have C0 := at_nat ax xs.length cx 0 xs w hx rfl
    have b1 : xs.getD 1 0 < 4294967296 := by rw [← Bs_eq]; exact sx.getD Bs_pos 1
    have b0 : xs.getD 0 0 < 4294967296 := by rw [← Bs_eq]; exact sx.getD Bs_pos 0
    generalize xs.getD 1 0 = x1 at *
    generalize xs.getD 0 0 = x0 at *
    have eor := or_pair x1 x0 b1 b0
    obtain ⟨B, HB⟩ : ∃ B, Hid (bl (nv Bs xs) = B) := ⟨_, rfl⟩
    rw [HB.out] at CB hb
    have hbB : decide ((B : Int) > 64) = false := decide_eq_false (by omega)
    obtain ⟨z, Hz⟩ : ∃ z, Hid (x1 * 4294967296 + x0 = z) := ⟨_, rfl⟩
    rw [Hz.out] at eor ⊢
    clear hlt hx sx hcx e64 h1
    go_enter Try.func35, Try.ntmps35
    go_wp2_with fail
    refine CB.mono ?_
    clear CB
    rintro e w ⟨rfl, rfl⟩
    go_wp2_with fail
    refine C1.mono ?_
    clear C1
    rintro e w ⟨rfl, rfl⟩
    go_wp2_with fail
    refine C0.mono ?_
    clear C0
    rintro e w ⟨rfl, rfl⟩
    go_wp2
    go_ret2
    exact ⟨rfl, rfl⟩
  · have hb : 64 < bl (nv Bs xs) := by
      rcases Nat.lt_or_ge 64 (bl (nv Bs xs)) with h3 | h3
      · exact h3
      · exfalso
        have h5 := bl_lt (nv Bs xs)
        have h6 : 2 ^ bl (nv Bs xs) ≤ 2 ^ 64 := Nat.pow_le_pow_right (by decide) h3
        omega
    rw [if_neg hlt, decide_eq_false hlt]
    obtain ⟨B, HB⟩ : ∃ B, Hid (bl (nv Bs xs) = B) := ⟨_, rfl⟩
    rw [HB.out] at CB hb
    have hbB : decide ((B : Int) > 64) = true := decide_eq_true (by omega)
    clear hlt hv e64 h1
    go_enter Try.func35, Try.ntmps35
    go_wp2_with fail
    refine CB.mono ?_
    clear CB
    rintro e w ⟨rfl, rfl⟩
    go_wp2
    go_ret2
    exact ⟨rfl, rfl⟩

end Go.Proofs.Ytkkcmfkegbdgjaa
