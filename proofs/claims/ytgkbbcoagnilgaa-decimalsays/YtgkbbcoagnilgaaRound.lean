import Derived.Test.YtgkbbcoagnilgaaLay
import Derived.Test.YtgkbbcoagnilgaaShelfL
import Derived.Deep.QuietTactic
import Derived.BigQuiet
import Derived.Lib.ItoaNum
namespace Go.Proofs.Ytgkbbcoagnilgaa
open Go.RowKit Go.Shelf

theorem or64w (a x : Nat) (ha : a < 4294967296) (hx : x < 4294967296) : bits .or .u64 ((a : Int) * 4294967296) (x : Int) = ((a * 4294967296 + x : Nat) : Int) := by
  have e : ((a : Int) * 4294967296) = ((a * 4294967296 : Nat) : Int) := by omega
  rw [e, u64_or_nat _ _ (by omega) (by omega), nat_join 32 (a * 4294967296) x (by omega) (by omega)]

theorem infoU : (Try.prog.info? 22).map (fun i => (i.zero, i.size, i.bytes)) = some (some (.int .u32 0), 1, 4) := by kernel_rfl

theorem Fx.drewN {W : World} {b : Nat} {xs : List Nat} (h : Fx W b xs) (n : Nat) : Fx (W.drewN n) b xs := h

theorem low_slice (bF t : Nat) (w : World) (h : t ≤ 10) :
    (Instr.sliceAt 27 (.pointer (some ⟨bF, 0, none⟩)) none (some (.int .i64 (t : Int))) none).run Try.prog w = .ok (.slice (some ⟨bF, 0, none⟩) t 10) w := by
  rw [run_sliceAt_array_h w 27 ⟨bF, 0, none⟩ (by kernel_rfl) .i64 (t : Int) (by omega) (by rw [show Try.prog.arrayLen 27 = 10 from by kernel_rfl]; omega)]
  have e : Try.prog.arrayLen 27 = 10 := by kernel_rfl
  have e0 : Try.prog.elem 27 = 22 := by kernel_rfl
  obtain ⟨i0, hi, _⟩ := info_parts infoU
  rw [e, e0, run_sizeOf w hi, show Try.prog.cellsOf 22 = 1 from by kernel_rfl]
  show Result.ok (slicedAt _ _ _ _ 1) w = _
  unfold slicedAt
  simp [Addr.add]

theorem u32_eq (a b : Int) (h : a = b) : Ending.returned (.int .u32 a) = Ending.returned (.int .u32 b) := by rw [h]
theorem min_cast (a : Int) (b : Nat) (h : a = (b : Int)) : min a 2139095040 = ((min b 2139095040 : Nat) : Int) := by rw [h]; omega
theorem fin_one (k s1 q : Nat) (h : 11 ≤ 32 * k + (s1 + 1)) : min (((k : Int) * 32 + ((s1 : Int) + 1) - 11) * 8388608 + ((q : Int) + 1)) 2139095040 = ((min ((32 * k + (s1 + 1) - 11) * 8388608 + q + 1) 2139095040 : Nat) : Int) := min_cast _ _ (by omega)
theorem fin_nul (k s1 q : Nat) (h : 11 ≤ 32 * k + (s1 + 1)) : min (((k : Int) * 32 + ((s1 : Int) + 1) - 11) * 8388608 + (q : Int)) 2139095040 = ((min ((32 * k + (s1 + 1) - 11) * 8388608 + q + 0) 2139095040 : Nat) : Int) := min_cast _ _ (by omega)

theorem bl_bounds (x : Nat) (h : x < 18446744073709551616) (h0 : x ≠ 0) : 1 ≤ Lib.bitLen x ∧ 2 ^ (Lib.bitLen x - 1) ≤ x ∧ x < 2 ^ Lib.bitLen x := Lib.bitLenAux_bounds 64 x h h0

/-- Where the window is cut. -/
theorem shift_ok (Wd Ln k s1 : Nat) (hW : Wd < 18446744073709551616) (hL : Ln = Lib.bitLen Wd) (hk : 1 ≤ k → 4294967296 ≤ Wd) (hs : (s1 : Int) + 1 = max ((Ln : Int) - 23 - 1) (11 - (k : Int) * 32)) :
    8 ≤ s1 ∧ s1 ≤ 39 ∧ 11 ≤ 32 * k + (s1 + 1) ∧ Wd / 2 ^ (s1 + 1) < 16777216 ∧ (8388608 ≤ Wd / 2 ^ (s1 + 1) ∨ 32 * k + (s1 + 1) = 11) := by
  have hL64 : Ln ≤ 64 := by rw [hL]; exact Lib.bitLen_le Wd 64 (by decide) hW
  have hup : Wd < 2 ^ Ln := by
    by_cases h0 : Wd = 0
    · rw [h0]; exact Nat.pow_pos (by decide)
    · rw [hL]; exact (bl_bounds Wd hW h0).2.2
  have hlo : Wd ≠ 0 → 2 ^ (Ln - 1) ≤ Wd := fun h0 => by rw [hL]; exact (bl_bounds Wd hW h0).2.1
  have h33 : 1 ≤ k → 33 ≤ Ln := fun h1 => by
    have h2 := hk h1
    apply Nat.le_of_not_lt
    intro h3
    have h4 : 2 ^ Ln ≤ 2 ^ 32 := Nat.pow_le_pow_right (by decide) (by omega)
    omega
  have h24 : Ln ≤ s1 + 1 + 24 := by omega
  have hq : Wd / 2 ^ (s1 + 1) < 16777216 := by
    apply Nat.div_lt_of_lt_mul
    have h4 : 2 ^ Ln ≤ 2 ^ (s1 + 1 + 24) := Nat.pow_le_pow_right (by decide) h24
    rw [Nat.pow_add _ (s1 + 1)] at h4
    exact Nat.lt_of_lt_of_le hup h4
  refine ⟨?_, ?_, ?_, hq, ?_⟩
  · by_cases h1 : 1 ≤ k
    · have := h33 h1; omega
    · omega
  · omega
  · omega
  · by_cases h1 : 32 * k + (s1 + 1) = 11
    · exact .inr h1
    · left
      have e : Ln = s1 + 1 + 24 := by
        by_cases h1 : 1 ≤ k
        · have := h33 h1; omega
        · omega
      have h0 : Wd ≠ 0 := by
        intro h0
        rw [h0] at hL
        have : Ln = 0 := by rw [hL]; decide
        omega
      have h5 := hlo h0
      rw [e, show s1 + 1 + 24 - 1 = (s1 + 1) + 23 by omega, Nat.pow_add] at h5
      exact (Nat.le_div_iff_mul_le (Nat.pow_pos (by decide))).2 (by rw [Nat.mul_comm]; exact h5)

theorem wrap_pow (s : Nat) (h : s < 64) : IntKind.u64.wrap (2 ^ s) = ((2 ^ s : Nat) : Int) := by
  have h1 : 2 ^ s ≤ 2 ^ 63 := Nat.pow_le_pow_right (by decide) (by omega)
  have e : (2 : Int) ^ s = ((2 ^ s : Nat) : Int) := by rw [Int.natCast_pow]; rfl
  rw [e, IntKind.wrap_u64]
  generalize 2 ^ s = X at h1
  omega

theorem div_pow (A s : Nat) : (A : Int) / 2 ^ s = ((A / 2 ^ s : Nat) : Int) := by
  have e : (2 : Int) ^ s = ((2 ^ s : Nat) : Int) := by rw [Int.natCast_pow]; rfl
  rw [e]; rfl

theorem and_pow (A s : Nat) (hA : A < 18446744073709551616) (hs : s < 64) : bits .and .u64 (A : Int) (((2 ^ s : Nat) : Int) - 1) = ((A % 2 ^ s : Nat) : Int) := by
  have h0 : 0 < 2 ^ s := Nat.pow_pos (by decide)
  have h1 : 2 ^ s ≤ 2 ^ 63 := Nat.pow_le_pow_right (by decide) (by omega)
  have e : (((2 ^ s : Nat) : Int) - 1) = ((2 ^ s - 1 : Nat) : Int) := by omega
  rw [e, u64_and_nat A (2 ^ s - 1) hA (by omega), Nat.and_two_pow_sub_one_eq_mod]

/-- The number, by its two top limbs and what is below. -/
theorem top_two (xs : List Nat) (k x y Wn : Nat) (hx : xs.getD (k + 1) 0 = x) (hy : xs.getD k 0 = y) (hW : Wn = x * 4294967296 + y) : wv 4294967296 0 xs (k + 1 + 1) = Wn * 2 ^ (32 * k) + wv 4294967296 0 xs k := by
  show xs.getD (0 + (k + 1)) 0 * 4294967296 ^ (k + 1) + (xs.getD (0 + k) 0 * 4294967296 ^ k + wv 4294967296 0 xs k) = _
  rw [Nat.zero_add, Nat.zero_add, hx, hy, hW, Nat.pow_mul, show (2 : Nat) ^ 32 = 4294967296 from rfl, Nat.pow_succ, Nat.add_mul, ← Nat.add_assoc, Nat.mul_assoc x, Nat.mul_comm 4294967296]

theorem low_lt (xs : List Nat) (hs : smallL xs) (k : Nat) (hk : k ≤ xs.length) : wv 4294967296 0 xs k < 2 ^ (32 * k) := by
  rw [Nat.pow_mul, show (2 : Nat) ^ 32 = 4294967296 from rfl]
  exact wv_lt 4294967296 0 xs hs (by decide) k (by omega)

end Go.Proofs.Ytgkbbcoagnilgaa
