import Derived.Test.YtgkbbcoagnilgaaRndM
import Derived.Test.YtgkbbcoagnilgaaDiff
namespace Go.Proofs.Ytgkbbcoagnilgaa
open Go.RowKit

/-- The digit at a place. -/
def dz (z : List UInt8) (i : Nat) : Nat := if i < z.length then (z.getD i 48).toNat - 48 else 0
/-- The number of the first places. -/
def dn (z : List UInt8) : Nat → Nat
  | 0 => 0
  | j + 1 => 10 * dn z j + dz z j
/-- The number of the last m places of n. -/
def sn (z : List UInt8) (n : Nat) : Nat → Nat
  | 0 => 0
  | m + 1 => (if m < n then dz z (n - 1 - m) else 0) * 10 ^ m + sn z n m

theorem dn_sn (z : List UInt8) (n : Nat) : ∀ m, m ≤ n → dn z n = dn z (n - m) * 10 ^ m + sn z n m
  | 0, _ => by simp [sn]
  | m + 1, h => by
    rw [dn_sn z n m (by omega)]
    have es : sn z n (m + 1) = (if m < n then dz z (n - 1 - m) else 0) * 10 ^ m + sn z n m := rfl
    rw [es, if_pos (by omega)]
    obtain ⟨k, hk⟩ : ∃ k, n - m = k + 1 := ⟨n - m - 1, by omega⟩
    have e : n - (m + 1) = k := by omega
    have e2 : n - 1 - m = k := by omega
    rw [hk, e, e2]
    show (10 * dn z k + dz z k) * 10 ^ m + sn z n m = dn z k * 10 ^ (m + 1) + (dz z k * 10 ^ m + sn z n m)
    rw [Nat.add_mul, Nat.pow_succ, Nat.mul_comm 10 (dn z k), Nat.mul_assoc, Nat.mul_comm 10 (10 ^ m), Nat.add_assoc]

theorem sn_all (z : List UInt8) (n : Nat) : ∀ k, sn z n (n + k) = dn z n
  | 0 => by
    have := dn_sn z n n (Nat.le_refl _)
    rw [Nat.sub_self] at this
    simpa [dn] using this.symm
  | k + 1 => by
    show (if n + k < n then dz z (n - 1 - (n + k)) else 0) * 10 ^ (n + k) + sn z n (n + k) = _
    rw [if_neg (by omega), Nat.zero_mul, Nat.zero_add]
    exact sn_all z n k

theorem dn_more (z : List UInt8) : ∀ k, dn z (z.length + k) = dn z z.length * 10 ^ k
  | 0 => by simp
  | k + 1 => by
    show 10 * dn z (z.length + k) + dz z (z.length + k) = _
    rw [dn_more z k]
    unfold dz
    rw [if_neg (by omega), Nat.pow_succ, Nat.add_zero, Nat.mul_comm 10, Nat.mul_assoc]

theorem dz_le (z : List UInt8) (hz : allD z) (i : Nat) : dz z i ≤ 9 := by
  unfold dz
  split
  · next h =>
    have h1 := hz _ (List.getElem_mem h)
    rw [List.getD_eq_getElem?_getD, List.getElem?_eq_getElem h, Option.getD_some]
    unfold isD at h1
    simp at h1
    omega
  · omega

theorem dn_lt (z : List UInt8) (hz : allD z) : ∀ j, dn z j < 10 ^ j
  | 0 => by simp [dn]
  | j + 1 => by
    have := dn_lt z hz j
    have := dz_le z hz j
    unfold dn
    rw [Nat.pow_succ]
    omega

/-- What holds of the fraction, m places laid. -/
def FrI (N : Nat) (z : List UInt8) (n m f rho : Nat) : Prop := 10 ^ m * f + rho = sn z n m * N ∧ rho < 10 ^ m

theorem FrI.start (N : Nat) (z : List UInt8) (n : Nat) : FrI N z n 0 0 0 := ⟨by simp [sn], by simp⟩

theorem FrI.step {N : Nat} {z : List UInt8} {n m f rho d f' r : Nat} (h : FrI N z n m f rho) (hd : d = if m < n then dz z (n - 1 - m) else 0) (hv : 10 * f' + r = d * N + f) (hr : r < 10) : FrI N z n (m + 1) f' (10 ^ m * r + rho) := by
  obtain ⟨h1, h2⟩ := h
  constructor
  · show _ = ((if m < n then dz z (n - 1 - m) else 0) * 10 ^ m + sn z n m) * N
    rw [← hd, Nat.add_mul, ← h1, Nat.pow_succ]
    have e1 : 10 ^ m * 10 * f' = 10 ^ m * (10 * f') := Nat.mul_assoc _ _ _
    have e2 : d * 10 ^ m * N = 10 ^ m * (d * N) := by rw [Nat.mul_comm d, Nat.mul_assoc]
    have e3 : 10 ^ m * (10 * f') + 10 ^ m * r = 10 ^ m * (d * N) + 10 ^ m * f := by rw [← Nat.mul_add, ← Nat.mul_add, hv]
    omega
  · rw [Nat.pow_succ]
    have : 10 ^ m * r ≤ 10 ^ m * 9 := Nat.mul_le_mul_left _ (by omega)
    omega

theorem FrI.lost {N : Nat} {z : List UInt8} {n m f rho r : Nat} (_h : FrI N z n m f rho) : 10 ^ m * r + rho = 0 ↔ r = 0 ∧ rho = 0 := by
  have hp : 0 < 10 ^ m := Nat.pow_pos (by decide)
  constructor
  · intro e
    have h1 : 10 ^ m * r = 0 := by omega
    rcases Nat.mul_eq_zero.1 h1 with h | h
    · omega
    · exact ⟨h, by omega⟩
  · rintro ⟨rfl, rfl⟩; simp

/-- The value of 0.z times ten to the P, as a fraction. -/
def vU (z : List UInt8) (P : Int) : Nat := dn z z.length * 10 ^ (P - z.length).toNat
def vD (z : List UInt8) (P : Int) : Nat := 10 ^ ((z.length : Int) - P).toNat

theorem vD_pos (z : List UInt8) (P : Int) : 0 < vD z P := Nat.pow_pos (by decide)

/-- The laid number is the value, cut. -/
theorem lay_val (N : Nat) (z : List UInt8) (P : Int) (m f rho : Nat) (hm : m = ((z.length : Int) - P).toNat) (h : FrI N z z.length m f rho) : vU z P * N = vD z P * (dn z P.toNat * N + f) + rho ∧ rho < vD z P := by
  obtain ⟨h1, h2⟩ := h
  unfold vU vD
  rw [← hm]
  refine ⟨?_, h2⟩
  rw [Nat.mul_add, Nat.add_assoc, h1]
  by_cases c1 : P < 0
  · have e1 : P.toNat = 0 := by omega
    have e2 : (P - z.length).toNat = 0 := by omega
    obtain ⟨k, hk⟩ : ∃ k, m = z.length + k := ⟨m - z.length, by omega⟩
    rw [e1, e2, hk, sn_all]
    simp [dn]
  · by_cases c2 : P ≤ z.length
    · have e2 : (P - z.length).toNat = 0 := by omega
      have e3 : P.toNat = z.length - m := by omega
      have := dn_sn z z.length m (by omega)
      rw [e2, e3, Nat.pow_zero, Nat.mul_one]
      rw [← Nat.mul_assoc, ← Nat.add_mul, Nat.mul_comm (10 ^ m), ← this]
    · have e3 : m = 0 := by omega
      obtain ⟨k, hk⟩ : ∃ k, P.toNat = z.length + k := ⟨P.toNat - z.length, by omega⟩
      have e4 : (P - z.length).toNat = k := by omega
      rw [e3, e4, hk, dn_more]
      simp [sn]

/-- Far below the least float32. -/
theorem rnd_low (z : List UInt8) (hz : allD z) (P : Int) (hP : P < -45) : Rnd (vU z P * 2 ^ 160) (vD z P) 0 := by
  refine ⟨by decide, fun a ha => by omega, fun _ => .inl ?_⟩
  have e2 : (P - z.length).toNat = 0 := by omega
  unfold vU vD
  obtain ⟨k, hk⟩ : ∃ k, ((z.length : Int) - P).toNat = z.length + 46 + k := ⟨((z.length : Int) - P).toNat - z.length - 46, by omega⟩
  rw [e2, hk, Nat.pow_zero, Nat.mul_one, Nat.pow_add, Nat.pow_add]
  have h1 := dn_lt z hz z.length
  have h2 : 1 ≤ 10 ^ k := Nat.pow_pos (by decide)
  have h3 : FV 0 + FV (0 + 1) = 2 ^ 11 := by decide
  rw [h3]
  generalize 10 ^ z.length = L at h1
  generalize 10 ^ k = K at h2
  have h4 : 2 * (dn z z.length * 2 ^ 160) < 2 * (L * 2 ^ 160) := by omega
  have h5 : 2 * (L * 2 ^ 160) ≤ L * 10 ^ 46 * 2 ^ 11 := by
    rw [Nat.mul_left_comm, Nat.mul_assoc]
    exact Nat.mul_le_mul_left _ (by decide)
  have h6 : L * 10 ^ 46 * 1 * 2 ^ 11 ≤ L * 10 ^ 46 * K * 2 ^ 11 := Nat.mul_le_mul_right _ (Nat.mul_le_mul_left _ h2)
  rw [Nat.mul_one] at h6
  omega

theorem rnd_zero (z : List UInt8) (hz : z = []) (P : Int) : Rnd (vU z P * 2 ^ 160) (vD z P) 0 := by
  subst hz
  refine ⟨by decide, fun a ha => by omega, fun _ => .inl ?_⟩
  have h1 : vU [] P = 0 := by unfold vU; simp [dn]
  rw [h1, Nat.zero_mul, Nat.mul_zero]
  exact Nat.mul_pos (vD_pos _ _) (by decide)

theorem dn_ge (z : List UInt8) (hz : z ≠ []) (h0 : dz z 0 ≠ 0) : ∀ j, 10 ^ j ≤ dn z (j + 1)
  | 0 => by show 1 ≤ 10 * 0 + dz z 0; omega
  | j + 1 => by
    have := dn_ge z hz h0 j
    show _ ≤ 10 * dn z (j + 1) + dz z (j + 1)
    rw [Nat.pow_succ]
    omega

theorem pow_cut (d a b n : Nat) (h : n = a + b) : d * 2 ^ n = d * 2 ^ a * 2 ^ b := by rw [h, Nat.pow_add, Nat.mul_assoc]
theorem pow_up (n k : Nat) (h : n = k + 23) : 8388608 * 2 ^ k = 2 ^ n := by rw [h, Nat.pow_add, Nat.mul_comm]
theorem FV_top : FV 2139095040 = 2 ^ 288 := by
  have h := fM_fP 265 8388608 (by decide) (by decide) (.inl (Nat.le_refl _))
  have e : (265 - 11) * 8388608 + 8388608 = 2139095040 := by decide
  rw [e] at h
  unfold FV
  rw [h.1, h.2]
  exact pow_up 288 265 (by decide)

/-- Far above the greatest float32. -/
theorem rnd_high (z : List UInt8) (hz : z ≠ []) (h0 : dz z 0 ≠ 0) (P : Int) (hP : 39 < P) : Rnd (vU z P * 2 ^ 160) (vD z P) 2139095040 := by
  refine ⟨by decide, fun a ha => .inl ?_, fun h => absurd h (Nat.lt_irrefl _)⟩
  have e1 : FV a < FV 2139095040 := FV_strict (by omega)
  obtain ⟨X, hX⟩ : ∃ X, X = (2 : Nat) ^ 288 := ⟨_, rfl⟩
  have e2 : FV 2139095040 = X := by rw [hX]; exact FV_top
  rw [e2] at e1 ⊢
  have e3 : FV a + X < 2 * X := by omega
  have e4 : 2 * (vD z P * X) ≤ 2 * (vU z P * 2 ^ 160) := by
    have h1 : vD z P * 10 ^ 39 ≤ vU z P := by
      unfold vU vD
      obtain ⟨n, hn⟩ : ∃ n, z.length = n + 1 := by
        cases z with
        | nil => exact absurd rfl hz
        | cons x y => exact ⟨y.length, rfl⟩
      have h2 := dn_ge z hz h0 n
      rw [hn]
      rw [← Nat.pow_add]
      refine Nat.le_trans ?_ (Nat.mul_le_mul_right _ h2)
      rw [← Nat.pow_add]
      exact Nat.pow_le_pow_right (by decide) (by omega)
    have h3 : vD z P * 2 ^ 128 ≤ vU z P := Nat.le_trans (Nat.mul_le_mul_left _ (by decide)) h1
    have h4 : vD z P * X = vD z P * 2 ^ 128 * 2 ^ 160 := by
      rw [hX]
      exact pow_cut _ 128 160 288 rfl
    have := Nat.mul_le_mul_right (2 ^ 160) h3
    clear hX
    omega
  have e5 : vD z P * (FV a + X) < vD z P * (2 * X) := Nat.mul_lt_mul_of_pos_left e3 (vD_pos z P)
  rw [Nat.mul_left_comm] at e5
  clear hX
  omega

end Go.Proofs.Ytgkbbcoagnilgaa
