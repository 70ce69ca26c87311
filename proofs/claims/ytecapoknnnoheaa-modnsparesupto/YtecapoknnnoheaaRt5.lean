import Derived.Test.YtecapoknnnoheaaRt4
import Derived.Test.YtecapoknnnoheaaBt
namespace Go.Proofs.Ytecapoknnnoheaa
open Go.RowKit

set_option maxHeartbeats 1000000 in
theorem rbit_any (k : Nat) (ax : Option Addr) (cx : Nat) (xs : List Nat) (w : World) (hx : Rn w ax xs) (sx : Sm Bs xs) (hk : k ≤ 9223372036854775807) :
    Calls Try.prog 43 #[.slice ax xs.length cx, .int .i64 (k : Int)] w fun e w' => e = .returned (.bool (decide (nv Bs xs / 2 ^ k % 2 = 1))) ∧ w' = w := by
  obtain ⟨q, hq⟩ : ∃ q, k / 32 = q := ⟨_, rfl⟩
  obtain ⟨s, hs⟩ : ∃ s, k % 32 = s := ⟨_, rfl⟩
  have hs32 : s < 32 := by omega
  have eq1 : Int.tdiv (k : Int) 32 = (q : Int) := by rw [Int.tdiv_eq_ediv_of_nonneg (by omega)]; omega
  have eq2 : (k : Int) / 32 = (q : Int) := by omega
  have es1 : Int.tmod (k : Int) 32 = (s : Int) := by rw [Int.tmod_eq_emod_of_nonneg (by omega)]; omega
  have es2 : (k : Int) % 32 = (s : Int) := by omega
  have hq64 : q ≤ 288230376151711744 := by omega
  have eqw : wrap64 (q : Int) = (q : Int) := by unfold wrap64; omega
  have HV : Hid (nv Bs xs / 2 ^ k % 2 = xs.getD q 0 / 2 ^ s % 2) := by
    have := bit_div xs sx q s
    rw [show 32 * q + s = k by omega] at this
    rcases this with h | h
    · exact h
    · omega
  have C := rlimb_any ax xs.length cx q xs w hx sx rfl
  obtain ⟨x, Hx⟩ : ∃ x, Hid (xs.getD q 0 = x) := ⟨_, rfl⟩
  have hxb : x < 4294967296 := by rw [← Hx.out, ← Bs_eq]; exact sx.getD Bs_pos q
  rw [Hx.out] at C HV
  obtain ⟨y, Hy⟩ : ∃ y, Hid (x / 2 ^ s = y) := ⟨_, rfl⟩
  have hy : y < 4294967296 := by rw [← Hy.out]; exact Nat.lt_of_le_of_lt (Nat.div_le_self _ _) hxb
  have ey : (x : Int) / 2 ^ s = (y : Int) := by rw [← Hy.out]; simp
  rw [Hy.out] at HV
  have hand : bits .and .u64 (y : Int) 1 = ((y % 2 : Nat) : Int) := by
    have := u64_and_nat y 1 (by omega) (by decide)
    rw [Nat.and_one_is_mod] at this
    exact this
  obtain ⟨z, Hz⟩ : ∃ z, Hid (y % 2 = z) := ⟨_, rfl⟩
  rw [Hz.out] at hand HV
  have hz : z ≤ 1 := by rw [← Hz.out]; omega
  clear hx sx hq hs Hy Hz
  go_enter Try.func43, Try.ntmps43
  go_wp2_with fail
  refine C.mono ?_
  clear C
  rintro e w ⟨rfl, rfl⟩
  go_wp2
  go_ret
  refine ⟨?_, rfl⟩
  rw [HV.out]
  congr 2
  rcases Nat.eq_zero_or_pos z with h | h
  · subst h; rfl
  · obtain rfl : z = 1 := by omega
    rfl

/-- A limb shifted by one, with what came out below. -/
theorem dbl_limb (x c : Nat) (_hx : x < 4294967296) (hc : c ≤ 1) : bits .or .u32 (((2 * x) % 4294967296 : Nat) : Int) (c : Int) = (((2 * x) % 4294967296 + c : Nat) : Int) := by
  rw [u32_or_nat _ _ (by omega) (by omega)]
  congr 1
  have h : ((2 * x) % 4294967296) = 2 ^ 1 * ((2 * x) % 4294967296 / 2) := by omega
  rw [h, ← Nat.two_pow_add_eq_or_of_lt (by omega)]
theorem dblr_step (B p N N' V R x v c top b : Nat) (h : N + p * c = V + R + b) (hset : N' + p * x = N + p * v) (hs : v + B * top = 2 * x + c) : N' + (p * B) * top = V + (R + p * x) + b := by
  have h1 := congrArg (p * ·) hs
  simp only [Nat.mul_add, ← Nat.mul_assoc] at h1
  have h2 : p * 2 * x = p * x + p * x := by rw [Nat.mul_comm p 2, Nat.mul_assoc]; omega
  omega
theorem subr_step (B p N N' V Y x y z bw b' : Nat) (h : N + Y = V + p * bw) (hset : N' + p * x = N + p * z) (hs : z + bw + 1 * y = x + B * b') : N' + (Y + p * y) = V + (p * B) * b' := by
  have h1 := congrArg (p * ·) hs
  simp only [Nat.mul_add, ← Nat.mul_assoc, Nat.one_mul] at h1
  omega
/-- The quotient's and the rest's next digit. -/
theorem quo_step (A D i : Nat) (hD : D ≠ 0) : (D ≤ 2 * (A / 2 ^ (i + 1) % D) + A / 2 ^ i % 2 → A / 2 ^ i / D * 2 ^ i = A / 2 ^ (i + 1) / D * 2 ^ (i + 1) + 2 ^ i ∧ A / 2 ^ i % D = 2 * (A / 2 ^ (i + 1) % D) + A / 2 ^ i % 2 - D) ∧
    (2 * (A / 2 ^ (i + 1) % D) + A / 2 ^ i % 2 < D → A / 2 ^ i / D * 2 ^ i = A / 2 ^ (i + 1) / D * 2 ^ (i + 1) ∧ A / 2 ^ i % D = 2 * (A / 2 ^ (i + 1) % D) + A / 2 ^ i % 2) := by
  have e : A / 2 ^ (i + 1) = A / 2 ^ i / 2 := by rw [Nat.pow_succ, Nat.div_div_eq_div_mul]
  rw [e]
  generalize A / 2 ^ i = F
  have hF : F = 2 * (F / 2) + F % 2 := by omega
  have h1 := Nat.div_add_mod (F / 2) D
  generalize hq : F / 2 / D = q at *
  generalize hr : F / 2 % D = r at *
  have hrlt : r < D := by rw [← hr]; exact Nat.mod_lt _ (by omega)
  have hb : F % 2 ≤ 1 := by omega
  generalize F % 2 = b at *
  have hv : F = D * (2 * q) + (2 * r + b) := by rw [hF, ← h1, Nat.mul_add, Nat.mul_left_comm]; omega
  rw [Nat.pow_succ]
  constructor
  · intro h
    have e1 : F = D * (2 * q + 1) + (2 * r + b - D) := by rw [hv, Nat.mul_add, Nat.mul_one]; omega
    have e2 : F / D = 2 * q + 1 := by rw [e1, Nat.mul_add_div (by omega), Nat.div_eq_of_lt (by omega), Nat.add_zero]
    refine ⟨?_, by rw [e1, Nat.mul_add_mod, Nat.mod_eq_of_lt (by omega)]⟩
    rw [e2, Nat.add_mul, Nat.one_mul, Nat.mul_comm 2 q, Nat.mul_assoc, Nat.mul_comm 2]
  · intro h
    have e2 : F / D = 2 * q := by rw [hv, Nat.mul_add_div (by omega), Nat.div_eq_of_lt h, Nat.add_zero]
    refine ⟨?_, by rw [hv, Nat.mul_add_mod, Nat.mod_eq_of_lt h]⟩
    rw [e2, Nat.mul_comm 2 q, Nat.mul_assoc, Nat.mul_comm 2]
/-- The quotient's limb takes in a digit that wasn't there. -/
theorem quo_limb (Q : List Nat) (k s m : Nat) (hs : s < 32) (sQ : Sm Bs Q) (h : nv Bs Q = m * 2 ^ (32 * k + s + 1)) : bits .or .u32 ((Q.getD k 0 : Nat) : Int) ((2 ^ s : Nat) : Int) = ((Q.getD k 0 + 2 ^ s : Nat) : Int) ∧ Q.getD k 0 + 2 ^ s < 4294967296 := by
  have hp : Q.getD k 0 < 4294967296 := by have := sQ.getD Bs_pos k; rwa [Bs_eq] at this
  have h2s : 2 ^ s < 4294967296 := by
    have : 2 ^ s ≤ 2 ^ 31 := Nat.pow_le_pow_right (by decide) (by omega)
    have e : (2 : Nat) ^ 31 = 2147483648 := by decide
    omega
  have hlimb : Q.getD k 0 = m * 2 ^ (s + 1) % 4294967296 := by
    rw [nv_getD Bs_pos sQ k, h, Bs_eq]
    congr 1
    rw [show 32 * k + s + 1 = (s + 1) + 32 * k by omega, Nat.pow_add, Nat.pow_mul, ← Nat.mul_assoc, show (2 : Nat) ^ 32 = 4294967296 by decide, Nat.mul_div_cancel _ (Nat.pow_pos (by decide))]
  have hdiv : Q.getD k 0 = 2 ^ (s + 1) * (Q.getD k 0 / 2 ^ (s + 1)) := by
    have hd : 2 ^ (s + 1) ∣ Q.getD k 0 := by
      rw [hlimb]
      refine (Nat.dvd_mod_iff ?_).2 (Nat.dvd_mul_left _ _)
      exact ⟨2 ^ (31 - s), by rw [← Nat.pow_add, show s + 1 + (31 - s) = 32 by omega]⟩
    rw [Nat.mul_div_cancel' hd]
  have hor : (Q.getD k 0 ||| 2 ^ s) = Q.getD k 0 + 2 ^ s := by
    have := Nat.two_pow_add_eq_or_of_lt (i := s + 1) (b := 2 ^ s) (Nat.pow_lt_pow_right (by decide) (by omega)) (Q.getD k 0 / 2 ^ (s + 1))
    rw [← hdiv] at this
    exact this.symm
  refine ⟨by rw [u32_or_nat _ _ hp h2s, hor], ?_⟩
  rw [← hor]
  exact Nat.or_lt_two_pow (n := 32) hp h2s

end Go.Proofs.Ytecapoknnnoheaa
