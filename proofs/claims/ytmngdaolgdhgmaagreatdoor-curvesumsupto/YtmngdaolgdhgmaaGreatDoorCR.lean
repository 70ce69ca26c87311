import Derived.Test.YtmngdaolgdhgmaaGreatDoorCM
namespace Go.Proofs.YtmngdaolgdhgmaaGreatDoor
/-- A product of what is a + b X + c X^2 where X^3 = 3 X + nb. -/
def mulT (p nb : Nat) (a c : Nat × Nat × Nat) : Nat × Nat × Nat :=
  ((a.1 * c.1 + nb * (a.2.1 * c.2.2 + a.2.2 * c.2.1)) % p, (a.1 * c.2.1 + a.2.1 * c.1 + 3 * (a.2.1 * c.2.2 + a.2.2 * c.2.1) + nb * (a.2.2 * c.2.2)) % p, (a.1 * c.2.2 + a.2.1 * c.2.1 + a.2.2 * c.1 + 3 * (a.2.2 * c.2.2)) % p)
/-- A power of it. -/
def powT (p nb : Nat) : Nat → Nat × Nat × Nat → Nat → Nat × Nat × Nat
  | 0, _, _ => (1, 0, 0)
  | k + 1, a, e => if e % 2 = 1 then mulT p nb a (powT p nb k (mulT p nb a a) (e / 2)) else powT p nb k (mulT p nb a a) (e / 2)
def evT (x : Int) (a : Nat × Nat × Nat) : Int := a.1 + a.2.1 * x + a.2.2 * x ^ 2
theorem dvd_mod (p n : Nat) : (p : Int) ∣ ((n % p : Nat) : Int) - (n : Int) := by
  refine ⟨-((n / p : Nat) : Int), ?_⟩
  have h : (n : Int) = (p : Int) * ((n / p : Nat) : Int) + ((n % p : Nat) : Int) := by exact_mod_cast (Nat.div_add_mod n p).symm
  grind
theorem evT_mul (p nb : Nat) (x : Int) (hx : (p : Int) ∣ x ^ 3 - 3 * x - nb) (a c : Nat × Nat × Nat) : (p : Int) ∣ evT x (mulT p nb a c) - evT x a * evT x c := by
  obtain ⟨a0, a1, a2⟩ := a
  obtain ⟨c0, c1, c2⟩ := c
  simp only [evT, mulT]
  obtain ⟨j0, h0⟩ := dvd_mod p (a0 * c0 + nb * (a1 * c2 + a2 * c1))
  obtain ⟨j1, h1⟩ := dvd_mod p (a0 * c1 + a1 * c0 + 3 * (a1 * c2 + a2 * c1) + nb * (a2 * c2))
  obtain ⟨j2, h2⟩ := dvd_mod p (a0 * c2 + a1 * c1 + a2 * c0 + 3 * (a2 * c2))
  obtain ⟨k, hk⟩ := hx
  simp only [Int.natCast_add, Int.natCast_mul] at h0 h1 h2
  generalize (((a0 * c0 + nb * (a1 * c2 + a2 * c1)) % p : Nat) : Int) = r0 at h0 ⊢
  generalize (((a0 * c1 + a1 * c0 + 3 * (a1 * c2 + a2 * c1) + nb * (a2 * c2)) % p : Nat) : Int) = r1 at h1 ⊢
  generalize (((a0 * c2 + a1 * c1 + a2 * c0 + 3 * (a2 * c2)) % p : Nat) : Int) = r2 at h2 ⊢
  generalize (a0 : Int) = A0 at *
  generalize (a1 : Int) = A1 at *
  generalize (a2 : Int) = A2 at *
  generalize (c0 : Int) = C0 at *
  generalize (c1 : Int) = C1 at *
  generalize (c2 : Int) = C2 at *
  generalize (nb : Int) = B at *
  generalize (p : Int) = P at *
  have e0 : r0 = A0 * C0 + B * (A1 * C2 + A2 * C1) + P * j0 := by omega
  have e1 : r1 = A0 * C1 + A1 * C0 + 3 * (A1 * C2 + A2 * C1) + B * (A2 * C2) + P * j1 := by simp at h1; omega
  have e2 : r2 = A0 * C2 + A1 * C1 + A2 * C0 + 3 * (A2 * C2) + P * j2 := by simp at h2; omega
  have eB : B = x ^ 3 - 3 * x - P * k := by omega
  refine ⟨j0 + j1 * x + j2 * x ^ 2 - k * (A1 * C2 + A2 * C1) - k * (A2 * C2) * x, ?_⟩
  rw [e0, e1, e2, eB]
  grind
theorem evT_pow (p nb : Nat) (x : Int) (hx : (p : Int) ∣ x ^ 3 - 3 * x - nb) (k : Nat) (a : Nat × Nat × Nat) (e : Nat) (h : e < 2 ^ k) (y : Int) (hy : (p : Int) ∣ evT x a - y) : (p : Int) ∣ evT x (powT p nb k a e) - y ^ e := by
  induction k generalizing a e y with
  | zero =>
    have : e = 0 := by simpa using h
    subst this
    exact ⟨0, by simp [powT, evT]⟩
  | succ k ih =>
    have h1 : (p : Int) ∣ evT x (mulT p nb a a) - y * y := by
      obtain ⟨i, hi⟩ := evT_mul p nb x hx a a
      obtain ⟨j, hj⟩ := hy
      refine ⟨i + j * (evT x a + y), ?_⟩
      generalize evT x (mulT p nb a a) = z at *
      generalize evT x a = t at *
      grind
    have h2 := ih (mulT p nb a a) (e / 2) (by rw [Nat.pow_succ] at h; omega) (y * y) h1
    simp only [powT]
    split
    · rename_i h3
      have h4 : e = 2 * (e / 2) + 1 := by omega
      obtain ⟨i, hi⟩ := evT_mul p nb x hx a (powT p nb k (mulT p nb a a) (e / 2))
      obtain ⟨j, hj⟩ := h2
      obtain ⟨l, hl⟩ := hy
      have h5 : y ^ e = y * (y * y) ^ (e / 2) := by
        conv => lhs; rw [h4]
        rw [Int.pow_succ, Int.pow_mul, Int.mul_comm, show y ^ 2 = y * y from by rw [Int.pow_succ, Int.pow_succ, Int.pow_zero, Int.one_mul]]
      rw [h5]
      refine ⟨i + j * evT x a + l * (y * y) ^ (e / 2), ?_⟩
      generalize evT x (mulT p nb a (powT p nb k (mulT p nb a a) (e / 2))) = z at *
      generalize evT x (powT p nb k (mulT p nb a a) (e / 2)) = t at *
      generalize evT x a = s at *
      generalize (y * y) ^ (e / 2) = q at *
      grind
    · rename_i h3
      have h4 : e = 2 * (e / 2) := by omega
      have h5 : y ^ e = (y * y) ^ (e / 2) := by
        conv => lhs; rw [h4]
        rw [Int.pow_mul, show y ^ 2 = y * y from by rw [Int.pow_succ, Int.pow_succ, Int.pow_zero, Int.one_mul]]
      rw [h5]
      exact h2
theorem emod_powI (x p : Int) (k : Nat) : (x % p) ^ k % p = x ^ k % p := by
  induction k with
  | zero => rw [Int.pow_zero, Int.pow_zero]
  | succ k ih => rw [Int.pow_succ, Int.pow_succ, Int.mul_emod, ih, Int.emod_emod, ← Int.mul_emod]
theorem fermatI {p : Nat} (hp : Prim p) (x : Int) : (p : Int) ∣ x ^ p - x := by
  have h2 := hp.1
  have h0 := Int.emod_nonneg x (b := (p : Int)) (by omega)
  have h1 : (((x % p).toNat : Nat) : Int) = x % p := Int.toNat_of_nonneg h0
  have h3 : (p : Int) ∣ (x % p) ^ p - x % p := by
    rw [← h1]
    have h4 := fermat hp (x % p).toNat
    apply Int.dvd_of_emod_eq_zero
    apply Int.emod_eq_emod_iff_emod_sub_eq_zero.1
    rw [← Int.natCast_pow, ← Int.natCast_emod, ← Int.natCast_emod, h4]
  have h5 : (x % p) ^ p % p = x ^ p % p := emod_powI _ _ _
  have h6 : (x ^ p - x) % p = ((x % p) ^ p - x % p) % p := by rw [Int.sub_emod, ← h5, Int.sub_emod ((x % p) ^ p), Int.emod_emod]
  apply Int.dvd_of_emod_eq_zero
  rw [h6]
  exact Int.emod_eq_zero_of_dvd h3
/-- No root of the cubic: X^p - X has an inverse modulo it. -/
theorem noroot_of {p b k s0 s1 s2 : Nat} (hp : Prim p) (hb : b < p) (hk : p < 2 ^ k)
    (h : mulT p (p - b) (s0, s1, s2) (mulT p (p - b) (1, 0, 0) ((powT p (p - b) k (0, 1, 0) p).1, (powT p (p - b) k (0, 1, 0) p).2.1 + (p - 1), (powT p (p - b) k (0, 1, 0) p).2.2)) = (1, 0, 0)) (x : Int) : ¬ ((p : Nat) : Int) ∣ x ^ 3 - 3 * x + b := by
  intro hx
  have h2 := hp.1
  have hn : ((p - b : Nat) : Int) = (p : Int) - b := by omega
  have hx' : (p : Int) ∣ x ^ 3 - 3 * x - ((p - b : Nat) : Int) := by
    rw [hn]
    obtain ⟨c, hc⟩ := hx
    exact ⟨c - 1, by grind⟩
  have h3 := evT_pow p (p - b) x hx' k (0, 1, 0) p hk x ⟨0, by simp [evT]⟩
  have h4 := fermatI hp x
  generalize powT p (p - b) k (0, 1, 0) p = g at h h3
  have h5 := evT_mul p (p - b) x hx' (1, 0, 0) (g.1, g.2.1 + (p - 1), g.2.2)
  have h6 := evT_mul p (p - b) x hx' (s0, s1, s2) (mulT p (p - b) (1, 0, 0) (g.1, g.2.1 + (p - 1), g.2.2))
  rw [h] at h6
  generalize evT x (mulT p (p - b) (1, 0, 0) (g.1, g.2.1 + (p - 1), g.2.2)) = z at h5 h6
  have e1 : evT x (1, 0, 0) = 1 := by simp [evT]
  have e2 : evT x (g.1, g.2.1 + (p - 1), g.2.2) = evT x g - x + p * x := by
    have : ((p - 1 : Nat) : Int) = (p : Int) - 1 := by omega
    simp only [evT, Int.natCast_add, this]
    grind
  rw [e1] at h5 h6
  rw [e2] at h5
  generalize evT x (s0, s1, s2) = s at *
  generalize evT x g = t at *
  obtain ⟨i3, h3⟩ := h3
  obtain ⟨i4, h4⟩ := h4
  obtain ⟨i5, h5⟩ := h5
  obtain ⟨i6, h6⟩ := h6
  generalize x ^ p = q at *
  have h7 : (p : Int) ∣ 1 := ⟨i6 + s * (i5 + x + i3 + i4), by grind⟩
  have h8 := Int.le_of_dvd (by omega) h7
  omega
end Go.Proofs.YtmngdaolgdhgmaaGreatDoor
