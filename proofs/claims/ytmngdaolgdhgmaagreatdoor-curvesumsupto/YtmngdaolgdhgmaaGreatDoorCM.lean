import Derived.Test.YtmngdaolgdhgmaaGreatDoorNtZ1
namespace Go.Proofs.YtmngdaolgdhgmaaGreatDoor
/-- A prime. -/
def Prim (p : Nat) : Prop := 2 ≤ p ∧ ∀ m, m ∣ p → m = 1 ∨ m = p
theorem Prim.cop {p a : Nat} (hp : Prim p) (h : ¬ p ∣ a) : Nat.Coprime p a := by
  rcases hp.2 _ (Nat.gcd_dvd_left p a) with h1 | h1
  · exact h1
  · exact absurd (h1 ▸ Nat.gcd_dvd_right p a) h
theorem Prim.mul {p a b : Nat} (hp : Prim p) (h : p ∣ a * b) : p ∣ a ∨ p ∣ b := by
  by_cases ha : p ∣ a
  · exact Or.inl ha
  · exact Or.inr ((hp.cop ha).dvd_of_dvd_mul_left h)
/-- Binomial numbers. -/
def ch : Nat → Nat → Nat
  | _, 0 => 1
  | 0, _ + 1 => 0
  | n + 1, k + 1 => ch n k + ch n (k + 1)
theorem ch_gt (n k : Nat) (h : n < k) : ch n k = 0 := by
  induction n generalizing k with
  | zero => obtain ⟨k, rfl⟩ : ∃ j, k = j + 1 := ⟨k - 1, by omega⟩; rfl
  | succ n ih =>
    obtain ⟨k, rfl⟩ : ∃ j, k = j + 1 := ⟨k - 1, by omega⟩
    simp only [ch]
    rw [ih k (by omega), ih (k + 1) (by omega)]
theorem ch_self (n : Nat) : ch n n = 1 := by
  induction n with
  | zero => rfl
  | succ n ih => simp only [ch]; rw [ih, ch_gt n (n + 1) (by omega)]
theorem ch_zero (n : Nat) : ch n 0 = 1 := by cases n <;> rfl
theorem ch_up (n k : Nat) : (k + 1) * ch (n + 1) (k + 1) = (n + 1) * ch n k := by
  induction n generalizing k with
  | zero =>
    cases k with
    | zero => rfl
    | succ k => simp [ch]
  | succ n ih =>
    cases k with
    | zero =>
      have h := ih 0
      simp only [ch, ch_zero] at h ⊢
      omega
    | succ k =>
      have h1 := ih k
      have h2 := ih (k + 1)
      have h3 : ch (n + 1 + 1) (k + 1 + 1) = ch (n + 1) (k + 1) + ch (n + 1) (k + 1 + 1) := rfl
      have h4 : ch (n + 1) (k + 1) = ch n k + ch n (k + 1) := rfl
      rw [h3, Nat.mul_add, h2, h4]
      rw [h4] at h1
      have h5 : (k + 1 + 1) * (ch n k + ch n (k + 1)) = (k + 1) * (ch n k + ch n (k + 1)) + (ch n k + ch n (k + 1)) := by rw [Nat.succ_mul]
      rw [h5, h1]
      have h6 : (n + 1 + 1) * (ch n k + ch n (k + 1)) = (n + 1) * (ch n k + ch n (k + 1)) + (ch n k + ch n (k + 1)) := by rw [Nat.succ_mul]
      rw [h6, Nat.mul_add]
      omega
theorem ch_dvd {p : Nat} (hp : Prim p) (k : Nat) (h0 : 0 < k) (h : k < p) : p ∣ ch p k := by
  obtain ⟨q, rfl⟩ : ∃ q, p = q + 1 := ⟨p - 1, by have := hp.1; omega⟩
  obtain ⟨j, rfl⟩ : ∃ j, k = j + 1 := ⟨k - 1, by omega⟩
  have h1 : (q + 1) ∣ (j + 1) * ch (q + 1) (j + 1) := ⟨_, ch_up q j⟩
  rcases hp.mul h1 with h2 | h2
  · exact absurd (Nat.le_of_dvd (by omega) h2) (by omega)
  · exact h2
/-- A sum's first terms. -/
def bsum (n a : Nat) : Nat → Nat
  | 0 => 0
  | k + 1 => bsum n a k + ch n k * a ^ k
theorem bsum_succ (n a k : Nat) : bsum (n + 1) a (k + 1) = bsum n a (k + 1) + a * bsum n a k := by
  induction k with
  | zero => simp [bsum, ch_zero]
  | succ k ih =>
    have h1 : bsum (n + 1) a (k + 1 + 1) = bsum (n + 1) a (k + 1) + ch (n + 1) (k + 1) * a ^ (k + 1) := rfl
    have h2 : ch (n + 1) (k + 1) = ch n k + ch n (k + 1) := rfl
    have h3 : bsum n a (k + 1 + 1) = bsum n a (k + 1) + ch n (k + 1) * a ^ (k + 1) := rfl
    have h4 : bsum n a (k + 1) = bsum n a k + ch n k * a ^ k := rfl
    rw [h1, ih, h2, h3, h4, Nat.pow_succ]
    grind
theorem bsum_pow (n a : Nat) : bsum n a (n + 1) = (a + 1) ^ n := by
  induction n with
  | zero => simp [bsum, ch]
  | succ n ih =>
    have h := bsum_succ n a (n + 1)
    have h1 : bsum n a (n + 1 + 1) = bsum n a (n + 1) + ch n (n + 1) * a ^ (n + 1) := rfl
    rw [h, h1, ch_gt n (n + 1) (by omega), ih, Nat.pow_succ]
    grind
theorem bsum_mod {p : Nat} (hp : Prim p) (a k : Nat) (h0 : 0 < k) (h : k ≤ p) : bsum p a k % p = 1 % p := by
  induction k with
  | zero => omega
  | succ k ih =>
    cases k with
    | zero => simp [bsum, ch_zero]
    | succ k =>
      have h1 := ih (by omega) (by omega)
      obtain ⟨c, hc⟩ := ch_dvd hp (k + 1) (by omega) (by omega)
      have h2 : bsum p a (k + 1 + 1) = bsum p a (k + 1) + ch p (k + 1) * a ^ (k + 1) := rfl
      rw [h2, hc, Nat.mul_assoc, Nat.add_mul_mod_self_left, h1]
theorem fermat {p : Nat} (hp : Prim p) (a : Nat) : a ^ p % p = a % p := by
  induction a with
  | zero => rw [Nat.zero_pow (by have := hp.1; omega)]
  | succ a ih =>
    have h1 := bsum_pow p a
    have h2 : bsum p a (p + 1) = bsum p a p + ch p p * a ^ p := rfl
    rw [← h1, h2, ch_self, Nat.one_mul, Nat.add_mod, bsum_mod hp a p (by have := hp.1; omega) (Nat.le_refl _), ih, ← Nat.add_mod, Nat.add_comm]
theorem fermat1 {p : Nat} (hp : Prim p) (a : Nat) (ha : ¬ p ∣ a) : a ^ (p - 1) % p = 1 := by
  have h2 := hp.1
  obtain ⟨q, rfl⟩ : ∃ q, p = q + 1 := ⟨p - 1, by omega⟩
  have h := fermat hp a
  rw [Nat.add_sub_cancel]
  have h3 : (q + 1) ∣ a * (a ^ q - 1) := by
    rw [Nat.mul_sub, Nat.mul_one, ← Nat.pow_succ']
    exact Nat.dvd_of_mod_eq_zero (Nat.sub_mod_eq_zero_of_mod_eq h)
  rcases hp.mul h3 with h4 | h4
  · exact absurd h4 ha
  · have h5 : 0 < a ^ q := Nat.pow_pos (Nat.pos_of_ne_zero (fun h => ha (h ▸ Nat.dvd_zero _)))
    obtain ⟨c, hc⟩ := h4
    have h6 : a ^ q = 1 + (q + 1) * c := by omega
    rw [h6, Nat.add_mul_mod_self_left, Nat.mod_eq_of_lt (by omega)]

theorem bezI (a b : Nat) : ∃ x y : Int, x * (a : Int) + y * (b : Int) = (Nat.gcd a b : Int) := by
  induction a, b using Nat.gcd.induction with
  | H0 b => exact ⟨0, 1, by simp⟩
  | H1 a b ha ih =>
    obtain ⟨x, y, h⟩ := ih
    refine ⟨y - x * ((b / a : Nat) : Int), x, ?_⟩
    rw [Nat.gcd_rec, ← h]
    have h1 : (b : Int) = (a : Int) * ((b / a : Nat) : Int) + ((b % a : Nat) : Int) := by exact_mod_cast (Nat.div_add_mod b a).symm
    rw [h1]
    generalize ((b / a : Nat) : Int) = q
    grind
theorem bez (a b : Nat) (h : Nat.gcd a b = 1) (ha : 0 < a) (hb : 0 < b) : ∃ u v, u * a = 1 + v * b := by
  obtain ⟨x, y, hx⟩ := bezI a b
  rw [h] at hx
  have h1 := Int.emod_nonneg x (b := (b : Int)) (by omega)
  have h2 := Int.emod_add_mul_ediv x (b : Int)
  have h3 : (((x % b).toNat : Nat) : Int) = x % b := Int.toNat_of_nonneg h1
  have h4 : ((((x % b).toNat + b) * a : Nat) : Int) = 1 + (b : Int) * (a - y - a * (x / b)) := by
    rw [Int.natCast_mul, Int.natCast_add, h3]
    have h5 : x % b = x - b * (x / b) := by omega
    rw [h5]
    generalize x / (b : Int) = z
    grind
  refine ⟨(x % b).toNat + b, ((a : Int) - y - a * (x / b)).toNat, ?_⟩
  have h6 : 1 ≤ ((x % b).toNat + b) * a := Nat.mul_pos (by omega) ha
  have h7 : 0 ≤ (a : Int) - y - a * (x / b) := by
    apply Int.not_lt.1
    intro h8
    have h9 : (b : Int) * (a - y - a * (x / b)) < 0 := Int.mul_neg_of_pos_of_neg (by omega) h8
    omega
  have h8 : ((((x % b).toNat + b) * a : Nat) : Int) = ((1 + ((a : Int) - y - a * (x / b)).toNat * b : Nat) : Int) := by
    rw [h4, Int.natCast_add, Int.natCast_mul, Int.toNat_of_nonneg h7, Int.mul_comm]
    rfl
  exact_mod_cast h8
/-- What each prime of N is, one prime of N - 1 at a time. -/
theorem pock {N q m a r : Nat} (hr : Prim r) (hN : r ∣ N) (hq : Prim q) (h1 : N - 1 = q * m) (h2 : a ^ (N - 1) % N = 1) (h3 : Nat.gcd (a ^ m % N + (N - 1)) N = 1) (hN2 : 2 ≤ N) : q ∣ r - 1 := by
  by_cases hd : q ∣ r - 1
  · exact hd
  exfalso
  have hr2 := hr.1
  have hq2 := hq.1
  have hc := hq.cop hd
  obtain ⟨u, v, huv⟩ := bez q (r - 1) hc (by omega) (by omega)
  have e1 : a ^ (N - 1) % r = 1 := by
    rw [← Nat.mod_mod_of_dvd _ hN, h2, Nat.mod_eq_of_lt (by omega)]
  have ha : ¬ r ∣ a := by
    intro h
    have h4 : r ∣ a ^ (N - 1) := by
      obtain ⟨j, hj⟩ : ∃ j, N - 1 = j + 1 := ⟨N - 2, by omega⟩
      rw [hj, Nat.pow_succ]
      exact Nat.dvd_trans h (Nat.dvd_mul_left _ _)
    rw [Nat.mod_eq_zero_of_dvd h4] at e1
    omega
  have e2 := fermat1 hr a ha
  have e3 : a ^ (m * (u * q)) % r = 1 := by
    have h4 : m * (u * q) = (N - 1) * u := by rw [h1]; grind
    rw [h4, Nat.pow_mul, Nat.pow_mod, e1, Nat.one_pow, Nat.mod_eq_of_lt (by omega)]
  have e4 : a ^ (m * (u * q)) % r = a ^ m % r := by
    have h4 : m * (u * q) = m + (r - 1) * (m * v) := by rw [huv]; grind
    rw [h4, Nat.pow_add, Nat.pow_mul, Nat.mul_mod, Nat.pow_mod (a ^ (r - 1)), e2, Nat.one_pow, Nat.mod_eq_of_lt (show 1 < r by omega), Nat.mul_one, Nat.mod_mod]
  have e5 : a ^ m % r = 1 := by rw [← e4, e3]
  have e6 : r ∣ a ^ m % N + (N - 1) := by
    apply Nat.dvd_of_mod_eq_zero
    have h4 : (a ^ m % N + (N - 1)) % r = (1 + (N - 1)) % r := by
      rw [Nat.add_mod, Nat.mod_mod_of_dvd _ hN, e5, Nat.add_mod_mod]
    rw [h4, show 1 + (N - 1) = N by omega, Nat.mod_eq_zero_of_dvd hN]
  have e7 := Nat.dvd_gcd e6 hN
  rw [h3] at e7
  exact absurd (Nat.le_of_dvd (by omega) e7) (by omega)
/-- A power modulo N, for the reckoner. -/
def pwm (N : Nat) : Nat → Nat → Nat → Nat
  | 0, _, _ => 1 % N
  | k + 1, a, e => if e % 2 = 1 then a * pwm N k (a * a % N) (e / 2) % N else pwm N k (a * a % N) (e / 2)
theorem pwm_eq (N k a e : Nat) (h : e < 2 ^ k) : pwm N k a e = a ^ e % N := by
  induction k generalizing a e with
  | zero =>
    have : e = 0 := by simpa using h
    subst this
    simp [pwm]
  | succ k ih =>
    have h1 := ih (a * a % N) (e / 2) (by rw [Nat.pow_succ] at h; omega)
    have h2 : (a * a % N) ^ (e / 2) % N = a ^ (2 * (e / 2)) % N := by
      rw [← Nat.pow_mod, ← Nat.pow_two, ← Nat.pow_mul]
    simp only [pwm]
    rw [h1, h2]
    split
    · rename_i h3
      have h4 : e = 2 * (e / 2) + 1 := by omega
      rw [Nat.mul_mod, Nat.mod_mod, ← Nat.mul_mod, ← Nat.pow_succ', Nat.succ_eq_add_one, ← h4]
    · rename_i h3
      have h4 : e = 2 * (e / 2) := by omega
      rw [← h4]
theorem least_prim (N : Nat) (h : 2 ≤ N) : ∃ r, Prim r ∧ r ∣ N ∧ (Prim N ∨ r * r ≤ N) := by
  induction N using Nat.strongRecOn with
  | ind N ih =>
    by_cases hp : Prim N
    · exact ⟨N, hp, Nat.dvd_refl _, Or.inl hp⟩
    · have h1 : ∃ m, m ∣ N ∧ m ≠ 1 ∧ m ≠ N := by
        apply Classical.byContradiction
        intro h2
        refine hp ⟨h, fun m hm => ?_⟩
        apply Classical.byContradiction
        intro h3
        exact h2 ⟨m, hm, fun h4 => h3 (Or.inl h4), fun h4 => h3 (Or.inr h4)⟩
      obtain ⟨m, ⟨n, hmn⟩, hm1, hmN⟩ := h1
      have hm0 : m ≠ 0 := by rintro rfl; omega
      have hn0 : n ≠ 0 := by rintro rfl; omega
      have hn1 : n ≠ 1 := by rintro rfl; omega
      have key : ∀ d e, N = d * e → 2 ≤ d → 2 ≤ e → d ≤ e → ∃ r, Prim r ∧ r ∣ N ∧ (Prim N ∨ r * r ≤ N) := by
        intro d e hde hd he hle
        have hlt : d < N := by rw [hde]; exact (Nat.lt_mul_iff_one_lt_right (by omega)).2 (by omega)
        obtain ⟨r, hr, hrd, _⟩ := ih d hlt hd
        refine ⟨r, hr, hde ▸ Nat.dvd_trans hrd (Nat.dvd_mul_right _ _), Or.inr ?_⟩
        have h5 := Nat.le_of_dvd (by omega) hrd
        rw [hde]
        exact Nat.mul_le_mul h5 (by omega)
      rcases Nat.le_total m n with h6 | h6
      · exact key m n hmn (by omega) (by omega) h6
      · exact key n m (by rw [hmn, Nat.mul_comm]) (by omega) (by omega) h6
theorem prim_of {N F : Nat} (h : 2 ≤ N) (hF : N ≤ F * F) (hr : ∀ r, Prim r → r ∣ N → F ∣ r - 1) : Prim N := by
  obtain ⟨r, h1, h2, h3⟩ := least_prim N h
  rcases h3 with h3 | h3
  · exact h3
  · exfalso
    have h4 := h1.1
    have h5 := Nat.le_of_dvd (by omega) (hr r h1 h2)
    have h6 : (F + 1) * (F + 1) ≤ r * r := Nat.mul_le_mul (by omega) (by omega)
    have h7 : F * F < (F + 1) * (F + 1) := by grind
    omega
/-- One row of a certificate. -/
def pcert (k N q a : Nat) : Bool := (N - 1) % q == 0 && pwm N k a (N - 1) == 1 && Nat.gcd (pwm N k a ((N - 1) / q) + (N - 1)) N == 1 && decide (N - 1 < 2 ^ k)
theorem pcert_ok {k N q a r : Nat} (h : pcert k N q a = true) (hN : 2 ≤ N) (hq : Prim q) (hr : Prim r) (hrN : r ∣ N) : q ∣ r - 1 := by
  simp only [pcert, Bool.and_eq_true, beq_iff_eq, decide_eq_true_eq] at h
  obtain ⟨⟨⟨h1, h2⟩, h3⟩, h4⟩ := h
  have h5 : N - 1 = q * ((N - 1) / q) := (Nat.mul_div_cancel' (Nat.dvd_of_mod_eq_zero h1)).symm
  rw [pwm_eq _ _ _ _ h4] at h2
  rw [pwm_eq _ _ _ _ (Nat.lt_of_le_of_lt (Nat.div_le_self _ _) h4)] at h3
  exact pock hr hrN hq h5 h2 h3 hN
theorem prim1 {k N q a : Nat} (hq : Prim q) (h : pcert k N q a = true) (h2 : 2 ≤ N) (hs : N ≤ q * q) : Prim N :=
  prim_of h2 hs fun _ hr hrN => pcert_ok h h2 hq hr hrN
theorem prim2 {k N q a t c : Nat} (hq : Prim q) (h : pcert k N q a = true) (ht : Prim t) (hc : pcert k N t c = true) (hqt : q ≠ t) (h2 : 2 ≤ N) (hs : N ≤ (q * t) * (q * t)) : Prim N := by
  refine prim_of h2 hs fun r hr hrN => ?_
  have h3 := pcert_ok h h2 hq hr hrN
  have h4 := pcert_ok hc h2 ht hr hrN
  refine Nat.Coprime.mul_dvd_of_dvd_of_dvd (hq.cop fun h5 => ?_) h3 h4
  rcases ht.2 q h5 with h6 | h6
  · have := hq.1; omega
  · exact hqt h6
/-- Small primes, by trial. -/
def tryP (n : Nat) : Nat → Bool
  | 0 => true
  | k + 1 => (decide (k < 2) || !(n % k == 0)) && tryP n k
theorem tryP_ok (n k : Nat) (h : tryP n k = true) (m : Nat) (h2 : 2 ≤ m) (hk : m < k) : ¬ m ∣ n := by
  induction k with
  | zero => omega
  | succ k ih =>
    simp only [tryP, Bool.and_eq_true, Bool.or_eq_true, decide_eq_true_eq, Bool.not_eq_true', beq_eq_false_iff_ne] at h
    by_cases h3 : m = k
    · subst h3
      rcases h.1 with h4 | h4
      · omega
      · exact fun h5 => h4 (Nat.mod_eq_zero_of_dvd h5)
    · exact ih h.2 (by omega)
theorem prim_small (n k : Nat) (h : tryP n k = true) (h2 : 2 ≤ n) (hk : n < k * k) : Prim n := by
  obtain ⟨r, h1, h3, h4⟩ := least_prim n h2
  rcases h4 with h4 | h4
  · exact h4
  · exfalso
    refine tryP_ok n k h r h1.1 ?_ h3
    apply Nat.lt_of_not_le
    intro h5
    exact absurd (Nat.mul_le_mul h5 h5) (by omega)
end Go.Proofs.YtmngdaolgdhgmaaGreatDoor
