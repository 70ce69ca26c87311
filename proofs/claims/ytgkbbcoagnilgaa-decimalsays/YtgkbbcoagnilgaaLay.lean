import Derived.Test.YtgkbbcoagnilgaaLayD
import Derived.Test.YtgkbbcoagnilgaaSpell
namespace Go.Proofs.Ytgkbbcoagnilgaa
open Go.RowKit

/-- Ten noughts. -/
abbrev Z10 : List Nat := List.replicate 10 0

theorem cell_but {w w' : World} {b : Nat} (h : But w w' b) (a : Addr) (hne : a.block ≠ b) : w'.cell? a = w.cell? a := by
  unfold World.cell?
  rw [h.2.2.2.2 a.block hne]

theorem But.trans {w w' w'' : World} {b : Nat} (h : But w w' b) (k : But w' w'' b) : But w w'' b :=
  ⟨k.1.trans h.1, k.2.1.trans h.2.1, k.2.2.1.trans h.2.2.1, k.2.2.2.1.trans h.2.2.2.1, fun x hx => (k.2.2.2.2 x hx).trans (h.2.2.2.2 x hx)⟩

/-- The five upper limbs hold the first j places. -/
def WhI (z : List UInt8) (j : Nat) (ys : List Nat) : Prop := wv 4294967296 5 ys 5 = dn z j ∧ wv 4294967296 0 ys 5 = 0

theorem WhI.start (z : List UInt8) : WhI z 0 Z10 := ⟨by show wv 4294967296 5 Z10 5 = 0; decide, by decide⟩

theorem tm_step (B : Nat) (hB : 0 < B) (ys : List Nat) (d D : Nat) (hl : 10 ≤ ys.length) (hD : D = 10 * wv B 5 ys 5 + d) (hlt : D < B ^ 5) : wv B 5 (tmF B 5 0 5 ys d).1 5 = D := by
  have h1 := tmF_val B 5 hB 5 0 ys d (by omega)
  have e0 : wv B 5 ys 0 = 0 := rfl
  rw [e0, Nat.pow_zero, Nat.mul_one, Nat.zero_add 5, ← hD] at h1
  generalize (tmF B 5 0 5 ys d).2 = c at h1
  have hc : c = 0 := by
    rcases Nat.eq_zero_or_pos c with h | h
    · exact h
    · have := Nat.mul_le_mul_right (B ^ 5) h
      omega
  subst hc
  omega

theorem tm_low (B : Nat) (ys : List Nat) (d : Nat) : wv B 0 (tmF B 5 0 5 ys d).1 5 = wv B 0 ys 5 :=
  wv_congr B 0 ys _ 5 (fun k hk => tmF_out B 5 5 0 ys d k (.inl (by omega)))

theorem WhI.step {z : List UInt8} {j : Nat} {ys : List Nat} (h : WhI z j ys) (hl : ys.length = 10) (hz : allD z) (hj : j < 39) : WhI z (j + 1) (tmF 4294967296 5 0 5 ys (dz z j)).1 := by
  have h4 := dn_lt z hz (j + 1)
  have h5 : 10 ^ (j + 1) ≤ 10 ^ 39 := Nat.pow_le_pow_right (by decide) (by omega)
  have h6 : (10 : Nat) ^ 39 < 4294967296 ^ 5 := by decide
  have e1 : dn z (j + 1) = 10 * wv 4294967296 5 ys 5 + dz z j := by rw [h.1]; rfl
  exact ⟨tm_step 4294967296 (by decide) ys (dz z j) _ (by omega) e1 (by omega), (tm_low 4294967296 ys (dz z j)).trans h.2⟩

/-- The five lower limbs hold the last m places. -/
def LwI (z : List UInt8) (p m lost : Nat) (ys : List Nat) : Prop := wv 4294967296 5 ys 5 = dn z p ∧ ∃ rho, FrI (2 ^ 160) z z.length m (wv 4294967296 0 ys 5) rho ∧ (lost = 0 ↔ rho = 0)

theorem LwI.start {z : List UInt8} {p : Nat} {ys : List Nat} (h : WhI z p ys) : LwI z p 0 0 ys := ⟨h.1, 0, by rw [h.2]; exact FrI.start _ _ _, by simp⟩

theorem LwI.step {z : List UInt8} {p m lost d : Nat} {ys : List Nat} (h : LwI z p m lost ys) (hl : ys.length = 10) (hd9 : d < 10) (hd : d = if m < z.length then dz z (z.length - 1 - m) else 0) : LwI z p (m + 1) (lost ||| (ovF 4294967296 0 5 ys d).2) (ovF 4294967296 0 5 ys d).1 := by
  obtain ⟨h1, rho, h2, h3⟩ := h
  have k1 := ovF_val 4294967296 0 5 ys d (by omega)
  have k2 := ovF_out 4294967296 0 5 ys d
  have k3 := ovF_rem 4294967296 0 5 ys d hd9
  have e : (4294967296 : Nat) ^ 5 = 2 ^ 160 := by decide
  rw [e] at k1
  refine ⟨?_, 10 ^ m * (ovF 4294967296 0 5 ys d).2 + rho, h2.step hd k1 k3, ?_⟩
  · rw [← h1]
    clear k1
    unfold wv; rw [k2 (5 + 4) (.inr (by omega))]
    unfold wv; rw [k2 (5 + 3) (.inr (by omega))]
    unfold wv; rw [k2 (5 + 2) (.inr (by omega))]
    unfold wv; rw [k2 (5 + 1) (.inr (by omega))]
    unfold wv; rw [k2 (5 + 0) (.inr (by omega))]
    rfl
  · rw [h2.lost, Nat.or_eq_zero_iff, h3]
    exact ⟨fun h => ⟨h.2, h.1⟩, fun h => ⟨h.2, h.1⟩⟩

theorem wv_ten (xs : List Nat) : wv 4294967296 0 xs 10 = wv 4294967296 5 xs 5 * 2 ^ 160 + wv 4294967296 0 xs 5 := by
  have e : (2 : Nat) ^ 160 = 4294967296 ^ 5 := by decide
  rw [e]
  simp only [wv]
  generalize (4294967296 : Nat) = B
  rw [Nat.add_mul, Nat.add_mul, Nat.add_mul, Nat.add_mul, Nat.add_mul]
  have q : ∀ a i, a * B ^ i * B ^ 5 = a * B ^ (i + 5) := fun a i => by rw [Nat.mul_assoc, ← Nat.pow_add]
  rw [q, q, q, q, q]
  simp only [Nat.zero_add, Nat.reduceAdd, Nat.zero_mul, Nat.add_zero, Nat.add_assoc]

theorem or_one (x : Nat) : x ||| 1 = 2 * (x / 2) + 1 := by
  have h1 : x = 2 * (x / 2) + x % 2 := (Nat.div_add_mod x 2).symm
  rcases Nat.mod_two_eq_zero_or_one x with h | h
  · have : x ||| 1 = x + 1 := by
      have e := Nat.two_pow_add_eq_or_of_lt (i := 1) (b := 1) (by decide) (x / 2)
      rw [Nat.pow_one] at e
      rw [h, Nat.add_zero] at h1
      rw [← h1] at e
      exact e.symm
    omega
  · have e := Nat.two_pow_add_eq_or_of_lt (i := 1) (b := 1) (by decide) (x / 2)
    rw [Nat.pow_one] at e
    rw [h] at h1
    have e2 : x = 2 * (x / 2) ||| 1 := by rw [← e]; exact h1
    have : x ||| 1 = x := by
      conv => lhs; rw [e2]
      rw [Nat.or_assoc, Nat.or_self, ← e2]
    omega

theorem wv_par (C : Nat) (ys : List Nat) : ∀ n, wv (2 * C) 0 ys (n + 1) % 2 = ys.getD 0 0 % 2
  | 0 => by simp [wv]
  | n + 1 => by
    have ih := wv_par C ys n
    show (ys.getD (0 + (n + 1)) 0 * (2 * C) ^ (n + 1) + wv (2 * C) 0 ys (n + 1)) % 2 = _
    rw [Nat.pow_succ, Nat.mul_left_comm _ 2 C, Nat.mul_left_comm _ 2, Nat.mul_add_mod]
    exact ih

/-- What is laid, the lowest bit set or not. -/
theorem lay_end {z : List UInt8} {P : Int} {m lost : Nat} {ys : List Nat} (h : LwI z P.toNat m lost ys) (hm : m = ((z.length : Int) - P).toNat) (hl : ys.length = 10) :
    ∃ q r, wv 4294967296 0 (if lost = 0 then ys else ys.set 0 (ys.getD 0 0 ||| 1)) 10 = stk q r ∧ vU z P * 2 ^ 160 = vD z P * q + r ∧ r < vD z P := by
  obtain ⟨h1, rho, h2, h3⟩ := h
  obtain ⟨v1, v2⟩ := lay_val (2 ^ 160) z P m _ rho hm h2
  refine ⟨_, rho, ?_, v1, v2⟩
  by_cases h0 : lost = 0
  · rw [if_pos h0, wv_ten, h1]
    unfold stk
    rw [if_pos (h3.1 h0)]
  · rw [if_neg h0]
    unfold stk
    rw [if_neg (fun e => h0 (h3.2 e))]
    have k := wv_set_in 4294967296 0 ys 0 (ys.getD 0 0 ||| 1) (by omega) 10 (by omega)
    rw [wv_ten ys, h1, Nat.pow_zero, Nat.mul_one, Nat.mul_one] at k
    rw [Nat.zero_add] at k
    have hp : (dn z P.toNat * 2 ^ 160 + wv 4294967296 0 ys 5) % 2 = ys.getD 0 0 % 2 := by
      rw [show (2 : Nat) ^ 160 = 2 * 2 ^ 159 from rfl, Nat.mul_left_comm, Nat.mul_add_mod]
      exact wv_par 2147483648 ys 4
    rw [or_one] at k ⊢
    obtain ⟨v, hv⟩ : ∃ v, v = dn z P.toNat * 2 ^ 160 + wv 4294967296 0 ys 5 := ⟨_, rfl⟩
    rw [← hv] at k hp ⊢
    omega

end Go.Proofs.Ytgkbbcoagnilgaa
