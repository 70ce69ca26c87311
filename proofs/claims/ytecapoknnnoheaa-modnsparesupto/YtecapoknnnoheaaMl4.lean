import Derived.Test.YtecapoknnnoheaaMl3
import Derived.Test.YtecapoknnnoheaaMdM
namespace Go.Proofs.Ytecapoknnnoheaa
open Go.RowKit

theorem less_back (A B M : Nat) (hM : 2 ≤ M) : (lessV M (A % M) (B % M) + B) % M = A % M := by
  apply Cg.mod
  obtain ⟨k, hk⟩ := lessV_cg (a := A % M) (Nat.mod_lt B (show 0 < M by omega))
  have hA : ((M * (A / M) + A % M : Nat) : Int) = (A : Int) := by rw [Nat.div_add_mod A M]
  have hB : ((M * (B / M) + B % M : Nat) : Int) = (B : Int) := by rw [Nat.div_add_mod B M]
  rw [Int.natCast_add, Int.natCast_mul] at hA hB
  refine ⟨k + (B / M : Nat) - (A / M : Nat), ?_⟩
  rw [Int.natCast_add]
  generalize A / M = p at *
  generalize B / M = q at *
  generalize A % M = r at *
  generalize B % M = s at *
  grind
theorem less_sum (A B M : Nat) (hM : 2 ≤ M) : lessV M ((A + B) % M % M) (B % M) = A % M := by
  have h1 : lessV M ((A + B) % M % M) (B % M) < M := lessV_lt (Nat.mod_lt _ (by omega)) (Nat.mod_lt _ (by omega))
  have h2 := less_back ((A + B) % M) B M hM
  have h3 : (lessV M ((A + B) % M % M) (B % M)) % M = A % M := by
    apply Cg.mod
    have h4 : Cg M ((lessV M ((A + B) % M % M) (B % M) + B : Nat) : Int) ((A + B : Nat) : Int) := Cg.of_mod (by rw [h2, Nat.mod_mod])
    obtain ⟨k, hk⟩ := h4
    exact ⟨k, by omega⟩
  rwa [Nat.mod_eq_of_lt h1] at h3
theorem ring_add (A B C M : Nat) : ((A + B) % M + C) % M = (A + (B + C) % M) % M := by
  rw [Nat.mod_add_mod, Nat.add_mod_mod, Nat.add_assoc]
theorem ring_mul (A B C M : Nat) : (A * B % M) * C % M = A * (B * C % M) % M := by
  rw [Nat.mod_mul_mod, Nat.mul_mod_mod, Nat.mul_assoc]
theorem ring_dist (A B C M : Nat) : (A * B % M + A * C % M) % M = A * ((B + C) % M) % M := by
  rw [Nat.mul_mod_mod, Nat.mul_add, Nat.add_mod (A * B)]
theorem ring_more (A B M : Nat) : (A % M + M) * B % M = A * B % M := by
  rw [Nat.mul_mod, Nat.add_mod_right, Nat.mod_mod, ← Nat.mul_mod]

theorem Inz.back {A M Y : Nat} (hM : 2 ≤ M) (h : Inz A M Y) : Inz Y M (A % M) := ⟨Nat.mod_lt _ (by omega), by rw [Nat.mul_mod_mod, Nat.mul_comm]; exact h.2⟩
theorem Inz.prod {A B M Y Z : Nat} (h : Inz A M Y) (h2 : Inz B M Z) : Inz (A * B % M) M (Y * Z % M) := by
  have hM : 0 < M := by have := h.1; omega
  have hM1 : M ≠ 1 := fun e => by have := h.2; rw [e, Nat.mod_one] at this; cases this
  refine ⟨Nat.mod_lt _ hM, ?_⟩
  rw [← Nat.mul_mod, show A * B * (Y * Z) = A * Y * (B * Z) by rw [Nat.mul_assoc, Nat.mul_left_comm B, ← Nat.mul_assoc], Nat.mul_mod, h.2, h2.2, Nat.mod_eq_of_lt (by omega)]
/-- What Inv answers where there is an inverse. -/
theorem AnsI.ok {w w' : World} {e : Ending} {A M Y : Nat} (h : AnsI w w' e A M) (hc : rcode M (Lg A) = 0) (hy : Inz A M Y) : ∃ r, e = .returned (.tuple #[r, .int .i64 0]) ∧ Re w w' r Y := by
  rcases h with ⟨h, _⟩ | ⟨_, h, _⟩ | ⟨_, Z, r, h1, h2, h3⟩
  · exact absurd hc h
  · exact absurd hy.gcd h
  · rw [hy.one h1]; exact ⟨r, h2, h3⟩
theorem AnsI.nope {w w' : World} {e : Ending} {A M : Nat} (h : AnsI w w' e A M) (hc : rcode M (Lg A) = 0) (hy : Nat.gcd A M ≠ 1) : e = .returned (.tuple #[.slice none 0 0, .int .i64 61]) ∧ Below w.heap.size w w' := by
  rcases h with ⟨h, _⟩ | ⟨_, _, h⟩ | ⟨_, Z, r, h1, _⟩
  · exact absurd hc h
  · exact h
  · exact absurd h1.gcd hy
theorem AnsI.bad {w w' : World} {e : Ending} {A M : Nat} (h : AnsI w w' e A M) (hc : rcode M (Lg A) ≠ 0) : e = .returned (.tuple #[.slice none 0 0, .int .i64 ((rcode M (Lg A) : Nat) : Int)]) ∧ Below w.heap.size w w' := by
  rcases h with ⟨_, h⟩ | ⟨h, _⟩ | ⟨h, _⟩
  · exact h
  · exact absurd h hc
  · exact absurd h hc
/-- There is one, if nothing above 1 divides both. -/
theorem inz_exists (A M : Nat) (hM : 2 ≤ M) (h : Nat.gcd A M = 1) : ∃ Y, Inz A M Y := by
  have key : ∀ (n : Nat) (L x D y : Nat), L ≤ n → Inq A M L x D y → ∃ Y, Inz A M Y := by
    intro n
    induction n with
    | zero =>
      intro L x D y hl hi
      obtain rfl : L = 0 := by omega
      have hd := hi.done
      rw [h] at hd
      subst hd
      exact ⟨y, hi.inz hM⟩
    | succ n ih =>
      intro L x D y hl hi
      by_cases h0 : L = 0
      · subst h0
        have hd := hi.done
        rw [h] at hd
        subst hd
        exact ⟨y, hi.inz hM⟩
      · exact ih _ _ _ _ (by have := Nat.mod_lt D (Nat.pos_of_ne_zero h0); omega) (hi.divide (Nat.pos_of_ne_zero h0))
  exact key _ _ _ _ _ (Nat.le_refl _) (Inq.start hM)
theorem vnil0 (w : World) : Nu w (.slice none 0 0) 0 := ⟨[], ⟨none, 0, rfl, Nat.le_refl _, .inl rfl, Sm.nil _⟩, rfl, Nat.zero_le _⟩
/-- A number's order to 1. -/
theorem cmp_lit (w : World) (v : Value) (V : Nat) (o : Int) (ho : cmp3 (V : Int) 1 = o) (hv : Nu w v V) :
    Calls Try.prog 22 #[v, .slice (some ⟨w.heap.size, 0, none⟩) 1 1] (w.alloc (.cells #[.int .u32 1] 29)) fun e w' => e = .returned (.int .i64 o) ∧ Below w.heap.size w w' := by
  have hb := alloc_below w (.cells #[.int .u32 1] 29)
  have C := vcmp v _ V 1 3000000 3000000 _ (hv.below hb (Nat.le_refl _)) (lit_nu w 1 (by decide)) (by decide) (by decide)
  rw [show ((1 : Nat) : Int) = 1 from rfl, ho] at C
  refine C.mono ?_
  rintro e w' ⟨rfl, q, rfl⟩
  exact ⟨rfl, below_drewN hb q⟩

end Go.Proofs.Ytecapoknnnoheaa
