import Derived.Test.YtgkbbcoagnilgaaSaysX
namespace Go.Proofs.Ytgkbbcoagnilgaa
open Go.RowKit

set_option maxHeartbeats 1000000 in
theorem rexact_inf (b : Nat) (w : World) (hE : bits .and .u32 ((b : Int) / 8388608) 255 = 255) (_hb : b < 4294967296) :
    Calls Try.prog 5 #[.int .u32 (b : Int)] w fun e w' => e = .returned (.string ⟨#[]⟩) ∧ Below w.heap.size w w' := by
  go_enter Try.func5, Try.ntmps5
  go_wp2
  go_ret
  exact ⟨rfl, Below.refl _ _⟩

theorem rexact_any (b : Nat) (w : World) (hb : b < 4294967296) :
    Calls Try.prog 5 #[.int .u32 (b : Int)] w fun e w' => e = .returned (.string ⟨(exactT b).toArray⟩) ∧ Below w.heap.size w w' := by
  obtain ⟨y, hy⟩ : ∃ y, y = b / 8388608 % 256 := ⟨_, rfl⟩
  have hE : bits .and .u32 ((b : Int) / 8388608) 255 = (y : Int) := by
    have e : (255 : Int) = ((255 : Nat) : Int) := rfl
    rw [show (b : Int) / 8388608 = ((b / 8388608 : Nat) : Int) by omega, e, u32_and_nat (b / 8388608) 255 (by omega) (by omega), show (255 : Nat) = 2 ^ 8 - 1 from rfl, Nat.and_two_pow_sub_one_eq_mod, hy]
  have hA : bits .and .u32 (b : Int) 2147483647 = ((b % 2147483648 : Nat) : Int) := by
    have e : (2147483647 : Int) = ((2147483647 : Nat) : Int) := rfl
    rw [e, u32_and_nat b 2147483647 (by omega) (by omega), show (2147483647 : Nat) = 2 ^ 31 - 1 from rfl, Nat.and_two_pow_sub_one_eq_mod]
  by_cases hs : b % 2147483648 < 2139095040
  · have hX : ((y : Int) == 255) = false := by simp; omega
    obtain ⟨g, f, e1, hF⟩ := exact_txt b hs
    have HP : ∀ w, Calls Try.prog 8 #[.int .u32 ((b % 2147483648 : Nat) : Int)] w fun e w' => e = .returned (.tuple #[.int .i64 (fM (b % 2147483648) : Int), .int .i64 ((fP (b % 2147483648) : Int) - 160)]) ∧ w' = w := fun w => parts_any _ w hs
    have HT : ∀ w, Calls Try.prog 9 #[.int .i64 (fM (b % 2147483648) : Int), .int .i64 ((fP (b % 2147483648) : Int) - 160)] w fun e w' => DocA (b % 2147483648) w e w' := fun w => doc_twice _ w hs
    rw [e1]
    by_cases hm : 2147483648 ≤ b
    · refine (rexact_minus b (b % 2147483648) y _ _ w hE hX (by omega) hA hb HP HT).mono ?_
      rintro e w' ⟨z, O, hz, rfl, hB⟩
      obtain ⟨h1, h2⟩ := hF.exU.one (doc_exU _ z O hz.dig hz.nil hz.fst hz.nt hz.val hz.v0)
      rw [h1, h2, decide_eq_true hm]
      exact ⟨rfl, hB⟩
    · refine (rexact_plus b (b % 2147483648) y _ _ w hE hX (by omega) hA hb HP HT).mono ?_
      rintro e w' ⟨z, O, hz, rfl, hB⟩
      obtain ⟨h1, h2⟩ := hF.exU.one (doc_exU _ z O hz.dig hz.nil hz.fst hz.nt hz.val hz.v0)
      rw [h1, h2, decide_eq_false hm]
      exact ⟨rfl, hB⟩
  · have h255 : (y : Int) = 255 := by omega
    rw [h255] at hE
    have e0 : exactT b = [] := by unfold exactT; rw [if_pos (by omega)]
    rw [e0]
    exact rexact_inf b w hE hb

set_option maxHeartbeats 1000000 in
theorem says_law (b : Nat) (w : World) (hb : b < 4294967296) :
    Calls Try.prog 3 #[.int .u32 (b : Int)] w fun e w' => e = .returned (.bool true) ∧ Below w.heap.size w w' := by
  have H1 : Hid (∀ w, Calls Try.prog 4 #[.int .u32 (b : Int)] w fun e w' => e = .returned (.string ⟨(exactT b).toArray⟩) ∧ Below w.heap.size w w') := fun w => exact_any b w hb
  have H2 : Hid (∀ w, Calls Try.prog 5 #[.int .u32 (b : Int)] w fun e w' => e = .returned (.string ⟨(exactT b).toArray⟩) ∧ Below w.heap.size w w') := fun w => rexact_any b w hb
  generalize exactT b = t at H1 H2
  go_enter Try.func3, Try.ntmps3
  go_wp2_with fail
  refine (H1.out _).mono ?_
  rintro e w2 ⟨rfl, hB2⟩
  go_wp2_with fail
  refine (H2.out _).mono ?_
  rintro e w3 ⟨rfl, hB3⟩
  have hL : Below w.heap.size w w3 := Below.trans hB2 (Below.mono hB3 hB2.size)
  clear hB2 hB3
  go_wp2
  go_ret
  exact ⟨rfl, hL⟩

end Go.Proofs.Ytgkbbcoagnilgaa
