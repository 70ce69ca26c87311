import Derived.Test.YtecapoknnnoheaaBase
namespace Go.Proofs.Ytecapoknnnoheaa
open Go.RowKit

set_option maxHeartbeats 400000 in
theorem proper_any (ao : Option Addr) (n c : Nat) (xs : List Nat) (w : World) (hx : Rn w ao xs) (hn : n = xs.length) (hc : n ≤ c) (hl : n ≤ 1000000000) :
    Calls Try.prog 49 #[.slice ao n c] w fun e w' => e = .returned (.slice ao (tl xs) c) ∧ w' = w := by
  have Hx : Hid (Rn w ao xs) := hx
  have Hn : Hid (n = xs.length) := hn
  clear hx hn
  go_enter Try.func49, Try.ntmps49
  go_wp2
  go_loop [0] (fun s => ∃ k : Nat, s = .slice ao k c ∧ k ≤ n ∧ Hid (∀ j, k ≤ j → xs.getD j 0 = 0)) (fun s => match s with | .slice _ k _ => k | _ => 0)
  case atStart => exact ⟨n, rfl, Nat.le_refl _, fun j hj => getD_none _ _ (by have := Hn.out; omega)⟩
  case round =>
    obtain ⟨k, rfl, hk, Hz⟩ := hrel
    rcases k with _ | k
    · have Ht : Hid (tl xs = 0) := tl_of xs 0 (Nat.zero_le _) Hz.out (.inl rfl)
      go_wp2
      go_ret
      rw [Ht.out]
      exact ⟨rfl, rfl⟩
    · obtain ⟨g, off, rfl, _, hcell⟩ := Hx.out.cell (by have := Hn.out; omega)
      have gc := hcell k (by have := Hn.out; omega)
      obtain ⟨x, Hxk⟩ : ∃ x, Hid (xs.getD k 0 = x) := ⟨_, rfl⟩
      rw [Hxk.out] at gc
      clear hcell
      have e1 : ((k + 1 : Nat) : Int) - 1 = (k : Int) := by omega
      by_cases h0 : x = 0
      · subst h0
        have Hz1 : Hid (∀ j, k ≤ j → xs.getD j 0 = 0) := fun j hj => by
          rcases Nat.lt_or_ge k j with h | h
          · exact Hz.out j h
          · obtain rfl : j = k := by omega
            exact Hxk.out
        go_wp2
        go_round
        case rel => exact ⟨k, rfl, by omega, Hz1⟩
        case measure => simp
      · have hb : ((x : Int) == 0) = false := by simp; omega
        have Ht : Hid (tl xs = k + 1) := tl_of xs (k + 1) (by have := Hn.out; omega) Hz.out (.inr (by rw [Nat.add_sub_cancel, Hxk.out]; exact h0))
        clear h0
        go_wp2
        go_ret
        rw [Ht.out]
        exact ⟨rfl, rfl⟩

set_option maxHeartbeats 400000 in
theorem at_any (ao : Option Addr) (n c : Nat) (i : Int) (xs : List Nat) (w : World) (hx : Rn w ao xs) (hn : n = xs.length) :
    Calls Try.prog 63 #[.slice ao n c, .int .i64 i] w fun e w' => e = .returned (.int .u32 ((if i < 0 then 0 else xs.getD i.toNat 0 : Nat) : Int)) ∧ w' = w := by
  have Hn : Hid (n = xs.length) := hn
  clear hn
  by_cases h1 : i < 0
  · rw [if_pos h1]
    go_enter Try.func63, Try.ntmps63
    go_wp2
    go_ret
    exact ⟨rfl, rfl⟩
  · rw [if_neg h1]
    obtain ⟨k, rfl⟩ : ∃ k : Nat, i = (k : Int) := ⟨i.toNat, by omega⟩
    rw [Int.toNat_natCast]
    by_cases h2 : k < n
    · obtain ⟨g, off, rfl, _, hcell⟩ := hx.cell (by have := Hn.out; omega)
      have gc := hcell k (by have := Hn.out; omega)
      generalize xs.getD k 0 = x at gc ⊢
      clear hcell
      go_enter Try.func63, Try.ntmps63
      go_wp2
      go_ret
      exact ⟨rfl, rfl⟩
    · rw [getD_none _ _ (by have := Hn.out; omega)]
      go_enter Try.func63, Try.ntmps63
      go_wp2
      go_ret
      exact ⟨rfl, rfl⟩

theorem at_nat (ao : Option Addr) (n c k : Nat) (xs : List Nat) (w : World) (hx : Rn w ao xs) (hn : n = xs.length) :
    Calls Try.prog 63 #[.slice ao n c, .int .i64 (k : Int)] w fun e w' => e = .returned (.int .u32 ((xs.getD k 0 : Nat) : Int)) ∧ w' = w := by
  have := at_any ao n c (k : Int) xs w hx hn
  rwa [if_neg (by omega), Int.toNat_natCast] at this

end Go.Proofs.Ytecapoknnnoheaa
