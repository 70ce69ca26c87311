import Derived.Test.YtibgpcheembdkaaDoorHm2
namespace Go.Proofs.YtibgpcheembdkaaDoor
open Go.RowKit

theorem max_cast (a b : Nat) : (max (a : Int) (b : Int)) = ((max a b : Nat) : Int) := by omega

set_option maxHeartbeats 2000000 in
theorem equal_any (a1 a2 : Option Addr) (c1 c2 : Nat) (l1 l2 : List UInt8) (w : World) (h1 : Rd w a1 l1) (h2 : Rd w a2 l2) (hl1 : l1.length ≤ 1152921504606846976) (hl2 : l2.length ≤ 1152921504606846976) :
    Calls Tryd.prog 35 #[.slice a1 l1.length c1, .slice a2 l2.length c2] w fun e w' => e = .returned (.bool (decide (l1 = l2))) ∧ w' = w := by
  have hx0 := i64_xor_nat l1.length l2.length (by omega) (by omega)
  have hb0 : l1.length ^^^ l2.length < 2 ^ 62 := Nat.xor_lt_two_pow (by omega) (by omega)
  have HI0 : Hid (l1.length ^^^ l2.length = 0 ↔ (l1.length = l2.length ∧ ∀ j, j < 0 → l1.getD j 0 = l2.getD j 0)) := by
    rw [xor_zero_iff]
    exact ⟨fun h => ⟨h, fun j hj => absurd hj (Nat.not_lt_zero j)⟩, fun h => h.1⟩
  have HR1 : Hid (Rd w a1 l1) := h1
  have HR2 : Hid (Rd w a2 l2) := h2
  clear h1 h2
  rcases Nat.lt_or_ge l1.length l2.length with hcmp | hcmp
  · have HE : Hid (True → ((l1.length = l2.length ∧ ∀ j, j < l2.length → l1.getD j 0 = l2.getD j 0) ↔ l1 = l2)) := fun _ => list_eq_iff l1 l2 l2.length (by omega)
    generalize l1.length ^^^ l2.length = u0 at *
    go_enter Tryd.func35, Tryd.ntmps35
    go_wp2
    clear hx0
    go_loopw [5, 17] (fun s5 s ws => ∃ k u : Nat, s = .int .i64 (k : Int) ∧ k ≤ l2.length ∧ s5 = .int .i64 (u : Int) ∧ u < 2 ^ 62 ∧ Hid (u = 0 ↔ (l1.length = l2.length ∧ ∀ j, j < k → l1.getD j 0 = l2.getD j 0)) ∧ ws = w) (fun _ s _ => l2.length - (intOf s).toNat)
    case atStart => exact ⟨0, u0, rfl, by omega, rfl, hb0, HI0, rfl⟩
    case round =>
      clear HI0
      obtain ⟨k, u, rfl, hk, rfl, hu, hiff, rfl⟩ := hrel
      by_cases hlt : k < l2.length
      · have C1 := at_any a1 c1 l1 k wr HR1.out (by omega) (by omega)
        have C2 := at_any a2 c2 l2 k wr HR2.out (by omega) (by omega)
        have hz := xorB (l1.getD k 0) (l2.getD k 0)
        have Hz : Hid (l1.getD k 0 ^^^ l2.getD k 0 = 0 ↔ l1.getD k 0 = l2.getD k 0) := xor_zero_byte _ _
        obtain ⟨z, hzz⟩ : ∃ z, l1.getD k 0 ^^^ l2.getD k 0 = z := ⟨_, rfl⟩
        rw [hzz] at hz Hz
        have hzl := z.toNat_lt
        have ho := i64_or_nat u z.toNat (by omega) (by omega)
        have hb2 : u ||| z.toNat < 2 ^ 62 := Nat.or_lt_two_pow hu (by omega)
        have HI2 : Hid (u ||| z.toNat = 0 ↔ (l1.length = l2.length ∧ ∀ j, j < k + 1 → l1.getD j 0 = l2.getD j 0)) := by
          rw [or_zero_iff, hiff.out]
          constructor
          · rintro ⟨⟨h1, h2⟩, h3⟩
            refine ⟨h1, fun j hj => ?_⟩
            rcases Nat.lt_or_ge j k with h4 | h4
            · exact h2 j h4
            · obtain rfl : j = k := by omega
              exact Hz.out.1 (by have : z = UInt8.ofNat z.toNat := by simp
                                 rw [this, h3]; rfl)
          · rintro ⟨h1, h2⟩
            refine ⟨⟨h1, fun j hj => h2 j (by omega)⟩, ?_⟩
            rw [Hz.out.2 (h2 k (by omega))]
            rfl
        have hwz : wrap64 (z.toNat : Int) = (z.toNat : Int) := by unfold wrap64; omega
        clear hzz Hz hiff
        unfold B at C1 C2
        generalize l1.getD k 0 = x at C1 hz
        generalize l2.getD k 0 = y at C2 hz
        go_wp2_with fail
        refine C1.mono ?_
        rintro e w9 ⟨rfl, hw9⟩
        subst w9
        clear C1
        go_wp2_with fail
        refine C2.mono ?_
        rintro e w9 ⟨rfl, hw9⟩
        subst w9
        clear C2
        go_wp2
        exact ⟨⟨k + 1, u ||| z.toNat, by go_num, by omega, rfl, hb2, HI2, trivial⟩, by simp [intOf]; omega⟩
      · obtain rfl : k = l2.length := by omega
        have Hd : Hid (decide (l1 = l2) = decide (u = 0)) := by
          show _ = _
          rw [decide_eq_decide, hiff.out]
          exact (HE.out trivial).symm
        have hu0 : ((u : Int) == 0) = decide (u = 0) := by
          by_cases h : u = 0
          · subst h; rfl
          · simp [h]
        go_wp2
        go_ret
        rw [Hd.out]
        exact ⟨rfl, rfl⟩

  · have HE : Hid (True → ((l1.length = l2.length ∧ ∀ j, j < l1.length → l1.getD j 0 = l2.getD j 0) ↔ l1 = l2)) := fun _ => list_eq_iff l1 l2 l1.length (by omega)
    generalize l1.length ^^^ l2.length = u0 at *
    go_enter Tryd.func35, Tryd.ntmps35
    go_wp2
    clear hx0
    go_loopw [5, 17] (fun s5 s ws => ∃ k u : Nat, s = .int .i64 (k : Int) ∧ k ≤ l1.length ∧ s5 = .int .i64 (u : Int) ∧ u < 2 ^ 62 ∧ Hid (u = 0 ↔ (l1.length = l2.length ∧ ∀ j, j < k → l1.getD j 0 = l2.getD j 0)) ∧ ws = w) (fun _ s _ => l1.length - (intOf s).toNat)
    case atStart => exact ⟨0, u0, rfl, by omega, rfl, hb0, HI0, rfl⟩
    case round =>
      clear HI0
      obtain ⟨k, u, rfl, hk, rfl, hu, hiff, rfl⟩ := hrel
      by_cases hlt : k < l1.length
      · have C1 := at_any a1 c1 l1 k wr HR1.out (by omega) (by omega)
        have C2 := at_any a2 c2 l2 k wr HR2.out (by omega) (by omega)
        have hz := xorB (l1.getD k 0) (l2.getD k 0)
        have Hz : Hid (l1.getD k 0 ^^^ l2.getD k 0 = 0 ↔ l1.getD k 0 = l2.getD k 0) := xor_zero_byte _ _
        obtain ⟨z, hzz⟩ : ∃ z, l1.getD k 0 ^^^ l2.getD k 0 = z := ⟨_, rfl⟩
        rw [hzz] at hz Hz
        have hzl := z.toNat_lt
        have ho := i64_or_nat u z.toNat (by omega) (by omega)
        have hb2 : u ||| z.toNat < 2 ^ 62 := Nat.or_lt_two_pow hu (by omega)
        have HI2 : Hid (u ||| z.toNat = 0 ↔ (l1.length = l2.length ∧ ∀ j, j < k + 1 → l1.getD j 0 = l2.getD j 0)) := by
          rw [or_zero_iff, hiff.out]
          constructor
          · rintro ⟨⟨h1, h2⟩, h3⟩
            refine ⟨h1, fun j hj => ?_⟩
            rcases Nat.lt_or_ge j k with h4 | h4
            · exact h2 j h4
            · obtain rfl : j = k := by omega
              exact Hz.out.1 (by have : z = UInt8.ofNat z.toNat := by simp
                                 rw [this, h3]; rfl)
          · rintro ⟨h1, h2⟩
            refine ⟨⟨h1, fun j hj => h2 j (by omega)⟩, ?_⟩
            rw [Hz.out.2 (h2 k (by omega))]
            rfl
        have hwz : wrap64 (z.toNat : Int) = (z.toNat : Int) := by unfold wrap64; omega
        clear hzz Hz hiff
        unfold B at C1 C2
        generalize l1.getD k 0 = x at C1 hz
        generalize l2.getD k 0 = y at C2 hz
        go_wp2_with fail
        refine C1.mono ?_
        rintro e w9 ⟨rfl, hw9⟩
        subst w9
        clear C1
        go_wp2_with fail
        refine C2.mono ?_
        rintro e w9 ⟨rfl, hw9⟩
        subst w9
        clear C2
        go_wp2
        exact ⟨⟨k + 1, u ||| z.toNat, by go_num, by omega, rfl, hb2, HI2, trivial⟩, by simp [intOf]; omega⟩
      · obtain rfl : k = l1.length := by omega
        have Hd : Hid (decide (l1 = l2) = decide (u = 0)) := by
          show _ = _
          rw [decide_eq_decide, hiff.out]
          exact (HE.out trivial).symm
        have hu0 : ((u : Int) == 0) = decide (u = 0) := by
          by_cases h : u = 0
          · subst h; rfl
          · simp [h]
        go_wp2
        go_ret
        rw [Hd.out]
        exact ⟨rfl, rfl⟩


end Go.Proofs.YtibgpcheembdkaaDoor
