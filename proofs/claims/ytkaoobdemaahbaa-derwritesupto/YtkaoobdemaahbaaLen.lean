import Derived.Test.YtkaoobdemaahbaaBase
namespace Go.Proofs.Ytkaoobdemaahbaa
open Go.RowKit

/-- How many binary digits a number has. -/
def bl (v : Nat) : Nat := if v = 0 then 0 else Nat.log2 v + 1

theorem bl_lt (v : Nat) : v < 2 ^ bl v := by
  unfold bl
  split
  · next h => subst h; decide
  · exact Nat.lt_log2_self
theorem bl_le (v : Nat) (h : v ≠ 0) : 2 ^ (bl v - 1) ≤ v := by
  unfold bl
  rw [if_neg h, Nat.add_sub_cancel]
  exact Nat.log2_self_le h
theorem bl_of (v n : Nat) (h1 : v < 2 ^ n) (h2 : n = 0 ∨ 2 ^ (n - 1) ≤ v) : bl v = n := by
  by_cases hv : v = 0
  · subst hv
    rcases h2 with h | h
    · subst h; rfl
    · have := Nat.pow_pos (n := n - 1) (show 0 < 2 by decide); omega
  · have a1 := bl_lt v
    have a2 := bl_le v hv
    have a3 : 0 < bl v := by unfold bl; rw [if_neg hv]; omega
    rcases Nat.lt_trichotomy (bl v) n with h | h | h
    · have h3 : 2 ^ (n - 1) ≤ v := by rcases h2 with h2 | h2 <;> omega
      have : 2 ^ bl v ≤ 2 ^ (n - 1) := Nat.pow_le_pow_right (by decide) (by omega)
      omega
    · exact h
    · have : 2 ^ n ≤ 2 ^ (bl v - 1) := Nat.pow_le_pow_right (by decide) (by omega)
      omega
theorem bl_pos (v : Nat) (h : v ≠ 0) : 0 < bl v := by unfold bl; rw [if_neg h]; omega
theorem bl_zero : bl 0 = 0 := rfl
theorem bl_shift (v k : Nat) (h : v / 2 ^ k ≠ 0) : bl v = bl (v / 2 ^ k) + k := by
  have hp : 0 < 2 ^ k := Nat.pow_pos (by decide)
  have a1 := bl_lt (v / 2 ^ k)
  have a2 := bl_le (v / 2 ^ k) h
  have a3 := bl_pos _ h
  refine bl_of _ _ ?_ (.inr ?_)
  · rw [Nat.pow_add]; exact (Nat.div_lt_iff_lt_mul hp).1 a1
  · rw [show bl (v / 2 ^ k) + k - 1 = (bl (v / 2 ^ k) - 1) + k by omega, Nat.pow_add]
    exact (Nat.le_div_iff_mul_le hp).1 a2
theorem bl_mono {a b : Nat} (h : a ≤ b) : bl a ≤ bl b := by
  by_cases ha : a = 0
  · subst ha; rw [bl_zero]; omega
  · have a1 := bl_le a ha
    have a2 := bl_lt b
    have a3 := bl_pos a ha
    rcases Nat.lt_or_ge (bl b) (bl a) with h3 | h3
    · have : 2 ^ bl b ≤ 2 ^ (bl a - 1) := Nat.pow_le_pow_right (by decide) (by omega)
      omega
    · exact h3

/-- The table of the library. -/
def lenTab : ByteArray := ⟨#[0, 1, 2, 2, 3, 3, 3, 3, 4, 4, 4, 4, 4, 4, 4, 4, 5, 5, 5, 5, 5, 5, 5, 5, 5, 5, 5, 5, 5, 5, 5, 5, 6, 6, 6, 6, 6, 6, 6, 6, 6, 6, 6, 6, 6, 6, 6, 6, 6, 6, 6, 6, 6, 6, 6, 6, 6, 6, 6, 6, 6, 6, 6, 6, 7, 7, 7, 7, 7, 7, 7, 7, 7, 7, 7, 7, 7, 7, 7, 7, 7, 7, 7, 7, 7, 7, 7, 7, 7, 7, 7, 7, 7, 7, 7, 7, 7, 7, 7, 7, 7, 7, 7, 7, 7, 7, 7, 7, 7, 7, 7, 7, 7, 7, 7, 7, 7, 7, 7, 7, 7, 7, 7, 7, 7, 7, 7, 7, 8, 8, 8, 8, 8, 8, 8, 8, 8, 8, 8, 8, 8, 8, 8, 8, 8, 8, 8, 8, 8, 8, 8, 8, 8, 8, 8, 8, 8, 8, 8, 8, 8, 8, 8, 8, 8, 8, 8, 8, 8, 8, 8, 8, 8, 8, 8, 8, 8, 8, 8, 8, 8, 8, 8, 8, 8, 8, 8, 8, 8, 8, 8, 8, 8, 8, 8, 8, 8, 8, 8, 8, 8, 8, 8, 8, 8, 8, 8, 8, 8, 8, 8, 8, 8, 8, 8, 8, 8, 8, 8, 8, 8, 8, 8, 8, 8, 8, 8, 8, 8, 8, 8, 8, 8, 8, 8, 8, 8, 8, 8, 8, 8, 8, 8, 8, 8, 8, 8, 8, 8, 8, 8, 8, 8, 8, 8, 8]⟩
theorem lenTab_all : ∀ n : Fin 256, lenTab.data[n.val]! = UInt8.ofNat (bl n.val) := by decide +kernel
theorem lenTab_at (n : Nat) (h : n < 256) (h' : n < lenTab.size) : (lenTab[n]'h').toNat = bl n := by
  have h1 := lenTab_all ⟨n, h⟩
  have h2 : bl n ≤ 8 := by
    have := bl_mono (show n ≤ 255 by omega)
    exact Nat.le_trans this (by decide)
  have h3 : lenTab.data[n]! = lenTab[n]'h' := by
    rw [getElem!_pos lenTab.data n h']; rfl
  rw [← h3]
  rw [show lenTab.data[n]! = UInt8.ofNat (bl n) from h1, UInt8.toNat_ofNat']
  omega

theorem len_val (n b : Nat) (s : Int) (hs : 0 ≤ s) (hs2 : s ≤ 24) (h : n < 256) (h' : n < lenTab.size) (hb : (b : Int) = bl n + s) : wrap64 (s + wrap64 (((lenTab[n]'h').toNat : Nat) : Int)) = (b : Int) := by
  rw [lenTab_at n h h', hb]
  have h2 : bl n ≤ 8 := by
    have := bl_mono (show n ≤ 255 by omega)
    exact Nat.le_trans this (by decide)
  unfold wrap64
  omega

set_option maxRecDepth 100000 in
set_option maxHeartbeats 400000 in
theorem len_a (x : Int) (n b : Nat) (w : World) (hn : x.toNat = n) (h0 : 0 ≤ x) (h : x < 256) (hb : (b : Int) = bl n + 0) : Calls Try.prog 38 #[.int .u64 x] w fun e w' => e = .returned (.int .i64 (b : Int)) ∧ w' = w := by
  have h32 : decide (x ≥ 4294967296) = false := by simp; omega
  have h1 : decide (x ≥ 65536) = false := by simp; omega
  have h2 : decide (x ≥ 256) = false := by simp; omega
  have Hb : Hid ((b : Int) = bl n + 0) := hb
  have Hn : Hid (x.toNat = n) := hn
  clear hb hn
  go_enter Try.func38, Try.ntmps38
  go_wp2
  go_ret
  refine ⟨?_, rfl⟩
  have hn := Hn.out
  subst hn
  have := len_val x.toNat b 0 (by omega) (by omega) (by omega) (by show _ < 256; omega) Hb.out
  rw [Int.zero_add] at this
  exact congrArg (fun z => Ending.returned (Value.int .i64 z)) this

set_option maxRecDepth 100000 in
set_option maxHeartbeats 400000 in
theorem len_b (x : Int) (n b : Nat) (w : World) (hn : (x / 256).toNat = n) (h0 : 256 ≤ x) (h : x < 65536) (hb : (b : Int) = bl n + 8) : Calls Try.prog 38 #[.int .u64 x] w fun e w' => e = .returned (.int .i64 (b : Int)) ∧ w' = w := by
  have h32 : decide (x ≥ 4294967296) = false := by simp; omega
  have h1 : decide (x ≥ 65536) = false := by simp; omega
  have h2 : decide (x ≥ 256) = true := by simp; omega
  have Hb : Hid ((b : Int) = bl n + 8) := hb
  have Hn : Hid ((x / 256).toNat = n) := hn
  have h3 : 0 ≤ x / 256 := by omega
  have h4 : x / 256 < 256 := by omega
  clear hb hn
  go_enter Try.func38, Try.ntmps38
  go_wp2
  go_ret
  refine ⟨?_, rfl⟩
  have hn := Hn.out
  subst hn
  have := len_val (x / 256).toNat b 8 (by omega) (by omega) (by omega) (by show _ < 256; omega) Hb.out
  exact congrArg (fun z => Ending.returned (Value.int .i64 z)) this

set_option maxRecDepth 100000 in
set_option maxHeartbeats 400000 in
theorem len_c (x : Int) (n b : Nat) (w : World) (hn : (x / 65536).toNat = n) (h0 : 65536 ≤ x) (h : x < 16777216) (hb : (b : Int) = bl n + 16) : Calls Try.prog 38 #[.int .u64 x] w fun e w' => e = .returned (.int .i64 (b : Int)) ∧ w' = w := by
  have h32 : decide (x ≥ 4294967296) = false := by simp; omega
  have h1 : decide (x ≥ 65536) = true := by simp; omega
  have h2 : decide (x / 65536 ≥ 256) = false := by simp; omega
  have Hb : Hid ((b : Int) = bl n + 16) := hb
  have Hn : Hid ((x / 65536).toNat = n) := hn
  have h3 : 0 ≤ x / 65536 := by omega
  have h4 : x / 65536 < 256 := by omega
  clear hb hn
  go_enter Try.func38, Try.ntmps38
  go_wp2
  go_ret
  refine ⟨?_, rfl⟩
  have hn := Hn.out
  subst hn
  have := len_val (x / 65536).toNat b 16 (by omega) (by omega) (by omega) (by show _ < 256; omega) Hb.out
  exact congrArg (fun z => Ending.returned (Value.int .i64 z)) this

set_option maxRecDepth 100000 in
set_option maxHeartbeats 400000 in
theorem len_d (x : Int) (n b : Nat) (w : World) (hn : (x / 65536 / 256).toNat = n) (h0 : 16777216 ≤ x) (h : x < 4294967296) (hb : (b : Int) = bl n + 24) : Calls Try.prog 38 #[.int .u64 x] w fun e w' => e = .returned (.int .i64 (b : Int)) ∧ w' = w := by
  have h32 : decide (x ≥ 4294967296) = false := by simp; omega
  have h1 : decide (x ≥ 65536) = true := by simp; omega
  have h2 : decide (x / 65536 ≥ 256) = true := by simp; omega
  have Hb : Hid ((b : Int) = bl n + 24) := hb
  have Hn : Hid ((x / 65536 / 256).toNat = n) := hn
  have h3 : 0 ≤ x / 65536 / 256 := by omega
  have h4 : x / 65536 / 256 < 256 := by omega
  clear hb hn
  go_enter Try.func38, Try.ntmps38
  go_wp2
  go_ret
  refine ⟨?_, rfl⟩
  have hn := Hn.out
  subst hn
  have := len_val (x / 65536 / 256).toNat b 24 (by omega) (by omega) (by omega) (by show _ < 256; omega) Hb.out
  exact congrArg (fun z => Ending.returned (Value.int .i64 z)) this

theorem len_any (x : Nat) (w : World) (h : x < 4294967296) : Calls Try.prog 38 #[.int .u64 (x : Int)] w fun e w' => e = .returned (.int .i64 ((bl x : Nat) : Int)) ∧ w' = w := by
  rcases Nat.lt_or_ge x 256 with h1 | h1
  · exact len_a x x (bl x) w (by omega) (by omega) (by omega) (by omega)
  rcases Nat.lt_or_ge x 65536 with h2 | h2
  · have h9 : bl x = bl (x / 256) + 8 := bl_shift x 8 (by omega)
    exact len_b x (x / 256) (bl x) w (by omega) (by omega) (by omega) (by omega)
  rcases Nat.lt_or_ge x 16777216 with h3 | h3
  · have h9 : bl x = bl (x / 65536) + 16 := bl_shift x 16 (by omega)
    exact len_c x (x / 65536) (bl x) w (by omega) (by omega) (by omega) (by omega)
  · have h9 : bl x = bl (x / 16777216) + 24 := bl_shift x 24 (by omega)
    have h8 : x / 65536 / 256 = x / 16777216 := by omega
    exact len_d x (x / 65536 / 256) (bl x) w (by omega) (by omega) (by omega) (by rw [h8]; omega)


theorem dgs_bl (n : Nat) (h1 : 128 ≤ n) (h2 : n < 16777216) : (bl n + 7) / 8 = dgs n := by
  have lo : ∀ k, 2 ^ k ≤ n → k + 1 ≤ bl n := fun k hk => by
    have a := bl_lt n
    rcases Nat.lt_or_ge k (bl n) with h | h
    · omega
    · have : 2 ^ bl n ≤ 2 ^ k := Nat.pow_le_pow_right (by decide) h
      omega
  have hi : ∀ k, n < 2 ^ k → bl n ≤ k := fun k hk => by
    have a := bl_le n (by omega)
    rcases Nat.lt_or_ge k (bl n) with h | h
    · have : 2 ^ k ≤ 2 ^ (bl n - 1) := Nat.pow_le_pow_right (by decide) (by omega)
      omega
    · exact h
  unfold dgs
  rw [if_neg (by omega)]
  rcases Nat.lt_or_ge n 256 with h3 | h3
  · rw [if_pos h3]
    have := lo 7 (by omega)
    have := hi 8 (by omega)
    omega
  · rw [if_neg (by omega)]
    rcases Nat.lt_or_ge n 65536 with h4 | h4
    · rw [if_pos h4]
      have := lo 8 (by omega)
      have := hi 16 (by omega)
      omega
    · rw [if_neg (by omega), if_pos h2]
      have := lo 16 (by omega)
      have := hi 24 (by omega)
      omega

set_option maxRecDepth 100000 in
set_option maxHeartbeats 400000 in
theorem blen_any (x : Nat) (w : World) (h : x < 4294967296) : Calls Try.prog 33 #[.int .u64 (x : Int)] w fun e w' => e = .returned (.int .i64 ((bl x : Nat) : Int)) ∧ w' = w := by
  have C := len_any x w h
  go_enter Try.func33, Try.ntmps33
  go_wp2_with fail
  refine C.mono ?_
  rintro e w1 ⟨rfl, rfl⟩
  go_wp2
  go_ret
  exact ⟨rfl, rfl⟩

set_option maxRecDepth 100000 in
set_option maxHeartbeats 400000 in
theorem digits_any (n : Nat) (w : World) (h : n < 16777216) : Calls Try.prog 25 #[.int .i64 (n : Int)] w fun e w' => e = .returned (.int .i64 ((dgs n : Nat) : Int)) ∧ w' = w := by
  by_cases h1 : n < 128
  · have HD : Hid (dgs n = 0) := if_pos h1
    go_enter Try.func25, Try.ntmps25
    go_wp2
    go_ret
    exact ⟨by rw [HD.out]; rfl, rfl⟩
  · have HD : Hid ((bl n + 7) / 8 = dgs n) := dgs_bl n (by omega) h
    have C := blen_any n w (by omega)
    have hb : bl n ≤ 24 := by
      have h1 : bl n ≤ bl 16777215 := bl_mono (by omega)
      exact Nat.le_trans h1 (by decide)
    generalize bl n = b at *
    have HC : Hid (Calls Try.prog 33 #[.int .u64 (n : Int)] w fun e w' => e = .returned (.int .i64 (b : Int)) ∧ w' = w) := C
    clear C
    go_enter Try.func25, Try.ntmps25
    go_wp2_with fail
    refine HC.out.mono ?_
    rintro e w1 ⟨rfl, rfl⟩
    go_wp2
    go_ret
    refine ⟨?_, rfl⟩
    rw [← HD.out]
    rw [show (((b + 7) / 8 : Nat) : Int) = ((b : Int) + 7) / 8 from by omega]
    rfl

end Go.Proofs.Ytkaoobdemaahbaa
