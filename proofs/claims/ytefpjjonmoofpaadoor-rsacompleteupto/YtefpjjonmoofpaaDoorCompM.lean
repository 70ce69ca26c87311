import Derived.Test.YtefpjjonmoofpaaDoorEqLaw
namespace Go.Proofs.YtefpjjonmoofpaaDoor
open Go.RowKit

theorem cmp3_le (a b : Nat) : decide (cmp3 ((a : Nat) : Int) ((b : Nat) : Int) ≤ 0) = decide (a ≤ b) := by
  unfold cmp3
  apply decide_eq_decide.2
  split
  · constructor <;> intro <;> omega
  · split <;> constructor <;> intro <;> omega
theorem bv_one (c : UInt8) : bv [c] = c.toNat := by simp [bv]
theorem pow_lt256 (S k : Nat) (hk : 256 ≤ k) (h : bl S ≤ 1400) : S < 256 ^ k := by
  have h1 := bl_lt S
  have h2 : 2 ^ bl S ≤ 2 ^ (8 * k) := Nat.pow_le_pow_right (by decide) (by omega)
  rw [Nat.pow_mul, show (2 : Nat) ^ 8 = 256 by rfl] at h2
  omega
theorem cube_mod (S M N : Nat) (h : N = S * S * S - M) (h1 : M ≤ S * S * S) (h2 : M < N) : S ^ 3 % N = M := by
  have e : S ^ 3 = M + N := by rw [Nat.pow_succ, Nat.pow_succ, Nat.pow_one]; omega
  rw [e, Nat.add_mod_right, Nat.mod_eq_of_lt h2]
theorem dg_bl (V k : Nat) (h : bl V ≤ 32 * k) : (dg Bs V).length ≤ k := by
  refine dg_len Bs_two _ _ ?_
  have h1 := bl_lt V
  have h2 : 2 ^ bl V ≤ 2 ^ (32 * k) := Nat.pow_le_pow_right (by decide) h
  rw [Nat.pow_mul, show (2 : Nat) ^ 32 = Bs by rfl] at h2
  omega
/-- Verify's answer where the key is right and the lengths fit. -/
theorem verV_key {h : Int} {n e m s : List UInt8} (hh : isHB h = true) (hk : keyC n e = 0) (hs : s.length = n.length) : (verV h n e m s == 0) = (decide (bv s < bv n) && decide (bv s ^ bv e % bv n = bv (emV h m n.length))) := by
  unfold verV
  rw [if_neg (by rw [hh]; simp), if_neg (by rw [hk]; simp), if_neg (by rw [hs]; simp)]
  by_cases h1 : bv n ≤ bv s
  · rw [if_pos h1, decide_eq_false (by omega)]; rfl
  · rw [if_neg h1, decide_eq_true (by omega)]
    by_cases h2 : bv s ^ bv e % bv n = bv (emV h m n.length)
    · rw [if_pos h2, decide_eq_true h2]; rfl
    · rw [if_neg h2, decide_eq_false h2]; rfl
theorem xor_any (x : UInt8) (k : Nat) (hk : k < 8) : ∃ y : UInt8, bits .xor .u8 (x.toNat : Int) ((2 : Int) ^ k % 256) = (y.toNat : Int) := by
  rcases (show k = 0 ∨ k = 1 ∨ k = 2 ∨ k = 3 ∨ k = 4 ∨ k = 5 ∨ k = 6 ∨ k = 7 by omega) with rfl | rfl | rfl | rfl | rfl | rfl | rfl | rfl
  · exact ⟨_, xor_b x 1⟩
  · exact ⟨_, xor_b x 2⟩
  · exact ⟨_, xor_b x 4⟩
  · exact ⟨_, xor_b x 8⟩
  · exact ⟨_, xor_b x 16⟩
  · exact ⟨_, xor_b x 32⟩
  · exact ⟨_, xor_b x 64⟩
  · exact ⟨_, xor_b x 128⟩
/-- A byte of a row written over. -/
theorem row_set {w : World} {g q : Nat} {l : List UInt8} {r : List Value} (h : Bl 5 w g (l.map B ++ r)) (hq : q < l.length) (y : UInt8) : Bl 5 (w.setCell ⟨g, q, none⟩ (.int .u8 (y.toNat : Int))) g ((l.set q y).map B ++ r) := by
  have h1 := h.set q (B y)
  rw [List.set_append_left _ _ (by simpa using hq), ← List.map_set] at h1
  exact h1
theorem row_rd {w : World} {g : Nat} {l : List UInt8} {r : List Value} (h : Bl 5 w g (l.map B ++ r)) : Rd w (some ⟨g, 0, none⟩) l := by
  refine .inr ⟨g, 0, rfl, h.lt, fun j hj => ?_⟩
  rw [Nat.zero_add, h.cell j (by simp; omega), List.getElem_append_left (by simpa using hj), List.getElem_map, List.getD_eq_getElem?_getD, List.getElem?_eq_getElem hj]
  rfl
theorem mul_v (v u : Value) (U V : Nat) (w : World) (hv : Nu w v U) (hu : Nu w u V) (hl : (dg Bs (U * V)).length ≤ 3000000) :
    Calls Tryd.prog 24 #[v, u] w fun e w' => ∃ r, e = .returned r ∧ Re w w' r (U * V) := by
  refine (vmul v u U V _ _ w hv hu (by omega) (by omega)).mono ?_
  rintro e w' ⟨r, rfl, h1, _, h3⟩
  exact ⟨r, rfl, h1, hl, h3⟩
theorem sub_v (v u : Value) (U V : Nat) (w : World) (hv : Nu w v U) (hu : Nu w u V) :
    Calls Tryd.prog 25 #[v, u] w fun e w' => ∃ r, e = .returned (.tuple #[r, .bool (decide (V ≤ U))]) ∧ Re w w' r (U - V) := vsub v u U V _ _ w hv hu (by omega) (by omega)
theorem bytes_v (v : Value) (V : Nat) (w : World) (hv : Nu w v V) : Calls Tryd.prog 26 #[v] w fun e w' => ∃ r, e = .returned r ∧ OBb w.heap.size w w' r (tobe (lst V) V) := by
  obtain ⟨xs, n1, rfl, k1⟩ := hv
  refine (bytes_nm v xs w n1 (by omega)).mono ?_
  rintro e w' ⟨r, rfl, h1, h2⟩
  exact ⟨r, rfl, h1, h2⟩
theorem bl_pow (V k : Nat) (hV : V < 2 ^ k) : bl V ≤ k := by
  rcases Nat.lt_or_ge k (bl V) with h2 | h2
  · exfalso
    have h0 : V ≠ 0 := fun e => by rw [e, bl_zero] at h2; omega
    have h3 := bl_le V h0
    have h4 : 2 ^ k ≤ 2 ^ (bl V - 1) := Nat.pow_le_pow_right (by decide) (by omega)
    omega
  · exact h2
theorem bl_mulb (S V a b : Nat) (h1 : bl S ≤ a) (h2 : bl V ≤ b) : bl (S * V) ≤ a + b := by
  refine bl_pow _ _ ?_
  rw [Nat.pow_add]
  exact Nat.mul_lt_mul'' (Nat.lt_of_lt_of_le (bl_lt S) (Nat.pow_le_pow_right (by decide) h1)) (Nat.lt_of_lt_of_le (bl_lt V) (Nat.pow_le_pow_right (by decide) h2))
theorem bl_mul3 (S : Nat) (h : bl S ≤ 1400) : bl (S * S) ≤ 2800 ∧ bl (S * S * S) ≤ 4200 := ⟨bl_mulb S S 1400 1400 h h, bl_mulb (S * S) S 2800 1400 (bl_mulb S S 1400 1400 h h) h⟩
theorem nm3 (w : World) : Nu (w.alloc (.cells #[.int .u32 3] 51)) (.slice (some ⟨w.heap.size, 0, none⟩) 1 1) 3 := by
  refine ⟨[3], ⟨_, 1, rfl, Nat.le_refl _, (alloc_bl w (([3] : List Nat).map U) 51).rn, ?_⟩, by decide, by simp⟩
  intro x hx
  simp at hx
  subst hx
  decide

end Go.Proofs.YtefpjjonmoofpaaDoor
