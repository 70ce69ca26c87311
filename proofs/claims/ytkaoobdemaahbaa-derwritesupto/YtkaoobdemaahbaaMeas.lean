import Derived.Test.YtkaoobdemaahbaaLeaf
namespace Go.Proofs.Ytkaoobdemaahbaa
open Go.RowKit

/-- A length of many digits, or none. -/
def longL (l : List UInt8) (k : Nat) : Nat × Bool :=
  if k = 0 ∨ 4 < k ∨ l.length < k ∨ l.getD 0 0 = 0 then (0, false) else (be 0 (l.take k), decide (128 ≤ be 0 (l.take k)))

theorem be_snoc (l : List UInt8) (x : UInt8) : ∀ n, be n (l ++ [x]) = be n l * 256 + x.toNat := by
  induction l with
  | nil => intro n; rfl
  | cons y r ih => intro n; exact ih _

theorem be_lt (l : List UInt8) : be 0 l < 256 ^ l.length := by
  have h : ∀ (l : List UInt8) n, be n l < (n + 1) * 256 ^ l.length := by
    intro l
    induction l with
    | nil => intro n; simp [be]
    | cons y r ih =>
      intro n
      have h1 := ih (n * 256 + y.toNat)
      have h2 := u8_lt y
      simp only [be, List.length_cons, Nat.pow_succ]
      refine Nat.lt_of_lt_of_le h1 ?_
      rw [Nat.mul_comm (256 ^ r.length) 256, ← Nat.mul_assoc]
      exact Nat.mul_le_mul_right _ (by omega)
  have := h l 0
  simpa using this

theorem or_all (n x : Nat) (hx : x < 256) (hn : n < 16777216) : bits BinOp.or IntKind.u64 ((n : Int) * 256) (x : Int) = ((n * 256 + x : Nat) : Int) := by
  rw [show ((n : Int) * 256) = ((n * 256 : Nat) : Int) from by omega, u64_or_nat _ _ (by omega) (by omega), nat_join 8 _ _ (by omega) (by omega)]

theorem meas_short (l : List UInt8) (h : l.length < 2) : meas l = none := by
  match l, h with
  | [], _ => rfl
  | [_], _ => rfl
  | _ :: _ :: _, h => simp only [List.length_cons] at h; omega

/-- measure's answer. -/
def measV (l : List UInt8) : Value := match meas l with
  | none => .tuple #[.int .i64 0, .int .i64 0, .bool false]
  | some (h, wl) => .tuple #[.int .i64 (h : Int), .int .i64 (wl : Int), .bool true]

theorem meas_long (t x : UInt8) (r : List UInt8) (hx : 128 ≤ x.toNat) : meas (t :: x :: r) = if (longL r (x.toNat - 128)).2 = true ∧ (longL r (x.toNat - 128)).1 ≤ r.length - (x.toNat - 128) then some (2 + (x.toNat - 128), 2 + (x.toNat - 128) + (longL r (x.toNat - 128)).1) else none := by
  have h1 : ¬ x < 128 := fun h => by rw [u8_lt_iff] at h; omega
  simp only [meas]
  rw [if_neg h1]
  by_cases h2 : x.toNat = 128 ∨ 132 < x.toNat ∨ r.length < x.toNat - 128 ∨ r.getD 0 0 = 0
  · have hL : longL r (x.toNat - 128) = (0, false) := by
      unfold longL
      rw [if_pos]
      rcases h2 with h | h | h | h
      · exact .inl (by omega)
      · exact .inr (.inl (by omega))
      · exact .inr (.inr (.inl h))
      · exact .inr (.inr (.inr h))
    rw [if_pos h2, hL]
    simp
  · have hL : longL r (x.toNat - 128) = (be 0 (r.take (x.toNat - 128)), decide (128 ≤ be 0 (r.take (x.toNat - 128)))) := by
      unfold longL
      rw [if_neg]
      intro h
      apply h2
      rcases h with h | h | h | h
      · exact .inl (by omega)
      · exact .inr (.inl (by omega))
      · exact .inr (.inr (.inl h))
      · exact .inr (.inr (.inr h))
    rw [if_neg h2, hL]
    simp only [decide_eq_true_eq]
    generalize be 0 (r.take (x.toNat - 128)) = N
    by_cases h3 : N < 128 ∨ r.length - (x.toNat - 128) < N
    · rw [if_pos h3, if_neg (by omega)]
    · rw [if_neg h3, if_pos (by omega)]

theorem longL_lt (l : List UInt8) (k : Nat) : (longL l k).1 < 4294967296 ∧ ((longL l k).2 = true → 1 ≤ k ∧ k ≤ 4 ∧ k ≤ l.length) := by
  unfold longL
  split
  · simp
  · rename_i h
    refine ⟨?_, fun _ => by omega⟩
    have h3 : (l.take k).length ≤ 4 := by rw [List.length_take]; omega
    exact Nat.lt_of_lt_of_le (be_lt _) (Nat.le_trans (Nat.pow_le_pow_right (by omega) h3) (by omega))

end Go.Proofs.Ytkaoobdemaahbaa
