import Derived.Test.YtkkcmfkegbdgjaaDigM
namespace Go.Proofs.Ytkkcmfkegbdgjaa
open Go.RowKit

/-- A number of this value, in a row of its own. -/
def Vo (w : World) (v : Value) (X : Nat) : Prop := Ow w 0 v (dg Bs X)
theorem Vo.below {w w' : World} {v : Value} {X k : Nat} (h : Vo w v X) (hb : Below k w w') (hk : w.heap.size ≤ k) : Vo w' v X := Ow.below h hb hk
theorem Vo.drewN {w : World} {v : Value} {X : Nat} (h : Vo w v X) (q : Nat) : Vo (w.drewN q) v X := h
theorem Vo.nm {w : World} {v : Value} {X : Nat} (h : Vo w v X) : Nm w v (dg Bs X) := Ow.nm h (dg_sm Bs_two _)
theorem shk_nat (k : Nat) (h : k ≤ 131072) : shk (k : Int) = k := by
  unfold shk
  rw [if_neg (by omega), if_pos (by omega)]
  rfl
theorem d_shl (k : Nat) (hk : k ≤ 131072) (n : Value) (xs : List Nat) (w : World) (hn : Nm w n xs) (h1 : xs.length ≤ 10000000) :
    Calls Try.prog 30 #[n, .int .i64 (k : Int)] w fun e w' => ∃ r, e = .returned r ∧ Vo w' r (nv Bs xs * 2 ^ k) ∧ Below w.heap.size w w' := by
  have C := shl_nm (k : Int) n xs w hn h1
  rw [shk_nat k hk] at C
  refine C.mono ?_
  rintro e w' ⟨r, rfl, ho, hb⟩
  exact ⟨r, rfl, ho.base (Nat.zero_le _), hb⟩
theorem d_shr (k : Nat) (hk : k ≤ 9223372036854775807) (n : Value) (xs : List Nat) (w : World) (hn : Nm w n xs) (h1 : xs.length ≤ 10000000) :
    Calls Try.prog 31 #[n, .int .i64 (k : Int)] w fun e w' => ∃ r, e = .returned r ∧ Vo w' r (nv Bs xs / 2 ^ k) ∧ Below w.heap.size w w' := by
  have C := shr_nm (k : Int) n xs w hn (by omega) (by omega)
  rw [Int.toNat_natCast] at C
  refine C.mono ?_
  rintro e w' ⟨r, rfl, ho, hb⟩
  exact ⟨r, rfl, ho.base (Nat.zero_le _), hb⟩
theorem d_pow (k : Nat) (hk : k ≤ 131072) (w : World) : Calls Try.prog 32 #[.int .i64 (k : Int)] w fun e w' => ∃ r, e = .returned r ∧ Vo w' r (2 ^ k) ∧ Below w.heap.size w w' := by
  have C := pow_nm (k : Int) w
  rw [shk_nat k hk] at C
  refine C.mono ?_
  rintro e w' ⟨r, rfl, ho, hb⟩
  exact ⟨r, rfl, ho.base (Nat.zero_le _), hb⟩
theorem dgl_pow (k m : Nat) (h : k ≤ m) : (dg Bs (2 ^ k)).length ≤ m + 1 := by
  have h1 := dgl_shl 1 k 1 m (dg_len Bs_two 1 1 (by decide)) h
  rw [Nat.one_mul] at h1
  omega
theorem d_div (k : Nat) (hk : k ≤ 131072) (n u : Value) (xs : List Nat) (w : World) (hn : Nm w n xs) (hu : Vo w u (2 ^ k)) (h1 : xs.length ≤ 10000000) :
    Calls Try.prog 22 #[n, u] w fun e w' => ∃ q r, e = .returned (.tuple #[q, r, .int .i64 0]) ∧ Vo w' q (nv Bs xs / 2 ^ k) ∧ Vo w' r (nv Bs xs % 2 ^ k) ∧ Below w.heap.size w w' := by
  have hl := dgl_pow k _ hk
  have C := divmod_pos n u xs _ w hn hu.nm (by omega) (by omega) (by rw [dg_nv Bs_two]; exact Nat.ne_of_gt (Nat.pow_pos (by decide)))
  rw [dg_nv Bs_two] at C
  refine C.mono ?_
  rintro e w' ⟨q, r, b2, rfl, ho, ho2, _, _, hb⟩
  exact ⟨q, r, rfl, ho.base (Nat.zero_le _), ho2.base (Nat.zero_le _), hb⟩
theorem d_mul (k : Nat) (hk : k ≤ 131072) (n u : Value) (xs : List Nat) (w : World) (hn : Nm w n xs) (hu : Vo w u (2 ^ k)) (h1 : xs.length ≤ 10000000) :
    Calls Try.prog 14 #[n, u] w fun e w' => ∃ r, e = .returned r ∧ Vo w' r (nv Bs xs * 2 ^ k) ∧ Below w.heap.size w w' := by
  have hl := dgl_pow k _ hk
  have C := mul_nm n u xs _ w hn hu.nm (by omega) (by omega)
  rw [dg_nv Bs_two] at C
  refine C.mono ?_
  rintro e w' ⟨r, rfl, ho, hb⟩
  exact ⟨r, rfl, ho.base (Nat.zero_le _), hb⟩
theorem d_cmp (v n : Value) (X : Nat) (xs : List Nat) (w : World) (hv : Vo w v X) (hn : Nm w n xs) (h1 : xs.length ≤ 10000000) (h2 : (dg Bs X).length ≤ 10000000) :
    Calls Try.prog 15 #[v, n] w fun e w' => e = .returned (.int .i64 (cmp3 X (nv Bs xs))) ∧ ∃ q, w' = w.drewN q := by
  have C := cmp_nm v n _ xs w hv.nm hn (by omega) (by omega)
  rw [dg_nv Bs_two] at C
  exact C
theorem d_bits (v : Value) (X : Nat) (w : World) (hv : Vo w v X) (h2 : (dg Bs X).length ≤ 10000000) :
    Calls Try.prog 23 #[v] w fun e w' => e = .returned (.int .i64 ((bl X : Nat) : Int)) ∧ w' = w := by
  have C := bits_nm v _ w hv.nm (by omega)
  rw [dg_nv Bs_two] at C
  exact C
theorem bl_bound (V m : Nat) (h : (dg Bs V).length ≤ m) : bl V ≤ m * 32 := by
  have h1 : V < Bs ^ m := by
    have h2 := nv_lt Bs_pos (dg_sm Bs_two V)
    rw [dg_nv Bs_two] at h2
    exact Nat.lt_of_lt_of_le h2 (Nat.pow_le_pow_right Bs_pos h)
  rcases Nat.lt_or_ge (m * 32) (bl V) with h3 | h3
  · exfalso
    have h0 : V ≠ 0 := fun e => by rw [e, bl_zero] at h3; omega
    have h4 := bl_le V h0
    have h5 : Bs ^ m = 2 ^ (m * 32) := by rw [Nat.mul_comm, Nat.pow_mul]; rfl
    rw [h5] at h1
    have h6 : 2 ^ (m * 32) ≤ 2 ^ (bl V - 1) := Nat.pow_le_pow_right (by decide) (by omega)
    exact Nat.lt_irrefl _ (Nat.lt_of_lt_of_le h1 (Nat.le_trans h6 h4))
  · exact h3

end Go.Proofs.Ytkkcmfkegbdgjaa
