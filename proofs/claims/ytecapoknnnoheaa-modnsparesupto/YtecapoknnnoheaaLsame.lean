import Derived.Test.YtecapoknnnoheaaAlive
namespace Go.Proofs.Ytecapoknnnoheaa
open Go.RowKit

set_option maxHeartbeats 1000000 in
theorem lsame_nil (a1 a2 : Option Addr) (c1 c2 : Nat) (w : World) : Calls Try.prog 13 #[.slice a1 0 c1, .slice a2 0 c2] w fun e w' => e = .returned (.bool true) ∧ ∃ q, w' = w.drewN q := by
  go_enter Try.func13, Try.ntmps13
  go_wp2
  go_loop [5] (fun s => s = .int .i64 0) (fun _ => 0)
  case atStart => rfl
  case round =>
    subst hrel
    go_wp2
    go_ret
    exact ⟨rfl, 0, rfl⟩

set_option maxHeartbeats 1000000 in
theorem lsame_pos (a1 a2 : Option Addr) (c1 c2 m : Nat) (xs : List Nat) (w : World) (hr1 : Rn w a1 xs) (hr2 : Rn w a2 xs) (hl : xs.length = m + 1) (ht : xs.getD m 0 ≠ 0) (hm : m ≤ 1000000000) :
    Calls Try.prog 13 #[.slice a1 (m + 1) c1, .slice a2 (m + 1) c2] w fun e w' => e = .returned (.bool true) ∧ ∃ q, w' = w.drewN q := by
  obtain ⟨b1, o1, rfl, _, hc1⟩ := hr1.cell (by omega)
  obtain ⟨b2, o2, rfl, _, hc2⟩ := hr2.cell (by omega)
  have H1 : Hid (∀ j, j < m + 1 → w.cell? ⟨b1, o1 + j, none⟩ = some (.int .u32 ((xs.getD j 0 : Nat) : Int))) := fun j hj => hc1 j (by omega)
  have H2 : Hid (∀ j, j < m + 1 → w.cell? ⟨b2, o2 + j, none⟩ = some (.int .u32 ((xs.getD j 0 : Nat) : Int))) := fun j hj => hc2 j (by omega)
  have g1 := H1.out m (by omega)
  have ht2 : (((xs.getD m 0 : Nat) : Int) == 0) = false := by simp only [beq_eq_false_iff_ne]; omega
  generalize xs.getD m 0 = t at g1 ht2
  have e1 : ((m + 1 : Nat) : Int) - 1 = (m : Int) := by omega
  clear hr1 hr2 hc1 hc2 hl ht
  go_enter Try.func13, Try.ntmps13
  go_wp2
  go_loopw [5] (fun s wr => ∃ k q : Nat, k ≤ m + 1 ∧ s = .int .i64 (k : Int) ∧ wr = w.drewN q) (fun s _ => m + 1 - (intOf s).toNat)
  case atStart => exact ⟨0, 0, Nat.zero_le _, rfl, rfl⟩
  case round =>
    obtain ⟨k, q, hk, rfl, rfl⟩ := hrel
    by_cases hlt : k < m + 1
    · have k1 := H1.out k hlt
      have k2 := H2.out k hlt
      generalize xs.getD k 0 = x at k1 k2
      have hd : ((x : Int) != (x : Int)) = false := by simp
      have hlI : (k : Int) < (m : Int) + 1 := by omega
      go_wp2
      go_quiet (fail)
      go_wp2
      go_roundw
      case rel => exact ⟨k + 1, _, by omega, by go_num, rfl⟩
      case measure => simp [intOf]; omega
    · have hlI : ¬ (k : Int) < (m : Int) + 1 := by omega
      go_wp2
      go_ret
      exact ⟨rfl, q, rfl⟩

theorem lsame_eq (v u : Value) (V : Nat) (w : World) (hv : Nm w v (dg Bs V)) (hu : Nm w u (dg Bs V)) (hl : (dg Bs V).length ≤ 1000000000) :
    Calls Try.prog 13 #[v, u] w fun e w' => e = .returned (.bool true) ∧ ∃ q, w' = w.drewN q := by
  obtain ⟨a1, c1, rfl, _, r1, _⟩ := hv
  obtain ⟨a2, c2, rfl, _, r2, _⟩ := hu
  rcases Nat.eq_zero_or_pos (dg Bs V).length with h | h
  · rw [h]; exact lsame_nil a1 a2 c1 c2 w
  · obtain ⟨m, hm⟩ : ∃ m, (dg Bs V).length = m + 1 := ⟨(dg Bs V).length - 1, by omega⟩
    have := lsame_pos a1 a2 c1 c2 m (dg Bs V) w r1 r2 hm (dg_top Bs_two V m hm) (by omega)
    rw [hm]; exact this

/-- How long sums and products are. -/
theorem dgl_add (U V k m : Nat) (hu : (dg Bs U).length ≤ k) (hv : (dg Bs V).length ≤ m) : (dg Bs (U + V)).length ≤ k + m + 1 := by
  have h := sum_fits Bs_two (k + m + 1) (dg_sm Bs_two U) (dg_sm Bs_two V) (by omega) (by omega)
  rw [dg_nv Bs_two, dg_nv Bs_two] at h
  exact dg_len Bs_two _ _ h
theorem dgl_mul (U V k m : Nat) (hu : (dg Bs U).length ≤ k) (hv : (dg Bs V).length ≤ m) : (dg Bs (U * V)).length ≤ k + m := by
  have h1 : U < Bs ^ k := Nat.lt_of_lt_of_le (dg_up Bs_two U) (Nat.pow_le_pow_right Bs_pos hu)
  have h2 : V < Bs ^ m := Nat.lt_of_lt_of_le (dg_up Bs_two V) (Nat.pow_le_pow_right Bs_pos hv)
  refine dg_len Bs_two _ _ ?_
  rw [Nat.pow_add]
  exact Nat.mul_lt_mul'' h1 h2
theorem dgl_le (U V k : Nat) (h : U ≤ V) (hv : (dg Bs V).length ≤ k) : (dg Bs U).length ≤ k :=
  dg_len Bs_two _ _ (Nat.lt_of_le_of_lt h (Nat.lt_of_lt_of_le (dg_up Bs_two V) (Nat.pow_le_pow_right Bs_pos hv)))
theorem dgl_arg (xs : List Nat) (k : Nat) (hs : Sm Bs xs) (h : xs.length ≤ k) : (dg Bs (nv Bs xs)).length ≤ k := dg_len Bs_two _ _ (Nat.lt_of_lt_of_le (nv_lt Bs_pos hs) (Nat.pow_le_pow_right Bs_pos h))

/-- A value that is a number, of that value, of no more limbs than that. -/
def Vl (w : World) (v : Value) (V k : Nat) : Prop := ∃ xs, Nm w v xs ∧ nv Bs xs = V ∧ xs.length ≤ k
theorem Vl.below {w w' : World} {v : Value} {V k n : Nat} (h : Vl w v V k) (hb : Below n w w') (hn : w.heap.size ≤ n) : Vl w' v V k := by
  obtain ⟨xs, h1, h2⟩ := h; exact ⟨xs, h1.below hb hn, h2⟩
theorem Vl.drewN {w : World} {v : Value} {V k : Nat} (h : Vl w v V k) (q : Nat) : Vl (w.drewN q) v V k := h
theorem Ow.vl {w : World} {base : Nat} {v : Value} {V k : Nat} (h : Ow w base v (dg Bs V)) (hk : (dg Bs V).length ≤ k) : Vl w v V k := ⟨_, h.nm (dg_sm Bs_two V), dg_nv Bs_two V, hk⟩
theorem Vl.len {w : World} {v : Value} {V k : Nat} (h : Vl w v V k) : (dg Bs V).length ≤ k := by
  obtain ⟨xs, h1, h2, h3⟩ := h
  rw [← h2]; exact dgl_arg xs k h1.sm h3

/-- A new number. -/
def New (w w' : World) (r : Value) (V k : Nat) : Prop := Ow w' w.heap.size r (dg Bs V) ∧ (dg Bs V).length ≤ k ∧ Below w.heap.size w w'

theorem vadd (v u : Value) (U V k m : Nat) (w : World) (hv : Vl w v U k) (hu : Vl w u V m) (hk : k ≤ 100000000) (hm : m ≤ 100000000) :
    Calls Try.prog 23 #[v, u] w fun e w' => ∃ r, e = .returned r ∧ New w w' r (U + V) (k + m + 1) := by
  have l1 := hv.len
  have l2 := hu.len
  obtain ⟨xs, n1, rfl, k1⟩ := hv
  obtain ⟨ys, n2, rfl, k2⟩ := hu
  refine (add_nm v u xs ys w n1 n2 (by omega) (by omega)).mono ?_
  rintro e w' ⟨r, rfl, h1, h2⟩
  exact ⟨r, rfl, h1, dgl_add _ _ _ _ l1 l2, h2⟩
theorem vmul (v u : Value) (U V k m : Nat) (w : World) (hv : Vl w v U k) (hu : Vl w u V m) (hk : k ≤ 100000000) (hm : m ≤ 100000000) :
    Calls Try.prog 25 #[v, u] w fun e w' => ∃ r, e = .returned r ∧ New w w' r (U * V) (k + m) := by
  have l1 := hv.len
  have l2 := hu.len
  obtain ⟨xs, n1, rfl, k1⟩ := hv
  obtain ⟨ys, n2, rfl, k2⟩ := hu
  refine (mul_nm v u xs ys w n1 n2 (by omega) (by omega)).mono ?_
  rintro e w' ⟨r, rfl, h1, h2⟩
  exact ⟨r, rfl, h1, dgl_mul _ _ _ _ l1 l2, h2⟩
theorem vsub (v u : Value) (U V k m : Nat) (w : World) (hv : Vl w v U k) (hu : Vl w u V m) (hk : k ≤ 100000000) (hm : m ≤ 100000000) :
    Calls Try.prog 65 #[v, u] w fun e w' => ∃ r, e = .returned (.tuple #[r, .bool (decide (V ≤ U))]) ∧ New w w' r (U - V) k := by
  have l1 := hv.len
  obtain ⟨xs, n1, rfl, k1⟩ := hv
  obtain ⟨ys, n2, rfl, k2⟩ := hu
  refine (sub_nm v u xs ys w n1 n2 (by omega) (by omega)).mono ?_
  rintro e w' ⟨r, rfl, h1, h2⟩
  exact ⟨r, rfl, h1, dgl_le _ _ _ (Nat.sub_le _ _) l1, h2⟩
theorem vcmp (v u : Value) (U V k m : Nat) (w : World) (hv : Vl w v U k) (hu : Vl w u V m) (hk : k ≤ 100000000) (hm : m ≤ 100000000) :
    Calls Try.prog 22 #[v, u] w fun e w' => e = .returned (.int .i64 (cmp3 U V)) ∧ ∃ q, w' = w.drewN q := by
  obtain ⟨xs, n1, rfl, k1⟩ := hv
  obtain ⟨ys, n2, rfl, k2⟩ := hu
  exact cmp_nm v u xs ys w n1 n2 (by omega) (by omega)
theorem vbits (v : Value) (U k : Nat) (w : World) (hv : Vl w v U k) (hk : k ≤ 100000000) :
    Calls Try.prog 36 #[v] w fun e w' => e = .returned (.int .i64 ((bl U : Nat) : Int)) ∧ w' = w := by
  obtain ⟨xs, n1, rfl, k1⟩ := hv
  exact bits_nm v xs w n1 (by omega)
theorem vdiv (v u : Value) (U V k m : Nat) (w : World) (hv : Vl w v U k) (hu : Vl w u V m) (hk : k ≤ 100000000) (hm : m ≤ 100000000) (h0 : V ≠ 0) :
    Calls Try.prog 26 #[v, u] w fun e w' => ∃ q r, e = .returned (.tuple #[q, r, .int .i64 0]) ∧ New w w' q (U / V) k ∧ New w w' r (U % V) m := by
  have l1 := hv.len
  have l2 := hu.len
  obtain ⟨xs, n1, rfl, k1⟩ := hv
  obtain ⟨ys, n2, rfl, k2⟩ := hu
  refine (divmod_pos v u xs ys w n1 n2 (by omega) (by omega) h0).mono ?_
  rintro e w' ⟨q, r, b2, rfl, h1, h2, h3, _, h4⟩
  exact ⟨q, r, rfl, ⟨h1, dgl_le _ _ _ (Nat.div_le_self _ _) l1, h4⟩, h2.base h3, dgl_le _ _ _ (Nat.le_of_lt (Nat.mod_lt _ (by omega))) l2, h4⟩
theorem vdiv0 (v u : Value) (U k m : Nat) (w : World) (hv : Vl w v U k) (hu : Vl w u 0 m) (hk : k ≤ 100000000) (hm : m ≤ 100000000) :
    Calls Try.prog 26 #[v, u] w fun e w' => e = .returned (.tuple #[.slice none 0 0, .slice none 0 0, .int .i64 60]) ∧ w' = w := by
  obtain ⟨xs, n1, rfl, k1⟩ := hv
  obtain ⟨ys, n2, h2, k2⟩ := hu
  exact divmod_zero v u xs ys w n1 n2 (by omega) (by omega) h2
theorem vsame (v u : Value) (V : Nat) (w : World) (b1 b2 : Nat) (hv : Ow w b1 v (dg Bs V)) (hu : Ow w b2 u (dg Bs V)) (hl : (dg Bs V).length ≤ 1000000000) :
    Calls Try.prog 13 #[v, u] w fun e w' => e = .returned (.bool true) ∧ ∃ q, w' = w.drewN q := lsame_eq v u V w (hv.nm (dg_sm Bs_two V)) (hu.nm (dg_sm Bs_two V)) hl

end Go.Proofs.Ytecapoknnnoheaa
