import Derived.Test.YtkkcmfkegbdgjaaWtLaw
namespace Go.Proofs.Ytkkcmfkegbdgjaa
open Go.RowKit

theorem tobe_succ (n V : Nat) : tobe (n + 1) V = tobe n (V / 256) ++ [UInt8.ofNat (V % 256)] := by
  unfold tobe
  rw [List.range_succ, List.map_append]
  congr 1
  · apply List.map_congr_left
    intro i hi
    have hi2 := List.mem_range.1 hi
    congr 2
    rw [Nat.div_div_eq_div_mul, ← Nat.pow_succ', show n + 1 - 1 - i = (n - 1 - i).succ by omega]
  · simp
theorem bv_tobe (n V : Nat) : bv (tobe n V) = V % 256 ^ n := by
  induction n generalizing V with
  | zero => simp [tobe, bv, Nat.mod_one]
  | succ n ih =>
    rw [tobe_succ, bv_snoc, ih, UInt8.toNat_ofNat', Nat.mod_eq_of_lt (show V % 256 < 2 ^ 8 from Nat.mod_lt _ (by decide)), Nat.pow_succ, Nat.mul_comm (256 ^ n), Nat.mod_mul]
    omega
theorem tobe_bv : ∀ (n : Nat) (m : List UInt8), m.length = n → tobe n (bv m) = m
  | 0, m, h => by
    have := List.eq_nil_of_length_eq_zero h
    subst this
    rfl
  | n + 1, m, h => by
    have hne : m ≠ [] := fun e => by rw [e] at h; simp at h
    have e := (List.dropLast_concat_getLast hne).symm
    have hl : m.dropLast.length = n := by rw [List.length_dropLast]; omega
    have hc := (m.getLast hne).toNat_lt
    have eb : bv m = bv m.dropLast * 256 + (m.getLast hne).toNat := by
      conv => lhs; rw [e]
      exact bv_snoc _ _
    rw [tobe_succ, eb, show (bv m.dropLast * 256 + (m.getLast hne).toNat) / 256 = bv m.dropLast by omega, show (bv m.dropLast * 256 + (m.getLast hne).toNat) % 256 = (m.getLast hne).toNat by omega, tobe_bv n m.dropLast hl, UInt8.ofNat_toNat]
    exact e.symm
theorem bv_cons (c : UInt8) (r : List UInt8) : bv (c :: r) = c.toNat * 256 ^ r.length + bv r := by
  have e : bv (c :: r) = bv ([c] ++ r) := rfl
  have e1 : bv [c] = c.toNat := by simp [bv]
  rw [e, bv_append, e1]
theorem bv_lead (l : List UInt8) : ∀ z : Nat, z ≤ l.length → (∀ j, j < z → l.getD j 0 = 0) → bv (l.drop z) = bv l
  | 0, _, _ => by rw [List.drop_zero]
  | z + 1, hz, h => by
    have ih := bv_lead l z (by omega) (fun j hj => h j (by omega))
    have hz2 : z < l.length := by omega
    have h3 := h z (by omega)
    rw [List.getD_eq_getElem?_getD, List.getElem?_eq_getElem hz2, Option.getD_some] at h3
    rw [List.drop_eq_getElem_cons hz2, bv_cons, h3] at ih
    rw [← ih]
    simp
/-- A number's least bytes are its bytes without noughts ahead. -/
theorem least_is (l : List UInt8) (z : Nat) (hz : z ≤ l.length) (h0 : ∀ j, j < z → l.getD j 0 = 0) (h1 : z = l.length ∨ l.getD z 0 ≠ 0) : tobe (lst (bv l)) (bv l) = l.drop z := by
  have e := bv_lead l z hz h0
  have hlen : lst (bv l) = (l.drop z).length := by
    rw [← e]
    refine lst_of _ _ (bv_lt _) ?_
    rcases Nat.lt_or_ge z l.length with h | h
    · right
      have h2 : l.getD z 0 ≠ 0 := by
        rcases h1 with h3 | h3
        · omega
        · exact h3
      rw [List.getD_eq_getElem?_getD, List.getElem?_eq_getElem h, Option.getD_some] at h2
      rw [List.drop_eq_getElem_cons h, bv_cons, List.length_cons, Nat.add_sub_cancel]
      have h3 : 0 < l[z].toNat := Nat.pos_of_ne_zero (fun e2 => h2 (UInt8.toNat_inj.1 e2))
      exact Nat.le_trans (Nat.le_mul_of_pos_left _ h3) (Nat.le_add_right _ _)
    · left
      rw [List.length_drop]
      omega
  rw [hlen, ← e]
  exact tobe_bv _ _ rfl
theorem back_is (V n : Nat) (h : lst V ≤ n) : bv (tobe n V) = V := by
  rw [bv_tobe]
  exact Nat.mod_eq_of_lt (Nat.lt_of_lt_of_le (lst_lt V) (Nat.pow_le_pow_right (by decide) h))
theorem bit_top (V : Nat) (h : V ≠ 0) : V / 2 ^ (bl V - 1) % 2 = 1 ∧ V / 2 ^ bl V % 2 = 0 := by
  have h1 := bl_lt V
  have h2 := bl_le V h
  have h3 := bl_pos V h
  refine ⟨?_, by rw [Nat.div_eq_of_lt h1]⟩
  have h4 : V / 2 ^ (bl V - 1) < 2 := Nat.div_lt_of_lt_mul (by rw [← Nat.pow_succ, show (bl V - 1).succ = bl V by omega]; exact h1)
  have h5 : 1 ≤ V / 2 ^ (bl V - 1) := (Nat.le_div_iff_mul_le (Nat.pow_pos (by decide))).2 (by rw [Nat.one_mul]; exact h2)
  omega
theorem bl_rest (V k : Nat) : bl (V % 2 ^ k) ≤ k := by
  have h := Nat.mod_lt V (Nat.pow_pos (n := k) (show 0 < 2 by decide))
  rcases Nat.lt_or_ge k (bl (V % 2 ^ k)) with h1 | h1
  · exfalso
    by_cases h0 : V % 2 ^ k = 0
    · rw [h0, bl_zero] at h1; omega
    · have h2 := bl_le _ h0
      have h3 : 2 ^ k ≤ 2 ^ (bl (V % 2 ^ k) - 1) := Nat.pow_le_pow_right (by decide) (by omega)
      omega
  · exact h1
theorem dg_odd (N : Nat) : (dg Bs N).getD 0 0 % 2 = N % 2 := by
  rw [nv_getD Bs_pos (dg_sm Bs_two N), dg_nv Bs_two, Nat.pow_zero, Nat.div_one]
  exact Nat.mod_mod_of_dvd _ ⟨2147483648, rfl⟩

set_option maxHeartbeats 400000 in
theorem pow_nm (k : Int) (w : World) : Calls Try.prog 32 #[.int .i64 k] w fun e w' => ∃ r, e = .returned r ∧ Ow w' w.heap.size r (dg Bs (2 ^ shk k)) ∧ Below w.heap.size w w' := by
  have hb := alloc_below w (.cells (([1] : List Nat).map U).toArray 36)
  have hv : Nm (w.alloc (.cells (([1] : List Nat).map U).toArray 36)) (.slice (some ⟨w.heap.size, 0, none⟩) 1 1) [1] := ⟨_, 1, rfl, Nat.le_refl _, (alloc_bl w (([1] : List Nat).map U) 36).rn, fun x hx => by rw [List.mem_singleton.1 hx]; decide⟩
  have C := shl_nm k _ [1] _ hv (by decide)
  have e1 : nv Bs [1] = 1 := by simp [nv]
  rw [e1, Nat.one_mul, World.size_alloc] at C
  rw [show (([1] : List Nat).map U).toArray = #[.int .u32 1] from rfl] at C hb
  have HB : Hid (Below w.heap.size w (w.alloc (.cells #[.int .u32 1] 36))) := hb
  clear hb hv e1
  go_enter Try.func32, Try.ntmps32
  go_wp2_with fail
  refine C.mono ?_
  clear C
  rintro e w1 ⟨r, rfl, h1, h2⟩
  have HO : Hid (Ow w1 w.heap.size r (dg Bs (2 ^ shk k)) ∧ Below w.heap.size w w1) := ⟨h1.base (by omega), HB.out.trans (h2.mono (by omega))⟩
  clear h1 h2
  go_wp2
  go_ret
  exact ⟨r, rfl, HO.out⟩

end Go.Proofs.Ytkkcmfkegbdgjaa
