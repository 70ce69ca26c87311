import Derived.Test.YtgkbbcoagnilgaaBackT
namespace Go.Proofs.Ytgkbbcoagnilgaa
open Go.RowKit

/-- No nought at the end. -/
def NT (y : List UInt8) : Prop := ∀ c t, y = t ++ [c] → c ≠ 48

theorem tr_nt (l : List UInt8) : NT (tr l) := by
  intro c t h
  unfold tr at h
  have h1 : tl l.reverse = c :: t.reverse := by
    have := congrArg List.reverse h
    rw [List.reverse_reverse, List.reverse_append] at this
    simpa using this
  obtain ⟨x, y, h2, h3⟩ := tl_head l.reverse (by rw [h1]; simp)
  rw [h1] at h2
  injection h2 with h4 _
  rw [h4]; exact h3

theorem nt_tail {a : UInt8} {y : List UInt8} (h : NT (a :: y)) : NT y := fun c t e => h c (a :: t) (by rw [e]; rfl)

theorem nt_pos {y : List UInt8} (hy : allD y) (hn : NT y) (h0 : y ≠ []) : 0 < num y := by
  obtain ⟨t, c, rfl⟩ : ∃ t c, y = t ++ [c] := ⟨y.dropLast, y.getLast h0, (List.dropLast_concat_getLast h0).symm⟩
  have hc := hn c t rfl
  have hcD := isD_bd (hy c (by simp))
  have hc48 : c.toNat ≠ 48 := fun e => hc (UInt8.toNat_inj.1 e)
  rw [num_app]
  have : num [c] = c.toNat - 48 := by
    unfold num
    rw [List.length_singleton, dn_cons]
    simp [dn]
  rw [this]
  omega

theorem dn_long (y : List UInt8) (L : Nat) (h : y.length ≤ L) : dn y L = num y * 10 ^ (L - y.length) := by
  obtain ⟨k, rfl⟩ : ∃ k, L = y.length + k := ⟨L - y.length, by omega⟩
  rw [dn_more, Nat.add_sub_cancel_left]
  rfl

/-- The order of digits without a nought at the end is strict. -/
theorem cb_lt : ∀ (z y : List UInt8) (L : Nat), allD z → allD y → NT y → z.length ≤ L → y.length ≤ L → Lib.compareBytes z y < 0 → dn z L < dn y L
  | [], [], _, _, _, _, _, _, h => by simp [Lib.compareBytes] at h
  | [], b :: y, L, _, hy, hn, _, h2, _ => by
    rw [dn_nil, dn_long _ _ h2]
    exact Nat.mul_pos (nt_pos hy hn (by simp)) (Nat.pow_pos (by decide))
  | _ :: _, [], _, _, _, _, _, _, h => by simp [Lib.compareBytes] at h
  | a :: z, b :: y, 0, _, _, _, h, _, _ => by simp at h
  | a :: z, b :: y, L + 1, hz, hy, hn, h1, h2, h => by
    obtain ⟨ha, hz'⟩ := allD_cons hz
    obtain ⟨hb, hy'⟩ := allD_cons hy
    rw [dn_cons, dn_cons]
    unfold Lib.compareBytes at h
    simp only [UInt8.lt_iff_toNat_lt] at h
    by_cases c1 : a.toNat < b.toNat
    · have k1 := dn_lt z hz' L
      have k2 : (a.toNat - 48 + 1) * 10 ^ L ≤ (b.toNat - 48) * 10 ^ L := Nat.mul_le_mul_right _ (by omega)
      rw [Nat.add_mul, Nat.one_mul] at k2
      omega
    · rw [if_neg c1] at h
      by_cases c2 : b.toNat < a.toNat
      · rw [if_pos c2] at h; omega
      · rw [if_neg c2] at h
        have e : a.toNat = b.toNat := by omega
        rw [e]
        have := cb_lt z y L hz' hy' (nt_tail hn) (by simpa using h1) (by simpa using h2) h
        omega

theorem frac_lt (z y : List UInt8) (P Q : Int) (S : Nat) (h1 : (z.length : Int) - P ≤ S) (h2 : (y.length : Int) - Q ≤ S) (h : vS z P S < vS y Q S) : vU z P * vD y Q < vU y Q * vD z P := by
  have e1 := vS_frac z P S h1
  have e2 := vS_frac y Q S h2
  apply Nat.lt_of_mul_lt_mul_right (a := 10 ^ S)
  have k1 : vU z P * vD y Q * 10 ^ S = vS z P S * (vD z P * vD y Q) := by
    rw [Nat.mul_right_comm, e1, Nat.mul_assoc]
  have k2 : vU y Q * vD z P * 10 ^ S = vS y Q S * (vD z P * vD y Q) := by
    rw [Nat.mul_right_comm, e2, Nat.mul_assoc, Nat.mul_comm (vD y Q)]
  rw [k1, k2]
  exact Nat.mul_lt_mul_of_pos_right h (Nat.mul_pos (vD_pos _ _) (vD_pos _ _))

theorem ck_lt (z y : List UInt8) (P Q : Int) (hz : allD z) (hy : allD y) (hn : NT y) (hy0 : y ≠ []) (hy1 : dz y 0 ≠ 0) (h : ckey P z Q y < 0) : vU z P * vD y Q < vU y Q * vD z P := by
  obtain ⟨S, hS⟩ : ∃ S : Nat, S = z.length + y.length + P.natAbs + Q.natAbs + 1 := ⟨_, rfl⟩
  refine frac_lt z y P Q S (by omega) (by omega) ?_
  unfold ckey at h
  by_cases c : P = Q
  · subst c
    rw [if_pos rfl] at h
    obtain ⟨L, hL⟩ : ∃ L, L = z.length + y.length := ⟨_, rfl⟩
    rw [vS_long z P L S (by omega) (by omega), vS_long y P L S (by omega) (by omega)]
    exact Nat.mul_lt_mul_of_pos_right (cb_lt z y L hz hy hn (by omega) (by omega) h) (Nat.pow_pos (by decide))
  · rw [if_neg c] at h
    have c2 : P < Q := by
      apply Decidable.byContradiction
      intro h2; rw [if_neg h2] at h; omega
    obtain ⟨n, hn⟩ : ∃ n, y.length = n + 1 := by
      cases y with
      | nil => exact absurd rfl hy0
      | cons a t => exact ⟨t.length, rfl⟩
    have k1 := dn_lt z hz z.length
    have k2 := dn_ge y hy0 hy1 n
    unfold vS
    rw [hn]
    refine Nat.lt_of_lt_of_le (Nat.mul_lt_mul_of_pos_right k1 (Nat.pow_pos (by decide))) (Nat.le_trans ?_ (Nat.mul_le_mul_right _ k2))
    rw [← Nat.pow_add, ← Nat.pow_add]
    exact Nat.pow_le_pow_right (by decide) (by omega)

/-- A number's value: its sign and its fraction's upper part. -/
def sv (x : PartsM) : Int := if x.1 then -((vU (zof x) (Pof x) : Nat) : Int) else ((vU (zof x) (Pof x) : Nat) : Int)
def dv (x : PartsM) : Nat := vD (zof x) (Pof x)

theorem zof_nt (x : PartsM) : NT (zof x) := tr_nt _

theorem vU_pos (x : PartsM) (g : Good x) (h : zof x ≠ []) : 0 < vU (zof x) (Pof x) := by
  unfold vU
  exact Nat.mul_pos (nt_pos g.1 (zof_nt x) h) (Nat.pow_pos (by decide))

theorem vU_nil (x : PartsM) (h : zof x = []) : vU (zof x) (Pof x) = 0 := by
  rw [h]; unfold vU; simp [dn]

theorem cmp3_of {a b : Int} : (a < b → cmp3 a b = -1) ∧ (a = b → cmp3 a b = 0) ∧ (b < a → cmp3 a b = 1) := by
  unfold cmp3
  refine ⟨fun h => by rw [if_pos h], fun h => by rw [if_neg (by omega), if_neg (by omega)], fun h => by rw [if_neg (by omega), if_pos h]⟩

theorem ck_val (x y : PartsM) (gx : Good x) (gy : Good y) (hx : zof x ≠ []) (hy : zof y ≠ []) : ckey (Pof x) (zof x) (Pof y) (zof y) = cmp3 ((vU (zof x) (Pof x) * dv y : Nat) : Int) ((vU (zof y) (Pof y) * dv x : Nat) : Int) := by
  have t := ck_turn (Pof x) (Pof y) (zof x) (zof y)
  have b := ck_bd (Pof x) (Pof y) (zof x) (zof y)
  have l1 := ck_lt _ _ (Pof x) (Pof y) gx.1 gy.1 (zof_nt y) hy (gy.2 hy)
  have l2 := ck_lt _ _ (Pof y) (Pof x) gy.1 gx.1 (zof_nt x) hx (gx.2 hx)
  have e := ck_eq x y gx gy hx hy
  unfold dv
  generalize ckey (Pof x) (zof x) (Pof y) (zof y) = k at t b l1 e
  rw [t] at l2
  have c := @cmp3_of ((vU (zof x) (Pof x) * vD (zof y) (Pof y) : Nat) : Int) ((vU (zof y) (Pof y) * vD (zof x) (Pof x) : Nat) : Int)
  by_cases k0 : k = 0
  · have := e k0
    rw [c.2.1 (by omega), k0]
  · by_cases k1 : k < 0
    · have := l1 k1
      rw [c.1 (by omega)]; omega
    · have := l2 (by omega)
      rw [c.2.2 (by omega)]; omega

/-- Compare is the order of the values. -/
theorem okey_val (x y : PartsM) (gx : Good x) (gy : Good y) : okey x y = cmp3 (sv x * (dv y : Int)) (sv y * (dv x : Int)) := by
  have px : 0 < dv x := vD_pos _ _
  have py : 0 < dv y := vD_pos _ _
  have key : ∀ (u : PartsM) (d : Nat), 0 < d → Good u → (zof u = [] ∧ sgn u.1 (zof u) = 0 ∧ sv u * (d : Int) = 0) ∨ (zof u ≠ [] ∧ sgn u.1 (zof u) = 1 ∧ sv u * (d : Int) = ((vU (zof u) (Pof u) * d : Nat) : Int) ∧ 0 < vU (zof u) (Pof u) * d) ∨ (zof u ≠ [] ∧ sgn u.1 (zof u) = -1 ∧ sv u * (d : Int) = -((vU (zof u) (Pof u) * d : Nat) : Int) ∧ 0 < vU (zof u) (Pof u) * d) := by
    intro u d hd gu
    by_cases hz : zof u = []
    · left
      refine ⟨hz, (sgn_nz _ _).2 hz, ?_⟩
      unfold sv
      rw [vU_nil u hz]
      simp
    · right
      have hp := Nat.mul_pos (vU_pos u gu hz) hd
      cases hm : u.1
      · left
        refine ⟨hz, ?_, ?_, hp⟩
        · unfold sgn; rw [if_neg hz]; rfl
        · unfold sv; rw [hm]; simp
      · right
        refine ⟨hz, ?_, ?_, hp⟩
        · unfold sgn; rw [if_neg hz]; rfl
        · unfold sv; rw [hm]; simp [Int.neg_mul]
  have c := @cmp3_of (sv x * (dv y : Int)) (sv y * (dv x : Int))
  unfold okey
  rcases key x (dv y) py gx with ⟨zx, sx, vx⟩ | ⟨zx, sx, vx, qx⟩ | ⟨zx, sx, vx, qx⟩ <;> rcases key y (dv x) px gy with ⟨zy, sy, vy⟩ | ⟨zy, sy, vy, qy⟩ | ⟨zy, sy, vy, qy⟩ <;> rw [sx, sy]
  · rw [if_pos rfl, c.2.1 (by omega)]; simp
  · rw [if_neg (by decide), c.1 (by omega)]; rfl
  · rw [if_neg (by decide), c.2.2 (by omega)]; rfl
  · rw [if_neg (by decide), c.2.2 (by omega)]; rfl
  · rw [if_pos rfl, Int.one_mul, vx, vy]; exact ck_val x y gx gy zx zy
  · rw [if_neg (by decide), c.2.2 (by omega)]; rfl
  · rw [if_neg (by decide), c.1 (by omega)]; rfl
  · rw [if_neg (by decide), c.1 (by omega)]; rfl
  · rw [if_pos rfl, ck_val x y gx gy zx zy, vx, vy]
    generalize ((vU (zof x) (Pof x) * dv y : Nat) : Int) = a
    generalize ((vU (zof y) (Pof y) * dv x : Nat) : Int) = b
    have c1 := @cmp3_of a b
    have c2 := @cmp3_of (-a) (-b)
    by_cases h1 : a < b
    · rw [c1.1 h1, c2.2.2 (by omega)]; rfl
    · by_cases h2 : a = b
      · rw [c1.2.1 h2, c2.2.1 (by omega)]; rfl
      · rw [c1.2.2 (by omega), c2.1 (by omega)]; rfl

end Go.Proofs.Ytgkbbcoagnilgaa
