import Derived.Test.YtgkbbcoagnilgaaOrdM
namespace Go.Proofs.Ytgkbbcoagnilgaa
open Go.RowKit

theorem dz_cons (a : UInt8) (z : List UInt8) (i : Nat) : dz (a :: z) (i + 1) = dz z i := by
  unfold dz
  simp

theorem dn_cons (a : UInt8) (z : List UInt8) : ∀ L, dn (a :: z) (L + 1) = (a.toNat - 48) * 10 ^ L + dn z L
  | 0 => by simp [dn, dz]
  | L + 1 => by
    show 10 * dn (a :: z) (L + 1) + dz (a :: z) (L + 1) = _
    rw [dn_cons a z L, dz_cons]
    show _ = _ + (10 * dn z L + dz z L)
    rw [Nat.pow_succ, Nat.mul_add, Nat.mul_left_comm, Nat.mul_comm 10 (10 ^ L), Nat.add_assoc]

theorem dn_nil : ∀ L, dn [] L = 0
  | 0 => rfl
  | L + 1 => by show 10 * dn [] L + dz [] L = 0; rw [dn_nil L]; rfl

theorem allD_cons {a : UInt8} {z : List UInt8} (h : allD (a :: z)) : (48 ≤ a.toNat ∧ a.toNat ≤ 57) ∧ allD z :=
  ⟨isD_bd (h a (List.mem_cons_self ..)), fun c hc => h c (List.mem_cons_of_mem _ hc)⟩

/-- The order of the digits is the order of the numbers. -/
theorem cb_le : ∀ (z y : List UInt8) (L : Nat), allD z → allD y → z.length ≤ L → y.length ≤ L → Lib.compareBytes z y ≤ 0 → dn z L ≤ dn y L
  | [], _, L, _, _, _, _, _ => by rw [dn_nil]; omega
  | _ :: _, [], _, _, _, _, _, h => by simp [Lib.compareBytes] at h
  | a :: z, b :: y, 0, _, _, h, _, _ => by simp at h
  | a :: z, b :: y, L + 1, hz, hy, h1, h2, h => by
    obtain ⟨ha, hz'⟩ := allD_cons hz
    obtain ⟨hb, hy'⟩ := allD_cons hy
    rw [dn_cons, dn_cons]
    unfold Lib.compareBytes at h
    simp only [UInt8.lt_iff_toNat_lt] at h
    by_cases c1 : a.toNat < b.toNat
    · have k1 := dn_lt z hz' L
      have k2 : (a.toNat - 48 + 1) * 10 ^ L ≤ (b.toNat - 48) * 10 ^ L := Nat.mul_le_mul_right _ (by omega)
      rw [Nat.add_mul, Nat.one_mul] at k2
      omega
    · rw [if_neg c1] at h
      by_cases c2 : b.toNat < a.toNat
      · rw [if_pos c2] at h; omega
      · rw [if_neg c2] at h
        have e : a.toNat = b.toNat := by omega
        rw [e]
        have := cb_le z y L hz' hy' (by simpa using h1) (by simpa using h2) h
        omega

/-- A number's value, times 10^S. -/
def vS (z : List UInt8) (P S : Int) : Nat := dn z z.length * 10 ^ (P - z.length + S).toNat

theorem vS_frac (z : List UInt8) (P : Int) (S : Nat) (h : (z.length : Int) - P ≤ S) : vU z P * 10 ^ S = vS z P S * vD z P := by
  unfold vU vD vS
  by_cases c : (z.length : Int) ≤ P
  · have e1 : ((z.length : Int) - P).toNat = 0 := by omega
    have e2 : (P - z.length + S).toNat = (P - z.length).toNat + S := by omega
    rw [e1, e2, Nat.pow_zero, Nat.mul_one, Nat.pow_add, Nat.mul_assoc]
  · have e1 : (P - z.length).toNat = 0 := by omega
    have e2 : S = (P - z.length + S).toNat + ((z.length : Int) - P).toNat := by omega
    rw [e1, Nat.pow_zero, Nat.mul_one, Nat.mul_assoc, ← Nat.pow_add, ← e2]

theorem frac_le (z y : List UInt8) (P Q : Int) (S : Nat) (h1 : (z.length : Int) - P ≤ S) (h2 : (y.length : Int) - Q ≤ S) (h : vS z P S ≤ vS y Q S) : vU z P * vD y Q ≤ vU y Q * vD z P := by
  have e1 := vS_frac z P S h1
  have e2 := vS_frac y Q S h2
  have hp : 0 < 10 ^ S := Nat.pow_pos (by decide)
  apply Nat.le_of_mul_le_mul_right (c := 10 ^ S) _ hp
  have k1 : vU z P * vD y Q * 10 ^ S = vS z P S * (vD z P * vD y Q) := by
    rw [Nat.mul_right_comm, e1, Nat.mul_assoc]
  have k2 : vU y Q * vD z P * 10 ^ S = vS y Q S * (vD z P * vD y Q) := by
    rw [Nat.mul_right_comm, e2, Nat.mul_assoc, Nat.mul_comm (vD y Q)]
  rw [k1, k2]
  exact Nat.mul_le_mul_right _ h

theorem vS_long (z : List UInt8) (P : Int) (L S : Nat) (hL : z.length ≤ L) (hS : (L : Int) - P ≤ S) : vS z P S = dn z L * 10 ^ (P - L + S).toNat := by
  obtain ⟨k, rfl⟩ : ∃ k, L = z.length + k := ⟨L - z.length, by omega⟩
  unfold vS
  rw [dn_more, Nat.mul_assoc, ← Nat.pow_add]
  congr 2
  omega

/-- The order of the keys is the order of the values. -/
theorem ck_le (z y : List UInt8) (P Q : Int) (hz : allD z) (hy : allD y) (hy0 : y ≠ []) (hy1 : dz y 0 ≠ 0) (h : ckey P z Q y ≤ 0) : vU z P * vD y Q ≤ vU y Q * vD z P := by
  obtain ⟨S, hS⟩ : ∃ S : Nat, S = z.length + y.length + P.natAbs + Q.natAbs + 1 := ⟨_, rfl⟩
  refine frac_le z y P Q S (by omega) (by omega) ?_
  unfold ckey at h
  by_cases c : P = Q
  · subst c
    rw [if_pos rfl] at h
    obtain ⟨L, hL⟩ : ∃ L, L = z.length + y.length := ⟨_, rfl⟩
    rw [vS_long z P L S (by omega) (by omega), vS_long y P L S (by omega) (by omega)]
    exact Nat.mul_le_mul_right _ (cb_le z y L hz hy (by omega) (by omega) h)
  · rw [if_neg c] at h
    have c2 : P < Q := by
      apply Decidable.byContradiction
      intro h2; rw [if_neg h2] at h; omega
    obtain ⟨n, hn⟩ : ∃ n, y.length = n + 1 := by
      cases y with
      | nil => exact absurd rfl hy0
      | cons a t => exact ⟨t.length, rfl⟩
    have k1 := dn_lt z hz z.length
    have k2 := dn_ge y hy0 hy1 n
    unfold vS
    rw [hn]
    refine Nat.le_trans (Nat.mul_le_mul_right _ (Nat.le_of_lt k1)) (Nat.le_trans ?_ (Nat.mul_le_mul_right _ k2))
    rw [← Nat.pow_add, ← Nat.pow_add]
    exact Nat.pow_le_pow_right (by decide) (by omega)

/-- What is known of a text's parts. -/
def Good (x : PartsM) : Prop := allD (zof x) ∧ (zof x ≠ [] → dz (zof x) 0 ≠ 0)

theorem good_cut {l : List UInt8} {x : PartsM} (h : pcut l = some x) : Good x := by
  obtain ⟨m, g, f, p, d⟩ := x
  obtain ⟨dg, df, dd⟩ := pcut_digs h
  have hgf : allD (g ++ f) := fun c hc => by
    rcases List.mem_append.1 hc with h | h
    · exact dg c h
    · exact df c h
  exact ⟨allD_tr (allD_tl hgf), fun h => tr_head _ h hgf⟩

theorem near_nought {x : PartsM} {b : Nat} (h : NearS x b) (hz : zof x = []) : b = 0 :=
  h.one (rnd_zero (zof x) hz (Pof x)) (vD_pos _ _) (vD_pos _ _) rfl

theorem near_climb {x y : PartsM} {a b : Nat} (hx : NearS x a) (hy : NearS y b) (gx : Good x) (gy : Good y) (hy0 : zof y ≠ []) (h : ckey (Pof x) (zof x) (Pof y) (zof y) ≤ 0) : a ≤ b := by
  have := ck_le (zof x) (zof y) (Pof x) (Pof y) gx.1 gy.1 hy0 (gy.2 hy0) h
  refine hx.climb hy (vD_pos _ _) (vD_pos _ _) ?_
  rw [Nat.mul_right_comm, Nat.mul_right_comm (vU (zof y) (Pof y))]
  exact Nat.mul_le_mul_right _ this

/-- The rank of a float32. -/
def rk (m : Bool) (b : Nat) : Int := if m then -(b : Int) else (b : Int)

theorem rk_climb {x y : PartsM} {a b : Nat} (hx : NearS x a) (hy : NearS y b) (gx : Good x) (gy : Good y) (h : okey x y ≤ 0) : rk x.1 a ≤ rk y.1 b := by
  have e0 : ∀ (u : PartsM) (c : Nat), NearS u c → (sgn u.1 (zof u) = 0 ∧ c = 0) ∨ (sgn u.1 (zof u) = 1 ∧ u.1 = false ∧ zof u ≠ []) ∨ (sgn u.1 (zof u) = -1 ∧ u.1 = true ∧ zof u ≠ []) := by
    intro u c hu
    by_cases hz : zof u = []
    · left
      refine ⟨?_, near_nought hu hz⟩
      unfold sgn; rw [if_pos hz]
    · right
      unfold sgn
      rw [if_neg hz]
      cases u.1
      · left; exact ⟨rfl, rfl, hz⟩
      · right; exact ⟨rfl, rfl, hz⟩
  have hl := ok_le x y h
  unfold rk
  rcases e0 x a hx with ⟨sx, rfl⟩ | ⟨sx, mx, zx⟩ | ⟨sx, mx, zx⟩ <;> rcases e0 y b hy with ⟨sy, rfl⟩ | ⟨sy, my, zy⟩ | ⟨sy, my, zy⟩
  · split <;> split <;> simp
  · rw [my]; split <;> simp
  · omega
  · omega
  · rw [mx, my]
    rcases hl with hl | hl
    · omega
    · have := near_climb hx hy gx gy zy (by rw [sx] at hl; omega)
      simp; exact this
  · omega
  · rw [mx, if_pos rfl]; split <;> omega
  · rw [mx, my]; simp
  · rw [mx, my]
    rcases hl with hl | hl
    · omega
    · have t := ck_turn (Pof x) (Pof y) (zof x) (zof y)
      have := near_climb hy hx gy gx zx (by rw [sx] at hl; omega)
      simp; exact this

end Go.Proofs.Ytgkbbcoagnilgaa
