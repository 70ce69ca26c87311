import Derived.Test.YtgkbbcoagnilgaaTwW
import Derived.Test.YtgkbbcoagnilgaaValM
import Derived.Test.YtgkbbcoagnilgaaRefRs
namespace Go.Proofs.Ytgkbbcoagnilgaa
open Go.RowKit

theorem num_zz (l : List Nat) (h : ∀ d ∈ l, d < 10) : num (zz l) = lv l := by
  induction l with
  | nil => rfl
  | cons a t ih =>
    have ha := h a (List.mem_cons_self ..)
    have e : zz (a :: t) = zz t ++ [UInt8.ofNat (48 + a)] := by unfold zz; simp
    have e1 : num [UInt8.ofNat (48 + a)] = a := by
      unfold num
      rw [List.length_singleton, dn_cons, ofNat_toNat a ha]
      simp [dn]
    rw [e, num_app, ih (fun d hd => h d (List.mem_cons_of_mem _ hd)), e1]
    show lv t * 10 ^ 1 + a = a + 10 * lv t
    omega

theorem allD_zz (l : List Nat) (h : ∀ d ∈ l, d < 10) : allD (zz l) := zz_dig l h

/-- The first sign of digits without a nought at the top. -/
theorem zz_head {l : List Nat} {V : Nat} (h : Dg l V) (hV : 0 < V) : zz l ≠ [] ∧ dz (zz l) 0 ≠ 0 := by
  have hne : l ≠ [] := fun e => by have := h.val; rw [e] at this; simp [lv] at this; omega
  obtain ⟨t, a, rfl⟩ : ∃ t a, l = t ++ [a] := ⟨l.dropLast, l.getLast hne, (List.dropLast_concat_getLast hne).symm⟩
  have ha := h.dig a (by simp)
  have hlt := lv_lt t (fun d hd => h.dig d (List.mem_append_left _ hd))
  have hv := h.val
  rw [lv_app] at hv
  have htop := h.top hne
  rw [List.length_append, List.length_singleton, Nat.add_sub_cancel] at htop
  have ha0 : a ≠ 0 := fun e => by
    rw [e] at hv
    have : lv [0] = 0 := rfl
    rw [this] at hv
    omega
  have e : zz (t ++ [a]) = UInt8.ofNat (48 + a) :: zz t := by unfold zz; simp
  rw [e]
  refine ⟨by simp, ?_⟩
  unfold dz
  rw [if_pos (by simp)]
  simp only [List.getD_cons_zero]
  rw [ofNat_toNat a ha]
  omega

theorem tr_first {l : List UInt8} (hn : l ≠ []) (h0 : dz l 0 ≠ 0) (hd : allD l) : tr l ≠ [] ∧ dz (tr l) 0 ≠ 0 := by
  obtain ⟨s, hs, h48⟩ := tr_pre l
  have hne : tr l ≠ [] := fun e => by
    rw [e, List.nil_append] at hs
    cases l with
    | nil => exact hn rfl
    | cons a t =>
      have ha : a = 48 := h48 a (by rw [← hs]; exact List.mem_cons_self ..)
      apply h0
      unfold dz
      rw [if_pos (by simp)]
      simp only [List.getD_cons_zero]
      rw [ha]
      rfl
  refine ⟨hne, ?_⟩
  cases hr : tr l with
  | nil => exact absurd hr hne
  | cons a t =>
    rw [hr] at hs
    intro e
    apply h0
    rw [hs]
    unfold dz at e ⊢
    rw [if_pos (by simp)] at e ⊢
    simpa using e

/-- The value of digits that Twice made: V times ten to the O less their number. -/
theorem tw_val (l : List Nat) (V : Nat) (h : Dg l V) (E : Nat) : vU (tr (zz l)) ((l.length : Int) - E) * 10 ^ E = V * vD (tr (zz l)) ((l.length : Int) - E) := by
  have h1 := num_tr (zz l)
  rw [num_zz l h.dig, h.val] at h1
  have h2 : (tr (zz l)).length ≤ l.length := by
    obtain ⟨s, hs, _⟩ := tr_pre (zz l)
    have : (zz l).length = (tr (zz l)).length + s.length := by rw [← List.length_append, ← hs]
    rw [zz_len] at this
    omega
  rw [zz_len] at h1
  generalize tr (zz l) = z at h1 h2
  rw [h1]
  unfold vU vD
  have e3 : dn z z.length = num z := rfl
  rw [e3]
  by_cases c : l.length - z.length ≤ E
  · rw [show ((l.length : Int) - E - (z.length : Int)).toNat = 0 by omega, Nat.pow_zero, Nat.mul_one, Nat.mul_assoc, ← Nat.pow_add]
    congr 2
    omega
  · rw [show ((z.length : Int) - ((l.length : Int) - E)).toNat = 0 by omega, Nat.pow_zero, Nat.mul_one, Nat.mul_assoc, ← Nat.pow_add]
    congr 2
    omega

/-- A middle's digits and their power. -/
structure MidD (b : Nat) (z : List UInt8) (O : Int) : Prop where
  dig : allD z
  ne : z ≠ []
  fst : dz z 0 ≠ 0
  nt : NT z
  val : 2 * (vU z O * 2 ^ 160) = vD z O * (FV b + FV (b + 1))
  len : z.length ≤ 200
  o1 : -1000 ≤ O
  o2 : O ≤ 1000

theorem fv_two (b : Nat) : FV b + FV (b + 1) = (2 * fM b + 1) * 2 ^ fP b := by
  rw [FV_succ]
  unfold FV
  rw [← Nat.add_mul]
  congr 1
  omega

theorem mid_neg (b T : Nat) (l : List Nat) (hT : fP b + T = 161) (h : Dg l ((2 * fM b + 1) * 5 ^ T)) (hl : l.length ≤ 200) : MidD b (tr (zz l)) ((l.length : Int) + -(T : Int)) := by
  have hV : 0 < (2 * fM b + 1) * 5 ^ T := Nat.mul_pos (by omega) (Nat.pow_pos (by decide))
  obtain ⟨z1, z2⟩ := zz_head h hV
  obtain ⟨t1, t2⟩ := tr_first z1 z2 (allD_zz l h.dig)
  have hlen : (tr (zz l)).length ≤ l.length := by
    obtain ⟨s, hs, _⟩ := tr_pre (zz l)
    have : (zz l).length = (tr (zz l)).length + s.length := by rw [← List.length_append, ← hs]
    rw [zz_len] at this
    omega
  refine ⟨allD_tr (allD_zz l h.dig), t1, t2, tr_nt _, ?_, by omega, by omega, by omega⟩
  have hv := tw_val l _ h T
  rw [show (l.length : Int) + -(T : Int) = (l.length : Int) - T by omega, fv_two]
  generalize vU (tr (zz l)) ((l.length : Int) - T) = U at hv
  generalize vD (tr (zz l)) ((l.length : Int) - T) = D at hv
  have hp : 0 < 10 ^ T := Nat.pow_pos (by decide)
  apply Nat.eq_of_mul_eq_mul_right hp
  have e10 : (10 : Nat) ^ T = 2 ^ T * 5 ^ T := by rw [← Nat.mul_pow]
  have e161 : 2 * 2 ^ 160 = 2 ^ fP b * 2 ^ T := by rw [← Nat.pow_add, hT]
  have a1 : 2 * (U * 2 ^ 160) * 10 ^ T = U * 10 ^ T * (2 * 2 ^ 160) := by ac_rfl
  rw [a1, hv, e161, e10]
  ac_rfl

theorem mid_pos (b T : Nat) (l : List Nat) (hT : fP b = 161 + T) (_hT2 : T ≤ 200) (h : Dg l ((2 * fM b + 1) * 2 ^ T)) (hl : l.length ≤ 200) : MidD b (tr (zz l)) ((l.length : Int) + 0) := by
  have hV : 0 < (2 * fM b + 1) * 2 ^ T := Nat.mul_pos (by omega) (Nat.pow_pos (by decide))
  obtain ⟨z1, z2⟩ := zz_head h hV
  obtain ⟨t1, t2⟩ := tr_first z1 z2 (allD_zz l h.dig)
  have hlen : (tr (zz l)).length ≤ l.length := by
    obtain ⟨s, hs, _⟩ := tr_pre (zz l)
    have : (zz l).length = (tr (zz l)).length + s.length := by rw [← List.length_append, ← hs]
    rw [zz_len] at this
    omega
  refine ⟨allD_tr (allD_zz l h.dig), t1, t2, tr_nt _, ?_, by omega, by omega, by omega⟩
  have hv := tw_val l _ h 0
  rw [show (l.length : Int) + 0 = (l.length : Int) - (0 : Nat) by omega, fv_two]
  generalize vU (tr (zz l)) ((l.length : Int) - (0 : Nat)) = U at hv
  generalize vD (tr (zz l)) ((l.length : Int) - (0 : Nat)) = D at hv
  rw [Nat.pow_zero, Nat.mul_one] at hv
  have e : 2 ^ fP b = 2 * 2 ^ 160 * 2 ^ T := by rw [hT, Nat.pow_add]
  rw [hv, e]
  ac_rfl

/-- Halving comes to the nearest. -/
theorem rnd_halve {num den b0 mid : Nat} (h : Rnd num den b0) (hden : 0 < den) (hm : mid < 2139095040) :
    (2 * num < den * (FV mid + FV (mid + 1)) ∨ 2 * num = den * (FV mid + FV (mid + 1)) ∧ mid % 2 = 0) ↔ b0 ≤ mid := by
  have mono : ∀ a b, a < b → den * (FV a + FV (a + 1)) < den * (FV b + FV (b + 1)) := fun a b hab => by
    apply Nat.mul_lt_mul_of_pos_left _ hden
    have := FV_strict hab
    have := FV_strict (show a + 1 < b + 1 by omega)
    omega
  constructor
  · intro hc
    apply Nat.le_of_not_lt
    intro hlt
    obtain ⟨a, rfl⟩ : ∃ a, b0 = a + 1 := ⟨b0 - 1, by omega⟩
    have hl := h.2.1 a rfl
    by_cases e : mid = a
    · subst e
      omega
    · have := mono mid a (by omega)
      omega
  · intro hle
    have hu := h.2.2 (by omega)
    by_cases e : b0 = mid
    · subst e; exact hu
    · have := mono b0 mid (by omega)
      left
      omega

end Go.Proofs.Ytgkbbcoagnilgaa
