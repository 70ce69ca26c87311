import Derived.Test.YtgkbbcoagnilgaaNear
import Derived.Test.YtgkbbcoagnilgaaCmpM
namespace Go.Proofs.Ytgkbbcoagnilgaa
open Go.RowKit

/-- The exponent that is written. -/
def Ev (p : Bool) (d : List UInt8) : Int := tv (sd p d) (sd false []) (max d.length ([] : List UInt8).length) 0

/-- The digits' power of ten. -/
def Pof (x : PartsM) : Int := oof x + Ev x.2.2.2.1 x.2.2.2.2

/-- The nearest float32 of a number without its sign. -/
def NearS (x : PartsM) (b : Nat) : Prop := Rnd (vU (zof x) (Pof x) * 2 ^ 160) (vD (zof x) (Pof x)) b

theorem cmp3_lt {a b : Int} (h : cmp3 a 0 = cmp3 b 0) : (a < 0 ↔ b < 0) ∧ (0 < a ↔ 0 < b) ∧ (a = 0 ↔ b = 0) := by
  unfold cmp3 at h
  split at h
  · split at h
    · omega
    · split at h <;> omega
  · split at h
    · split at h
      · omega
      · split at h <;> omega
    · split at h
      · omega
      · split at h <;> omega

theorem ev_sign (p : Bool) (d : List UInt8) (hd : allD d) (K : Int) (h1 : -1099511627000 ≤ K) (h2 : K ≤ 1099511627000) : (K + dif0 p d false [] < 0 ↔ K + Ev p d < 0) ∧ (0 < K + dif0 p d false [] ↔ 0 < K + Ev p d) ∧ (K + dif0 p d false [] = 0 ↔ K + Ev p d = 0) :=
  cmp3_lt (dif_sign _ _ (fun k => sd_bd p d k hd) (fun k => sd_bd false [] k (fun c hc => by simp at hc)) K h1 h2 _ 0)

theorem rnd_true (z d : List UInt8) (p : Bool) (o : Int) (b : Nat) (hz : allD z) (hd : allD d) (h0 : z ≠ [] → dz z 0 ≠ 0) (ho1 : -1099511626000 ≤ o) (ho2 : o ≤ 1099511626000)
    (h : Rnd (vU z (o + dif0 p d false []) * 2 ^ 160) (vD z (o + dif0 p d false [])) b) : Rnd (vU z (o + Ev p d) * 2 ^ 160) (vD z (o + Ev p d)) b := by
  by_cases hn : z = []
  · have e := h.one (rnd_zero z hn (o + dif0 p d false [])) (vD_pos _ _) (vD_pos _ _) rfl
    rw [e]
    exact rnd_zero z hn _
  · have s1 := ev_sign p d hd (o + 45) (by omega) (by omega)
    have s2 := ev_sign p d hd (o - 39) (by omega) (by omega)
    generalize hD : dif0 p d false [] = D at h s1 s2
    by_cases c1 : o + D < -45
    · have e := h.one (rnd_low z hz (o + D) c1) (vD_pos _ _) (vD_pos _ _) rfl
      rw [e]
      exact rnd_low z hz _ (by omega)
    · by_cases c2 : 39 < o + D
      · have e := h.one (rnd_high z hn (h0 hn) (o + D) c2) (vD_pos _ _) (vD_pos _ _) rfl
        rw [e]
        exact rnd_high z hn (h0 hn) _ (by omega)
      · have s3 := ev_sign p d hd (-D) (by omega) (by omega)
        rw [hD] at s3
        have e : Ev p d = D := by omega
        rw [e]
        exact h

theorem tl_head (l : List UInt8) (h : tl l ≠ []) : ∃ x y, tl l = x :: y ∧ x ≠ 48 := by
  unfold tl at h ⊢
  induction l with
  | nil => exact absurd rfl h
  | cons a t ih =>
    rw [List.dropWhile_cons] at h ⊢
    by_cases ha : (a == 48) = true
    · rw [if_pos ha] at h ⊢; exact ih h
    · rw [if_neg ha]
      exact ⟨a, t, rfl, by simpa using ha⟩

theorem tr_pre (l : List UInt8) : ∃ s, l = tr l ++ s ∧ ∀ c ∈ s, c = 48 := by
  obtain ⟨z, hz, h48⟩ := tl_split l.reverse
  refine ⟨z.reverse, ?_, fun c hc => h48 c (by simpa using hc)⟩
  unfold tr
  rw [← List.reverse_append, ← hz, List.reverse_reverse]

theorem allD_tr {l : List UInt8} (h : allD l) : allD (tr l) := fun c hc => by
  obtain ⟨s, hs, _⟩ := tr_pre l
  exact h c (by rw [hs]; exact List.mem_append_left _ hc)

theorem tr_head (l : List UInt8) (h : tr (tl l) ≠ []) (hd : allD l) : dz (tr (tl l)) 0 ≠ 0 := by
  obtain ⟨s, hs, _⟩ := tr_pre (tl l)
  have hn : tl l ≠ [] := fun e => h (by rw [e]; rfl)
  obtain ⟨x, y, e1, hx⟩ := tl_head l hn
  have hxD := allD_tl hd x (by rw [e1]; exact List.mem_cons_self ..)
  cases hr : tr (tl l) with
  | nil => exact absurd hr h
  | cons a t =>
    rw [hr, e1] at hs
    have hax : x = a := by injection hs
    subst hax
    unfold dz
    rw [if_pos (by simp)]
    simp only [List.getD_cons_zero]
    have := isD_bd hxD
    have : x.toNat ≠ 48 := fun e => hx (UInt8.toNat_inj.1 e)
    omega

end Go.Proofs.Ytgkbbcoagnilgaa
