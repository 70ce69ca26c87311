import Derived.Test.YtgkbbcoagnilgaaComp4
import Derived.Test.YtgkbbcoagnilgaaRefSz
namespace Go.Proofs.Ytgkbbcoagnilgaa
open Go.RowKit

/-- What the document's Compare answers of two numbers: one of them below 0, both, none. -/
def cmpRV' (up dn : Bool) (s : Int) : Int := if up = dn then (if up then -s else s) else (if up then -1 else 1)

/-- The value of n places, with x ahead of them. -/
def tv (a b : Nat → Int) : Nat → Int → Int
  | 0, x => x
  | n + 1, x => tv a b n (10 * x + a n - b n)

theorem tv_bd (a b : Nat → Int) (ha : ∀ k, -9 ≤ a k ∧ a k ≤ 9) (hb : ∀ k, -9 ≤ b k ∧ b k ≤ 9) : ∀ (n : Nat) (x : Int), (2 < x → x - 2 ≤ tv a b n x) ∧ (x < -2 → tv a b n x ≤ x + 2)
  | 0, x => by unfold tv; omega
  | n + 1, x => by
    have h1 := ha n
    have h2 := hb n
    have ih := tv_bd a b ha hb n (10 * x + a n - b n)
    unfold tv
    constructor
    · intro h
      have := ih.1 (by omega)
      omega
    · intro h
      have := ih.2 (by omega)
      omega

theorem cmp3_pos {a : Int} (h : 0 < a) : cmp3 a 0 = 1 := by unfold cmp3; rw [if_neg (by omega), if_pos h]
theorem cmp3_neg {a : Int} (h : a < 0) : cmp3 a 0 = -1 := by unfold cmp3; rw [if_pos h]
theorem cmp3_zero : cmp3 0 0 = 0 := rfl

theorem dif_sign (a b : Nat → Int) (ha : ∀ k, -9 ≤ a k ∧ a k ≤ 9) (hb : ∀ k, -9 ≤ b k ∧ b k ≤ 9) (K : Int) (hK1 : -1099511627000 ≤ K) (hK2 : K ≤ 1099511627000) : ∀ (n : Nat) (x : Int), cmp3 (K + dif a b n x) 0 = cmp3 (K + tv a b n x) 0
  | 0, x => by unfold dif tv; rfl
  | n + 1, x => by
    have e : 10 * x + a n - b n = x * 10 + a n - b n := by omega
    by_cases h : x * 10 + a n - b n < -1099511627776 ∨ 1099511627776 < x * 10 + a n - b n
    · rw [dif_out a b n x h]
      have hb := tv_bd a b ha hb n (10 * x + a n - b n)
      show _ = cmp3 (K + tv a b n (10 * x + a n - b n)) 0
      rcases h with h | h
      · have := hb.2 (by omega)
        rw [cmp3_neg (by omega), cmp3_neg (by omega)]
      · have := hb.1 (by omega)
        rw [cmp3_pos (by omega), cmp3_pos (by omega)]
    · rw [dif_in a b n x h]
      show _ = cmp3 (K + tv a b n (10 * x + a n - b n)) 0
      rw [e]
      exact dif_sign a b ha hb K hK1 hK2 n _

theorem apL_sign (a b : Nat → Int) (ha : ∀ k, -9 ≤ a k ∧ a k ≤ 9) (hb : ∀ k, -9 ≤ b k ∧ b k ≤ 9) (K : Int) (hK1 : -1099511627000 ≤ K) (hK2 : K ≤ 1099511627000) : ∀ (n : Nat) (x : Int), cmp3 (apL a b K n x) 0 = cmp3 (K + tv a b n x) 0
  | 0, x => by unfold apL tv; rw [Int.add_comm]
  | n + 1, x => by
    have hb' := tv_bd a b ha hb n (10 * x + a n - b n)
    show _ = cmp3 (K + tv a b n (10 * x + a n - b n)) 0
    by_cases h1 : 1000000000000000 < 10 * x + a n - b n
    · rw [apL_hi a b K n x h1]
      have := hb'.1 (by omega)
      rw [cmp3_pos (by omega), cmp3_pos (by omega)]
    · by_cases h2 : 10 * x + a n - b n < -1000000000000000
      · rw [apL_lo a b K n x h1 h2]
        have := hb'.2 (by omega)
        rw [cmp3_neg (by omega), cmp3_neg (by omega)]
      · rw [apL_in a b K n x h1 h2]
        exact apL_sign a b ha hb K hK1 hK2 n _

theorem tl_split (d : List UInt8) : ∃ z : List UInt8, d = z ++ tl d ∧ ∀ c ∈ z, c = 48 := by
  unfold tl
  induction d with
  | nil => exact ⟨[], rfl, fun c hc => by simp at hc⟩
  | cons x y ih =>
    rw [List.dropWhile_cons]
    by_cases h : (x == 48) = true
    · rw [if_pos h]
      obtain ⟨z, hz, h48⟩ := ih
      refine ⟨x :: z, by rw [List.cons_append, ← hz], fun c hc => ?_⟩
      rcases List.mem_cons.1 hc with e | e
      · rw [e]; simpa using h
      · exact h48 c e
    · rw [if_neg h]
      exact ⟨[], rfl, fun c hc => by simp at hc⟩

theorem sd_tl (p : Bool) (d : List UInt8) (k : Nat) : sd p (tl d) k = sd p d k := by
  obtain ⟨z, hz, h48⟩ := tl_split d
  generalize tl d = t at hz
  subst hz
  unfold sd
  rw [List.length_append]
  by_cases h1 : t.length ≤ k
  · rw [if_pos h1]
    by_cases h2 : z.length + t.length ≤ k
    · rw [if_pos h2]
    · rw [if_neg h2]
      have hj : z.length + t.length - 1 - k < z.length := by omega
      have e : (z ++ t).getD (z.length + t.length - 1 - k) 48 = 48 := by
        rw [List.getD_eq_getElem?_getD, List.getElem?_append_left hj, List.getElem?_eq_getElem hj, Option.getD_some]
        exact h48 _ (List.getElem_mem hj)
      rw [e]
      cases p <;> rfl
  · have h3 : ¬ z.length + t.length ≤ k := by omega
    rw [if_neg h1, if_neg h3]
    have e : (z ++ t).getD (z.length + t.length - 1 - k) 48 = t.getD (t.length - 1 - k) 48 := by
      rw [List.getD_eq_getElem?_getD, List.getElem?_append_right (by omega), List.getD_eq_getElem?_getD]
      congr 2
      omega
    rw [e]

theorem sd_hi (p : Bool) (d : List UInt8) (k : Nat) (h : d.length ≤ k) : sd p d k = 0 := by unfold sd; rw [if_pos h]

/-- Places that hold nothing change nothing. -/
theorem dif_skip (a b : Nat → Int) (N : Nat) (ha : ∀ k, N ≤ k → a k = 0) (hb : ∀ k, N ≤ k → b k = 0) : ∀ m, dif a b (N + m) 0 = dif a b N 0
  | 0 => rfl
  | m + 1 => by
    have h1 := ha (N + m) (by omega)
    have h2 := hb (N + m) (by omega)
    show dif a b ((N + m) + 1) 0 = _
    rw [dif_in a b (N + m) 0 (by rw [h1, h2]; omega), h1, h2]
    exact dif_skip a b N ha hb m

theorem dif0_tl (px : Bool) (dx : List UInt8) (py : Bool) (dy : List UInt8) : dif0 px dx py dy = dif (sd px (tl dx)) (sd py (tl dy)) (max (tl dx).length (tl dy).length) 0 := by
  have e1 : sd px (tl dx) = sd px dx := funext fun k => sd_tl px dx k
  have e2 : sd py (tl dy) = sd py dy := funext fun k => sd_tl py dy k
  have l1 := tl_len dx
  have l2 := tl_len dy
  unfold dif0
  obtain ⟨m, hm⟩ : ∃ m, max dx.length dy.length = max (tl dx).length (tl dy).length + m := ⟨max dx.length dy.length - max (tl dx).length (tl dy).length, by omega⟩
  rw [hm, ← e1, ← e2]
  refine dif_skip _ _ _ (fun k hk => sd_hi _ _ _ (by omega)) (fun k hk => sd_hi _ _ _ (by omega)) m

theorem allD_tl {d : List UInt8} (h : allD d) : allD (tl d) := fun c hc => h c (by
  obtain ⟨z, hz, _⟩ := tl_split d
  rw [hz]; exact List.mem_append_right _ hc)

/-- The two ways of comparing are one. -/
theorem gap_sign (px : Bool) (dx : List UInt8) (py : Bool) (dy : List UInt8) (ox oy : Int) (hx : allD dx) (hy : allD dy) (h1 : -1099511627000 ≤ ox - oy) (h2 : ox - oy ≤ 1099511627000) :
    cmp3 (ox - oy + dif0 px dx py dy) 0 = cmp3 (apL (sd px (tl dx)) (sd py (tl dy)) (ox - oy) (max (tl dx).length (tl dy).length) 0) 0 := by
  rw [dif0_tl, dif_sign _ _ (fun k => sd_bd px _ k (allD_tl hx)) (fun k => sd_bd py _ k (allD_tl hy)) _ h1 h2, apL_sign _ _ (fun k => sd_bd px _ k (allD_tl hx)) (fun k => sd_bd py _ k (allD_tl hy)) _ h1 h2]

theorem csz_size (zx : List UInt8) (px : Bool) (dx : List UInt8) (zy : List UInt8) (py : Bool) (dy : List UInt8) (ox oy : Int) (hx : allD dx) (hy : allD dy) (h1 : -1099511627000 ≤ ox - oy) (h2 : ox - oy ≤ 1099511627000) (hzx : zx ≠ []) (hzy : zy ≠ []) :
    csz zx ox px dx zy oy py dy = sizeV zx zy (apL (sd px (tl dx)) (sd py (tl dy)) (ox - oy) (max (tl dx).length (tl dy).length) 0) := by
  have hg := gap_sign px dx py dy ox oy hx hy h1 h2
  unfold csz sizeV
  rw [if_neg hzx, if_neg hzy]
  generalize apL (sd px (tl dx)) (sd py (tl dy)) (ox - oy) (max (tl dx).length (tl dy).length) 0 = A at hg
  generalize ox - oy + dif0 px dx py dy = G at hg
  by_cases g1 : G < 0
  · rw [cmp3_neg g1] at hg
    have hA : A < 0 := by
      by_cases h : A < 0
      · exact h
      · by_cases h' : 0 < A
        · rw [cmp3_pos h'] at hg; omega
        · obtain rfl : A = 0 := by omega
          rw [cmp3_zero] at hg; omega
    rw [if_pos (by omega), cmp3_neg g1, if_pos hA]
  · by_cases g2 : 0 < G
    · rw [cmp3_pos g2] at hg
      have hA : 0 < A := by
        by_cases h : 0 < A
        · exact h
        · by_cases h' : A < 0
          · rw [cmp3_neg h'] at hg; omega
          · obtain rfl : A = 0 := by omega
            rw [cmp3_zero] at hg; omega
      rw [if_pos (by omega), cmp3_pos g2, if_neg (by omega), if_pos hA]
    · obtain rfl : G = 0 := by omega
      rw [cmp3_zero] at hg
      have hA : A = 0 := by
        by_cases h : 0 < A
        · rw [cmp3_pos h] at hg; omega
        · by_cases h' : A < 0
          · rw [cmp3_neg h'] at hg; omega
          · omega
      rw [if_neg (by omega), if_neg (by omega), if_neg (by omega)]

theorem isE_nil (z : List UInt8) : (!z.isEmpty) = decide (z ≠ []) := by cases z <;> simp

/-- The document's Compare of two numbers is the program's. -/
theorem cmp_same (mx my px py : Bool) (zx dx zy dy : List UInt8) (ox oy : Int) (hx : allD dx) (hy : allD dy) (h1 : -1099511627000 ≤ ox - oy) (h2 : ox - oy ≤ 1099511627000) :
    (if sgn mx zx = sgn my zy then sgn mx zx * csz zx ox px dx zy oy py dy else cmp3 (sgn mx zx) (sgn my zy)) =
      cmpRV' (mx && !zx.isEmpty) (my && !zy.isEmpty) (sizeV zx zy (apL (sd px (tl dx)) (sd py (tl dy)) (ox - oy) (max (tl dx).length (tl dy).length) 0)) := by
  have hs := csz_size zx px dx zy py dy ox oy hx hy h1 h2
  rw [isE_nil, isE_nil]
  by_cases e1 : zx = []
  · by_cases e2 : zy = []
    · subst e1; subst e2
      cases mx <;> cases my <;> simp [sgn, cmpRV', sizeV]
    · subst e1
      have hS : sizeV [] zy (apL (sd px (tl dx)) (sd py (tl dy)) (ox - oy) (max (tl dx).length (tl dy).length) 0) = -1 := by unfold sizeV; rw [if_pos rfl, if_neg e2]
      rw [hS]
      cases mx <;> cases my <;> simp [sgn, cmpRV', e2, cmp3]
  · by_cases e2 : zy = []
    · subst e2
      have hS : sizeV zx [] (apL (sd px (tl dx)) (sd py (tl dy)) (ox - oy) (max (tl dx).length (tl dy).length) 0) = 1 := by unfold sizeV; rw [if_neg e1, if_pos rfl]
      rw [hS]
      cases mx <;> cases my <;> simp [sgn, cmpRV', e1, cmp3]
    · rw [hs e1 e2]
      cases mx <;> cases my <;> simp [sgn, cmpRV', e1, e2, cmp3]

end Go.Proofs.Ytgkbbcoagnilgaa
