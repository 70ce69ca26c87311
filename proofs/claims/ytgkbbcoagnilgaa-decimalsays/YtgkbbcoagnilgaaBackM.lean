import Derived.Test.YtgkbbcoagnilgaaClimbM
namespace Go.Proofs.Ytgkbbcoagnilgaa
open Go.RowKit

theorem digs_app (g r : List UInt8) (hg : allD g) (hr : ∀ c t, r = c :: t → isD c = false) : digs (g ++ r) = g ∧ rst (g ++ r) = r := by
  have hn : nd (g ++ r) = g.length := by
    unfold nd
    rw [List.findIdx_append]
    have h1 : List.findIdx (fun c => !isD c) g = g.length := by
      rw [List.findIdx_eq_length]
      intro x hx
      rw [hg x hx]; rfl
    rw [h1, if_neg (Nat.lt_irrefl _)]
    cases r with
    | nil => simp
    | cons c t =>
      rw [List.findIdx_cons, hr c t rfl]
      simp
  unfold digs rst
  rw [hn]
  simp

/-- The text of a sign, digits, and digits behind a dot. -/
def txt (m : Bool) (g f : List UInt8) : List UInt8 := (if m then [45] else []) ++ (g ++ if f = [] then [] else 46 :: f)

theorem pcut_txt (m : Bool) (g f : List UInt8) (hg : allD g) (hf : allD f) (h0 : g ≠ []) (hb : badW g = false) : pcut (txt m g f) = some (m, g, f, false, []) := by
  obtain ⟨a, g', rfl⟩ : ∃ a g', g = a :: g' := by
    cases g with
    | nil => exact absurd rfl h0
    | cons a g' => exact ⟨a, g', rfl⟩
  have ha := isD_bd (hg a (List.mem_cons_self ..))
  have ha45 : a ≠ 45 := fun e => by rw [e] at ha; exact absurd ha.1 (by decide)
  have hdec : decide ((txt m (a :: g') f).head? = some 45) = m := by
    unfold txt
    cases m
    · simp [ha45]
    · simp
  have hcut : cutL (txt m (a :: g') f) = a :: g' ++ (if f = [] then [] else 46 :: f) := by
    unfold cutL txt
    cases m
    · simp [ha45]
    · simp
  unfold pcut pcut1
  rw [hdec, hcut]
  by_cases hfe : f = []
  · subst hfe
    obtain ⟨e1, e2⟩ := digs_app (a :: g') [] hg (fun c t h => by cases h)
    rw [if_pos rfl, e1, e2]
    unfold pcut2
    rw [if_neg (by rw [hb]; decide)]
    rfl
  · obtain ⟨e1, e2⟩ := digs_app (a :: g') (46 :: f) hg (fun c t h => by cases h; rfl)
    obtain ⟨e3, e4⟩ := digs_app f [] hf (fun c t h => by cases h)
    rw [List.append_nil] at e3 e4
    rw [if_neg hfe, e1, e2]
    unfold pcut2
    rw [if_neg (by rw [hb]; decide)]
    have e5 : cutF (46 :: f) = (f, [], true) := by
      unfold cutF
      simp [e3, e4, hfe]
    rw [e5]
    rfl

theorem dn_take (l s : List UInt8) : ∀ j, j ≤ l.length → dn (l ++ s) j = dn l j
  | 0, _ => rfl
  | j + 1, h => by
    show 10 * dn (l ++ s) j + dz (l ++ s) j = 10 * dn l j + dz l j
    rw [dn_take l s j (by omega)]
    congr 1
    unfold dz
    rw [if_pos (by rw [List.length_append]; omega), if_pos (by omega), List.getD_eq_getElem?_getD, List.getElem?_append_left (by omega), ← List.getD_eq_getElem?_getD]

/-- The number of digits. -/
def num (l : List UInt8) : Nat := dn l l.length

theorem num_app (l s : List UInt8) : num (l ++ s) = num l * 10 ^ s.length + num s := by
  unfold num
  induction l with
  | nil => simp [dn_nil]
  | cons a l ih =>
    rw [List.cons_append, List.length_cons, dn_cons, ih, List.length_cons, dn_cons, List.length_append, Nat.add_mul, Nat.mul_assoc, Nat.pow_add, Nat.add_assoc]

theorem num_noughts (s : List UInt8) (h : ∀ c ∈ s, c = 48) : num s = 0 := by
  induction s with
  | nil => rfl
  | cons a s ih =>
    have ha : a = 48 := h a (List.mem_cons_self ..)
    have := ih (fun c hc => h c (List.mem_cons_of_mem _ hc))
    unfold num at this ⊢
    rw [List.length_cons, dn_cons, this, ha]
    simp

theorem num_tl (l : List UInt8) : num (tl l) = num l := by
  obtain ⟨z, hz, h48⟩ := tl_split l
  have e : num l = num (z ++ tl l) := by rw [← hz]
  rw [e, num_app, num_noughts z h48]
  simp

theorem num_tr (l : List UInt8) : num l = num (tr l) * 10 ^ (l.length - (tr l).length) := by
  obtain ⟨s, hs, h48⟩ := tr_pre l
  have e : num l = num (tr l ++ s) := by rw [← hs]
  have e2 : l.length = (tr l).length + s.length := by rw [← List.length_append, ← hs]
  rw [e, num_app, num_noughts s h48, Nat.add_zero, e2, Nat.add_sub_cancel_left]

/-- The value of digits ahead of a dot and behind it. -/
theorem val_txt (m : Bool) (g f : List UInt8) : vU (zof (m, g, f, false, [])) (Pof (m, g, f, false, [])) * 10 ^ f.length = num (g ++ f) * vD (zof (m, g, f, false, [])) (Pof (m, g, f, false, [])) := by
  have e1 : zof (m, g, f, false, []) = tr (tl (g ++ f)) := rfl
  have e2 : Pof (m, g, f, false, []) = (g.length : Int) - (((g ++ f).length : Int) - ((tl (g ++ f)).length : Int)) := by
    show oof _ + Ev false [] = _
    rw [show Ev false [] = 0 from by decide, Int.add_zero]
    rfl
  rw [e1, e2, List.length_append]
  have h1 := num_tr (tl (g ++ f))
  rw [num_tl] at h1
  have h2 : (tr (tl (g ++ f))).length ≤ (tl (g ++ f)).length := by
    obtain ⟨s, hs, _⟩ := tr_pre (tl (g ++ f))
    have : (tl (g ++ f)).length = (tr (tl (g ++ f))).length + s.length := by rw [← List.length_append, ← hs]
    omega
  generalize (tl (g ++ f)).length = n at h1 h2
  generalize tr (tl (g ++ f)) = z at h1 h2
  rw [h1]
  unfold vU vD
  have e3 : dn z z.length = num z := rfl
  rw [e3]
  by_cases c : n - z.length ≤ f.length
  · rw [show ((g.length : Int) - (((g.length + f.length : Nat) : Int) - (n : Int)) - (z.length : Int)).toNat = 0 by omega]
    rw [Nat.pow_zero, Nat.mul_one, Nat.mul_assoc, ← Nat.pow_add]
    congr 2
    omega
  · rw [show ((z.length : Int) - ((g.length : Int) - (((g.length + f.length : Nat) : Int) - (n : Int)))).toNat = 0 by omega]
    rw [Nat.pow_zero, Nat.mul_one, Nat.mul_assoc, ← Nat.pow_add]
    congr 2
    omega

/-- Digits whose value is a float32's have it as the nearest. -/
theorem rnd_self (s D : Nat) (hD : 0 < D) (hs : s ≤ 2139095040) : Rnd (FV s * D) D s := by
  refine ⟨hs, fun a ha => .inl ?_, fun _ => .inl ?_⟩
  · subst ha
    have := Nat.mul_lt_mul_of_pos_left (FV_lt a) hD
    rw [Nat.mul_add, Nat.mul_comm (FV (a + 1))]
    omega
  · have := Nat.mul_lt_mul_of_pos_left (FV_lt s) hD
    rw [Nat.mul_add, Nat.mul_comm (FV s) D]
    omega

theorem near_self (m : Bool) (g f : List UInt8) (s : Nat) (hs : s ≤ 2139095040) (h : num (g ++ f) * 2 ^ 160 = 10 ^ f.length * FV s) : NearS (m, g, f, false, []) s := by
  have hv := val_txt m g f
  unfold NearS
  generalize zof (m, g, f, false, []) = z at hv
  generalize Pof (m, g, f, false, []) = P at hv
  have e : vU z P * 2 ^ 160 = FV s * vD z P := by
    have hp : 0 < 10 ^ f.length := Nat.pow_pos (by decide)
    apply Nat.eq_of_mul_eq_mul_right hp
    rw [Nat.mul_right_comm, hv, Nat.mul_right_comm, h, Nat.mul_right_comm, Nat.mul_comm (10 ^ f.length), Nat.mul_right_comm]
    rw [Nat.mul_right_comm, Nat.mul_comm (vD z P * 10 ^ f.length), Nat.mul_assoc]
  rw [e]
  exact rnd_self s (vD z P) (vD_pos z P) hs

/-- The digits behind the dot are the fraction, whole. -/
theorem frF_val (N : Nat) (hN : N = 2 ^ 160) : ∀ n v, n ≤ 160 → v < N → 2 ^ (160 - n) ∣ v → v * 10 ^ (frF N n v).length = num (frF N n v) * N ∧ allD (frF N n v) ∧ (∀ c t, frF N n v = t ++ [c] → c ≠ 48)
  | 0, v, _, hv, hd => by
    have h0 : v = 0 := by
      rcases Nat.eq_zero_or_pos v with h | h
      · exact h
      · have := Nat.le_of_dvd h hd
        rw [hN] at hv
        simp only [Nat.sub_zero] at this
        omega
    subst h0
    exact ⟨by simp [frF, num, dn], fun c hc => by simp [frF] at hc, fun c t h => by simp [frF] at h⟩
  | n + 1, v, hn, hv, hd => by
    by_cases h0 : v = 0
    · subst h0
      rw [frF_zero]
      exact ⟨by simp [num, dn], fun c hc => by simp at hc, fun c t h => by simp at h⟩
    · have hN0 : 0 < N := by omega
      have hq : 10 * v % N < N := Nat.mod_lt _ hN0
      have hr : 10 * v / N < 10 := Nat.div_lt_of_lt_mul (by omega)
      have hdv : 2 ^ (160 - n) ∣ 10 * v % N := by
        refine (Nat.dvd_mod_iff ?_).2 ?_
        · rw [hN]; exact Nat.pow_dvd_pow 2 (by omega)
        · have h2 : 2 ^ (160 - n) = 2 ^ (160 - (n + 1)) * 2 := by rw [← Nat.pow_succ]; congr 1; omega
          rw [h2, Nat.mul_comm 10 v]
          exact Nat.mul_dvd_mul hd (by decide)
      obtain ⟨i1, i2, i3⟩ := frF_val N hN n (10 * v % N) (by omega) hq hdv
      have hdm := Nat.div_add_mod (10 * v) N
      have e : frF N (n + 1) v = UInt8.ofNat (48 + 10 * v / N) :: frF N n (10 * v % N) := by
        show (if v = 0 then [] else _) = _
        rw [if_neg h0]
      have ht := ofNat_toNat (10 * v / N) hr
      rw [e]
      generalize 10 * v / N = d at hdm hr ht
      generalize hv2 : 10 * v % N = v2 at hdm i1 i2 i3
      refine ⟨?_, ?_, ?_⟩
      · rw [List.length_cons, Nat.pow_succ]
        have e1 : num (UInt8.ofNat (48 + d) :: frF N n v2) = d * 10 ^ (frF N n v2).length + num (frF N n v2) := by
          unfold num
          rw [List.length_cons, dn_cons, ht, Nat.add_sub_cancel_left]
        rw [e1, Nat.add_mul, ← i1]
        have e2 : v * (10 ^ (frF N n v2).length * 10) = 10 * v * 10 ^ (frF N n v2).length := by rw [Nat.mul_comm (10 ^ _) 10, ← Nat.mul_assoc, Nat.mul_comm v 10]
        rw [e2, ← hdm, Nat.add_mul, Nat.mul_comm N d, Nat.mul_right_comm]
      · intro c hc
        rcases List.mem_cons.1 hc with h | h
        · rw [h]
          unfold isD
          rw [ht]
          simp
          omega
        · exact i2 c h
      · intro c t h
        cases t with
        | nil =>
          simp only [List.nil_append, List.cons.injEq] at h
          obtain ⟨h1, h2⟩ := h
          have hnum : num (frF N n v2) = 0 := by rw [h2]; rfl
          rw [hnum, h2] at i1
          simp at i1
          intro hc
          rw [← h1] at hc
          have hd0 : d = 0 := by
            have := congrArg UInt8.toNat hc
            rw [ht] at this
            have e48 : (48 : UInt8).toNat = 48 := by decide
            omega
          rw [hd0, i1] at hdm
          omega
        | cons a t =>
          simp only [List.cons_append, List.cons.injEq] at h
          exact i3 c t h.2

theorem dgF_val : ∀ n v, v < 10 ^ n → num (dgF n v) = v ∧ allD (dgF n v) ∧ (v ≠ 0 → ∃ c t, dgF n v = c :: t ∧ c ≠ 48)
  | 0, v, h => by
    have : v = 0 := by simpa using h
    subst this
    exact ⟨rfl, fun c hc => by simp [dgF] at hc, fun h => absurd rfl h⟩
  | n + 1, v, h => by
    by_cases h0 : v = 0
    · subst h0
      rw [dgF_zero]
      exact ⟨rfl, fun c hc => by simp at hc, fun h => absurd rfl h⟩
    · have e : dgF (n + 1) v = dgF n (v / 10) ++ [UInt8.ofNat (48 + v % 10)] := by
        show (if v = 0 then [] else _) = _
        rw [if_neg h0]
      obtain ⟨i1, i2, i3⟩ := dgF_val n (v / 10) (by rw [Nat.pow_succ] at h; omega)
      have ht := ofNat_toNat (v % 10) (Nat.mod_lt _ (by decide))
      rw [e]
      refine ⟨?_, ?_, fun _ => ?_⟩
      · rw [num_app, i1]
        have : num [UInt8.ofNat (48 + v % 10)] = v % 10 := by
          unfold num
          rw [List.length_singleton, dn_cons, ht]
          simp [dn]
        rw [this]
        simp
        omega
      · intro c hc
        rcases List.mem_append.1 hc with h | h
        · exact i2 c h
        · have hc : c = UInt8.ofNat (48 + v % 10) := by simpa using h
          rw [hc]
          unfold isD
          rw [ht]
          simp
          omega
      · by_cases hq : v / 10 = 0
        · rw [hq, dgF_zero]
          refine ⟨_, _, rfl, fun hc => ?_⟩
          have := congrArg UInt8.toNat hc
          rw [ht] at this
          have e48 : (48 : UInt8).toNat = 48 := by decide
          omega
        · obtain ⟨c, t, h1, h2⟩ := i3 hq
          exact ⟨c, t ++ [UInt8.ofNat (48 + v % 10)], by rw [h1]; rfl, h2⟩

theorem decT_val (v : Nat) (h : v < 10 ^ 39) : num (decT v) = v ∧ allD (decT v) ∧ decT v ≠ [] ∧ badW (decT v) = false := by
  unfold decT
  by_cases h0 : v = 0
  · rw [if_pos h0, h0]
    refine ⟨by decide, fun c hc => ?_, by decide, by decide⟩
    have : c = 48 := by simpa using hc
    rw [this]; decide
  · rw [if_neg h0]
    obtain ⟨i1, i2, i3⟩ := dgF_val 39 v h
    obtain ⟨c, t, e, hc⟩ := i3 h0
    refine ⟨i1, i2, by rw [e]; simp, ?_⟩
    rw [e]
    unfold badW
    simp [hc]

end Go.Proofs.Ytgkbbcoagnilgaa
