import Derived.Test.YtgkbbcoagnilgaaBackM
namespace Go.Proofs.Ytgkbbcoagnilgaa
open Go.RowKit

theorem two_limbs (B : Nat) (a lo hi : Nat) (ha : a ≤ 8) : wv B 0 (((List.replicate 10 0).set a lo).set (a + 1) hi) 10 = (lo + hi * B) * B ^ a := by
  have z0 : wv B 0 (List.replicate 10 0) 10 = 0 := by simp [wv]
  have k1 := wv_set_in B 0 (List.replicate 10 0) a lo (by simp; omega) 10 (by omega)
  have k2 := wv_set_in B 0 ((List.replicate 10 0).set a lo) (a + 1) hi (by simp; omega) 10 (by omega)
  rw [Nat.zero_add] at k1 k2
  have g1 : (List.replicate 10 0).getD a 0 = 0 := by
    rw [List.getD_eq_getElem?_getD, List.getElem?_replicate]
    split <;> rfl
  have g2 : ((List.replicate 10 0).set a lo).getD (a + 1) 0 = 0 := by
    rw [List.getD_eq_getElem?_getD, List.getElem?_set_ne (by omega), List.getElem?_replicate]
    split <;> rfl
  rw [g1, z0] at k1
  rw [g2] at k2
  have e : B * B ^ a = B ^ (a + 1) := by rw [Nat.pow_succ, Nat.mul_comm]
  rw [Nat.add_mul, Nat.mul_assoc, e]
  omega

theorem spread_val (s : Nat) (hs : s < 2139095040) : wv 4294967296 0 (spreadL s) 10 = FV s := by
  have h8 := fP_le s hs
  unfold spreadL FV
  rw [two_limbs 4294967296 (fP s / 32) _ _ (by omega), Nat.mul_comm (_ / 4294967296), Nat.mod_add_div, show (4294967296 : Nat) = 2 ^ 32 from rfl, ← Nat.pow_mul, Nat.mul_assoc, ← Nat.pow_add]
  congr 2
  omega

/-- What is known of the exact text of a float32. -/
structure ExF (s : Nat) (g f : List UInt8) : Prop where
  dg : allD g
  df : allD f
  ne : g ≠ []
  bw : badW g = false
  val : num (g ++ f) * 2 ^ 160 = 10 ^ f.length * FV s
  last : ∀ c t, f = t ++ [c] → c ≠ 48
  lg : g.length ≤ 39
  lf : f.length ≤ 160

theorem exact_txt (b : Nat) (hs : b % 2147483648 < 2139095040) : ∃ g f, exactT b = txt (decide (2147483648 ≤ b)) g f ∧ ExF (b % 2147483648) g f := by
  generalize hsd : b % 2147483648 = s at hs
  have hval := spread_val s hs
  rw [wv_ten] at hval
  have hw := spreadL_whole s hs
  have hF := wv_lt 4294967296 0 (spreadL s) (spreadL_small s) (by decide) 5 (by rw [spreadL_len]; decide)
  have hN : (4294967296 : Nat) ^ 5 = 2 ^ 160 := by decide
  obtain ⟨W, hW⟩ : ∃ W, W = wv 4294967296 5 (spreadL s) 5 := ⟨_, rfl⟩
  obtain ⟨F, hFd⟩ : ∃ F, F = wv 4294967296 0 (spreadL s) 5 := ⟨_, rfl⟩
  rw [← hW] at hw hval
  rw [← hFd] at hF hval
  obtain ⟨d1, d2, d3, d4⟩ := decT_val W hw
  have he : exactT b = (if b < 2147483648 then [] else [45]) ++ (decT W ++ if F = 0 then [] else 46 :: frF (4294967296 ^ 5) 160 F) := by
    unfold exactT spellT
    rw [hsd, if_neg (by omega), ← hW, ← hFd]
  have hm : (if b < 2147483648 then ([] : List UInt8) else [45]) = if (decide (2147483648 ≤ b)) = true then [45] else [] := by
    by_cases c : b < 2147483648
    · rw [if_pos c, if_neg (by simp; omega)]
    · rw [if_neg c, if_pos (by simp; omega)]
  rw [he, hm]
  by_cases h0 : F = 0
  · refine ⟨decT W, [], ?_, d2, fun c hc => by simp at hc, d3, d4, ?_, fun c t h => by simp at h, decT_len W, by simp⟩
    · rw [if_pos h0]; rfl
    · rw [List.append_nil, d1, List.length_nil, Nat.pow_zero, Nat.one_mul, ← hval, h0, Nat.add_zero]
  · obtain ⟨f1, f2, f3⟩ := frF_val (4294967296 ^ 5) hN 160 F (by omega) (by omega) (by simp)
    have hne : frF (4294967296 ^ 5) 160 F ≠ [] := by
      show (if F = 0 then [] else _) ≠ []
      rw [if_neg h0]
      simp
    have hfl := frF_len (4294967296 ^ 5) 160 F
    refine ⟨decT W, frF (4294967296 ^ 5) 160 F, ?_, d2, f2, d3, d4, ?_, f3, decT_len W, hfl⟩
    · rw [if_neg h0]
      unfold txt
      rw [if_neg hne]
    · rw [num_app, d1, Nat.add_mul, ← hval]
      rw [hN] at f1 ⊢
      rw [← f1]
      generalize 10 ^ (frF (2 ^ 160) 160 F).length = T
      rw [Nat.mul_add, Nat.mul_right_comm, Nat.mul_comm (W * 2 ^ 160) T, Nat.mul_comm F T]

/-- Two numbers of one order have one value. -/
theorem ck_eq (x y : PartsM) (gx : Good x) (gy : Good y) (hx : zof x ≠ []) (hy : zof y ≠ []) (h : ckey (Pof x) (zof x) (Pof y) (zof y) = 0) : vU (zof x) (Pof x) * vD (zof y) (Pof y) = vU (zof y) (Pof y) * vD (zof x) (Pof x) := by
  have t := ck_turn (Pof x) (Pof y) (zof x) (zof y)
  exact Nat.le_antisymm (ck_le _ _ _ _ gx.1 gy.1 hy (gy.2 hy) (by omega)) (ck_le _ _ _ _ gy.1 gx.1 hx (gx.2 hx) (by omega))

theorem sgn_nz (m : Bool) (z : List UInt8) : sgn m z = 0 ↔ z = [] := by
  unfold sgn
  by_cases h : z = []
  · rw [if_pos h]; simp [h]
  · rw [if_neg h]
    cases m <;> simp [h]

theorem good_txt (m : Bool) (g f : List UInt8) (hg : allD g) (hf : allD f) : Good (m, g, f, false, []) := by
  have hgf : allD (g ++ f) := fun c hc => by
    rcases List.mem_append.1 hc with h | h
    · exact hg c h
    · exact hf c h
  exact ⟨allD_tr (allD_tl hgf), fun h => tr_head _ h hgf⟩

theorem num_nil_zof (m : Bool) (g f : List UInt8) (h : zof (m, g, f, false, []) = []) : num (g ++ f) = 0 := by
  have h1 := num_tr (tl (g ++ f))
  have h2 : tr (tl (g ++ f)) = [] := h
  rw [num_tl, h2] at h1
  rw [h1]
  show 0 * _ = 0
  simp

/-- Without its last digit it is another number. -/
theorem drop_ne (m : Bool) (g f : List UInt8) (c : UInt8) (hg : allD g) (hf : allD (f ++ [c])) (hc : c ≠ 48) : okey (m, g, f, false, []) (m, g, f ++ [c], false, []) ≠ 0 := by
  have hcD := isD_bd (hf c (by simp))
  have hc48 : c.toNat ≠ 48 := fun e => hc (UInt8.toNat_inj.1 e)
  have hf' : allD f := fun x hx => hf x (List.mem_append_left _ hx)
  have e1 : num (g ++ (f ++ [c])) = num (g ++ f) * 10 + (c.toNat - 48) := by
    rw [← List.append_assoc, num_app]
    have : num [c] = c.toNat - 48 := by
      unfold num
      rw [List.length_singleton, dn_cons]
      simp [dn]
    rw [this]
    simp
  have v1 := val_txt m g f
  have v2 := val_txt m g (f ++ [c])
  have g1 := good_txt m g f hg hf'
  have g2 := good_txt m g (f ++ [c]) hg hf
  have z2 : zof (m, g, f ++ [c], false, []) ≠ [] := fun h => by
    have := num_nil_zof m g (f ++ [c]) h
    omega
  intro h0
  unfold okey at h0
  have s2 : sgn m (zof (m, g, f ++ [c], false, [])) ≠ 0 := fun h => z2 ((sgn_nz _ _).1 h)
  by_cases hs : sgn m (zof (m, g, f, false, [])) = sgn m (zof (m, g, f ++ [c], false, []))
  · rw [if_pos hs] at h0
    have z1 : zof (m, g, f, false, []) ≠ [] := fun h => by
      have := (sgn_nz m _).2 h
      rw [hs] at this
      exact s2 this
    have hk : ckey (Pof (m, g, f, false, [])) (zof (m, g, f, false, [])) (Pof (m, g, f ++ [c], false, [])) (zof (m, g, f ++ [c], false, [])) = 0 := by
      rcases Int.mul_eq_zero.1 h0 with h | h
      · exact absurd (hs ▸ h) s2
      · exact h
    have hv := ck_eq _ _ g1 g2 z1 z2 hk
    generalize vU (zof (m, g, f, false, [])) (Pof (m, g, f, false, [])) = U1 at v1 hv
    have p1 := vD_pos (zof (m, g, f, false, [])) (Pof (m, g, f, false, []))
    generalize vD (zof (m, g, f, false, [])) (Pof (m, g, f, false, [])) = D1 at v1 hv p1
    generalize vU (zof (m, g, f ++ [c], false, [])) (Pof (m, g, f ++ [c], false, [])) = U2 at v2 hv
    have p2 := vD_pos (zof (m, g, f ++ [c], false, [])) (Pof (m, g, f ++ [c], false, []))
    generalize vD (zof (m, g, f ++ [c], false, [])) (Pof (m, g, f ++ [c], false, [])) = D2 at v2 hv p2
    rw [List.length_append, List.length_singleton, Nat.pow_succ, e1] at v2
    generalize num (g ++ f) = n at v1 v2
    have hT : 0 < 10 ^ f.length := Nat.pow_pos (by decide)
    generalize 10 ^ f.length = T at v1 v2 hT
    -- U1 T = n D1, U2 (10 T) = (10 n + d) D2, U1 D2 = U2 D1
    have a1 : U1 * D2 * (T * 10) = n * 10 * (D1 * D2) := by
      have : U1 * D2 * (T * 10) = U1 * T * (D2 * 10) := by rw [Nat.mul_assoc, Nat.mul_assoc, Nat.mul_left_comm D2]
      rw [this, v1, Nat.mul_assoc, Nat.mul_assoc n, ← Nat.mul_assoc D1, Nat.mul_comm (D1 * D2)]
    have a2 : U2 * D1 * (T * 10) = (n * 10 + (c.toNat - 48)) * (D1 * D2) := by
      rw [Nat.mul_right_comm, v2, Nat.mul_assoc, Nat.mul_comm D2]
    rw [hv, a2, Nat.add_mul] at a1
    have : 0 < (c.toNat - 48) * (D1 * D2) := Nat.mul_pos (by omega) (Nat.mul_pos p1 p2)
    omega
  · rw [if_neg hs] at h0
    unfold cmp3 at h0
    split at h0
    · omega
    · split at h0
      · omega
      · show False
        have h1 : ∀ a b : Int, ¬ a < b → ¬ b < a → a = b := fun a b _ _ => by omega
        exact hs (h1 _ _ (by assumption) (by assumption))

end Go.Proofs.Ytgkbbcoagnilgaa
