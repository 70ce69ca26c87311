import Derived.Test.YtgkbbcoagnilgabDoorSumW
namespace Go.Proofs.YtgkbbcoagnilgabDoor
open Go.RowKit

theorem cmp3_scale (a b k : Nat) (hk : 0 < k) : cmp3 ((a * k : Nat) : Int) ((b * k : Nat) : Int) = cmp3 (a : Int) (b : Int) := by
  have c1 := @cmp3_of ((a * k : Nat) : Int) ((b * k : Nat) : Int)
  have c2 := @cmp3_of (a : Int) (b : Int)
  rcases Nat.lt_trichotomy a b with h | h | h
  · have := Nat.mul_lt_mul_of_pos_right h hk
    rw [c1.1 (by omega), c2.1 (by omega)]
  · rw [h, (@cmp3_of ((b * k : Nat) : Int) ((b * k : Nat) : Int)).2.1 rfl, (@cmp3_of (b : Int) (b : Int)).2.1 rfl]
  · have := Nat.mul_lt_mul_of_pos_right h hk
    rw [c1.2.2 (by omega), c2.2.2 (by omega)]

/-- Compare of two texts without a sign and an exponent. -/
theorem okey_num (G F G' F' : List UInt8) (hG : allD G) (hF : allD F) (hG' : allD G') (hF' : allD F') :
    okey (false, G, F, false, []) (false, G', F', false, []) = cmp3 ((num (G ++ F) * 10 ^ F'.length : Nat) : Int) ((num (G' ++ F') * 10 ^ F.length : Nat) : Int) := by
  rw [okey_val _ _ (good_txt _ _ _ hG hF) (good_txt _ _ _ hG' hF')]
  have v1 := val_txt false G F
  have v2 := val_txt false G' F'
  have e1 : sv (false, G, F, false, []) = ((vU (zof (false, G, F, false, [])) (Pof (false, G, F, false, [])) : Nat) : Int) := rfl
  have e2 : sv (false, G', F', false, []) = ((vU (zof (false, G', F', false, [])) (Pof (false, G', F', false, [])) : Nat) : Int) := rfl
  rw [e1, e2]
  have p1 : 0 < dv (false, G, F, false, []) := vD_pos _ _
  have p2 : 0 < dv (false, G', F', false, []) := vD_pos _ _
  have d1 : dv (false, G, F, false, []) = vD (zof (false, G, F, false, [])) (Pof (false, G, F, false, [])) := rfl
  have d2 : dv (false, G', F', false, []) = vD (zof (false, G', F', false, [])) (Pof (false, G', F', false, [])) := rfl
  rw [← d1] at v1
  rw [← d2] at v2
  generalize dv (false, G, F, false, []) = D1 at v1 p1
  generalize dv (false, G', F', false, []) = D2 at v2 p2
  generalize vU (zof (false, G, F, false, [])) (Pof (false, G, F, false, [])) = U1 at v1
  generalize vU (zof (false, G', F', false, [])) (Pof (false, G', F', false, [])) = U2 at v2
  have q1 : 0 < 10 ^ F.length := Nat.pow_pos (by decide)
  have q2 : 0 < 10 ^ F'.length := Nat.pow_pos (by decide)
  generalize 10 ^ F.length = T1 at v1 q1
  generalize 10 ^ F'.length = T2 at v2 q2
  generalize num (G ++ F) = n1 at v1
  generalize num (G' ++ F') = n2 at v2
  rw [← Int.natCast_mul, ← Int.natCast_mul, ← cmp3_scale (U1 * D2) (U2 * D1) (T1 * T2) (Nat.mul_pos q1 q2), ← cmp3_scale (n1 * T2) (n2 * T1) (D1 * D2) (Nat.mul_pos p1 p2)]
  have a1 : U1 * D2 * (T1 * T2) = n1 * T2 * (D1 * D2) := by
    have : U1 * D2 * (T1 * T2) = U1 * T1 * (D2 * T2) := by ac_rfl
    rw [this, v1]
    ac_rfl
  have a2 : U2 * D1 * (T1 * T2) = n2 * T1 * (D1 * D2) := by
    have : U2 * D1 * (T1 * T2) = U2 * T2 * (D1 * T1) := by ac_rfl
    rw [this, v2]
    ac_rfl
  rw [a1, a2]

/-- The sum of two exact texts is the sum of their float32s. -/
theorem sum_exact {s s' : Nat} {g f g' f' G F : List UInt8} (h : SumA g f g' f' G F) (e : ExF s g f) (e' : ExF s' g' f') : num (G ++ F) * 2 ^ 160 = 10 ^ F.length * (FV s + FV s') := by
  obtain ⟨_, _, _, _, hl, _, hn⟩ := h
  rw [hn, Nat.add_mul, Nat.mul_right_comm, e.val, Nat.mul_right_comm (num (g' ++ f')), e'.val, hl, Nat.mul_add, Nat.mul_right_comm, Nat.mul_right_comm (10 ^ f'.length), ← Nat.pow_add, ← Nat.pow_add]
  congr 3 <;> omega

/-- How twice a number stands to a middle. -/
theorem twice_mid (s s' : Nat) (g f g1 f1 g2 f2 G F G1 F1 : List UInt8) (_hg : allD g) (_hf : allD f) (hd : SumA g f g f G1 F1) (ho : SumA g1 f1 g2 f2 G F) (e1 : ExF s g1 f1) (e2 : ExF s' g2 f2) :
    okey (false, G1, F1, false, []) (false, G, F, false, []) = cmp3 ((2 * (vU (zof (false, g, f, false, [])) (Pof (false, g, f, false, [])) * 2 ^ 160) : Nat) : Int) ((vD (zof (false, g, f, false, [])) (Pof (false, g, f, false, [])) * (FV s + FV s') : Nat) : Int) := by
  rw [okey_num G1 F1 G F hd.1 hd.2.1 ho.1 ho.2.1]
  have hs := sum_exact ho e1 e2
  have hv := val_txt false g f
  have h1 : num (G1 ++ F1) = 2 * num (g ++ f) := by
    rw [hd.2.2.2.2.2.2, Nat.max_self, Nat.sub_self, Nat.pow_zero, Nat.mul_one, Nat.two_mul]
  have hl : F1.length = f.length := by rw [hd.2.2.2.2.1, Nat.max_self]
  have pD := vD_pos (zof (false, g, f, false, [])) (Pof (false, g, f, false, []))
  generalize vU (zof (false, g, f, false, [])) (Pof (false, g, f, false, [])) = U at hv
  generalize vD (zof (false, g, f, false, [])) (Pof (false, g, f, false, [])) = D at hv pD
  rw [h1, hl]
  have q1 : 0 < 10 ^ f.length := Nat.pow_pos (by decide)
  have q2 : 0 < 10 ^ F.length := Nat.pow_pos (by decide)
  generalize 10 ^ f.length = T1 at hv q1
  generalize 10 ^ F.length = T2 at hs q2
  generalize num (g ++ f) = n1 at hv
  generalize num (G ++ F) = n2 at hs
  have qN : 0 < 2 ^ 160 := by decide
  generalize (2 : Nat) ^ 160 = N at hs qN
  generalize FV s + FV s' = M at hs
  rw [← cmp3_scale (2 * n1 * T2) (n2 * T1) (N * D) (Nat.mul_pos qN pD), ← cmp3_scale (2 * (U * N)) (D * M) (T1 * T2) (Nat.mul_pos q1 q2)]
  have a1 : 2 * n1 * T2 * (N * D) = 2 * (U * N) * (T1 * T2) := by
    have : 2 * (U * N) * (T1 * T2) = 2 * (U * T1) * (N * T2) := by ac_rfl
    rw [this, hv]
    ac_rfl
  have a2 : n2 * T1 * (N * D) = D * M * (T1 * T2) := by
    have : n2 * T1 * (N * D) = n2 * N * (T1 * D) := by ac_rfl
    rw [this, hs]
    ac_rfl
  rw [a1, a2]

/-- A number without an exponent. -/
theorem pcut_noexp {l : List UInt8} {x : PartsM} (h : pcut l = some x) (hno : ∀ c ∈ l, c ≠ 101 ∧ c ≠ 69) : ∃ m g f, x = (m, g, f, false, []) ∧ l = txt m g f ∧ allD g ∧ allD f ∧ g ≠ [] := by
  have hsub : ∀ c, c ∈ cutL l → c ∈ l := by
    intro c hc
    unfold cutL at hc
    split at hc
    · exact List.mem_of_mem_tail hc
    · exact hc
  unfold pcut pcut1 at h
  have hlc : l = (if decide (l.head? = some 45) = true then [45] else []) ++ cutL l := by
    unfold cutL
    cases l with
    | nil => simp
    | cons a t =>
      by_cases ha : a = 45
      · subst ha; simp
      · simp [ha]
  generalize decide (l.head? = some 45) = m at h hlc
  generalize cutL l = l1 at h hsub hlc
  have hr : ∀ c, c ∈ rst l1 → c ∈ l := fun c hc => hsub c (List.mem_of_mem_drop hc)
  have hl1 : digs l1 ++ rst l1 = l1 := by unfold digs rst; exact List.take_append_drop _ _
  unfold pcut2 at h
  split at h
  · cases h
  next hb =>
  have hne : digs l1 ≠ [] := by
    intro e
    rw [e] at hb
    exact hb (by decide)
  have hPn : ∀ r : List UInt8, (∀ c ∈ r, c ∈ l) → cutP r = (false, [], r, true) := fun r hrr => by
    unfold cutP
    rw [if_neg]
    intro hh
    rcases hh with hh | hh
    · exact (hno 101 (hrr 101 (List.mem_of_head? hh))).1 rfl
    · exact (hno 69 (hrr 69 (List.mem_of_head? hh))).2 rfl
  by_cases hd : (rst l1).head? = some 46
  · have hF : cutF (rst l1) = (digs (rst l1).tail, rst (rst l1).tail, !(digs (rst l1).tail).isEmpty) := by
      unfold cutF
      rw [if_pos hd]
    rw [hF] at h
    unfold pcut3 at h
    dsimp only at h
    split at h
    · cases h
    next hok =>
    rw [hPn (rst (rst l1).tail) (fun c hc => hr c (List.mem_of_mem_tail (List.mem_of_mem_drop hc)))] at h
    unfold pcut4 at h
    rw [if_neg (fun e => by cases e)] at h
    split at h
    · next hrn0 =>
      have hrn : rst (rst l1).tail = [] := hrn0
      cases h
      have ht : digs (rst l1).tail ++ rst (rst l1).tail = (rst l1).tail := by unfold digs rst; exact List.take_append_drop _ _
      rw [hrn, List.append_nil] at ht
      have hfne : digs (rst l1).tail ≠ [] := by
        intro e
        apply hok
        show (!(digs (rst l1).tail).isEmpty) = false
        rw [e]; rfl
      have hcons : rst l1 = 46 :: (rst l1).tail := by
        cases hrl : rst l1 with
        | nil => rw [hrl] at hd; cases hd
        | cons a t =>
          rw [hrl] at hd
          have : a = 46 := by simpa using hd
          rw [this]; rfl
      refine ⟨m, digs l1, digs (rst l1).tail, rfl, ?_, digs_all l1, digs_all _, hne⟩
      unfold txt
      rw [if_neg hfne, ht, ← hcons, hl1]
      exact hlc
    · cases h
  · have hF : cutF (rst l1) = ([], rst l1, true) := by
      unfold cutF
      rw [if_neg hd]
    rw [hF] at h
    unfold pcut3 at h
    rw [if_neg (fun e => by cases e)] at h
    rw [hPn _ hr] at h
    unfold pcut4 at h
    rw [if_neg (fun e => by cases e)] at h
    split at h
    · next hrn0 =>
      have hrn : rst l1 = [] := hrn0
      cases h
      refine ⟨m, digs l1, [], rfl, ?_, digs_all l1, allD_nil, hne⟩
      unfold txt
      rw [if_pos rfl, List.append_nil]
      rw [hrn, List.append_nil] at hl1
      rw [hl1]
      exact hlc
    · cases h

/-- 2^128, as one more float32 would be. -/
def beyondT : List UInt8 := [51, 52, 48, 50, 56, 50, 51, 54, 54, 57, 50, 48, 57, 51, 56, 52, 54, 51, 52, 54, 51, 51, 55, 52, 54, 48, 55, 52, 51, 49, 55, 54, 56, 50, 49, 49, 52, 53, 54]

theorem beyond_exf : ExF 2139095040 beyondT [] := by
  have hn : num beyondT = 2 ^ 128 := by decide
  have hd : ∀ c ∈ beyondT, isD c = true := by decide
  refine ⟨hd, allD_nil, by decide, by decide, ?_, fun c t h => by simp at h, by decide, by decide⟩
  rw [List.append_nil, hn, List.length_nil, Nat.pow_zero, FV_top]
  exact ((pow_cut 1 128 160 288 rfl).trans (congrArg (fun z => z * 2 ^ 160) (Nat.one_mul (2 ^ 128)))).symm

theorem exf_le {s : Nat} {g f : List UInt8} (h : ExF s g f) : g.length + f.length ≤ 199 := by
  have := h.lg
  have := h.lf
  omega

end Go.Proofs.YtgkbbcoagnilgabDoor
