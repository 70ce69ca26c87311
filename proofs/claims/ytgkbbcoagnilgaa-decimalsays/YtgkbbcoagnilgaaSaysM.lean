import Derived.Test.YtgkbbcoagnilgaaNearsM
import Derived.Test.YtgkbbcoagnilgaaBackT
namespace Go.Proofs.Ytgkbbcoagnilgaa
open Go.RowKit

theorem num_cons (a : UInt8) (t : List UInt8) : num (a :: t) = (a.toNat - 48) * 10 ^ t.length + num t := by
  unfold num
  rw [List.length_cons, dn_cons]

theorem num_lt (t : List UInt8) (h : allD t) : num t < 10 ^ t.length := dn_lt t h t.length

theorem num_inj : ∀ l s : List UInt8, allD l → allD s → l.length = s.length → num l = num s → l = s
  | [], [], _, _, _, _ => rfl
  | [], _ :: _, _, _, h, _ => by simp at h
  | _ :: _, [], _, _, h, _ => by simp at h
  | a :: l, b :: s, hl, hs, h, hn => by
    have hl' : allD l := fun c hc => hl c (List.mem_cons_of_mem _ hc)
    have hs' : allD s := fun c hc => hs c (List.mem_cons_of_mem _ hc)
    have ha := isD_bd (hl a (List.mem_cons_self ..))
    have hb := isD_bd (hs b (List.mem_cons_self ..))
    have hlen : l.length = s.length := by simpa using h
    rw [num_cons, num_cons, hlen] at hn
    have h1 := num_lt l hl'
    have h2 := num_lt s hs'
    rw [hlen] at h1
    generalize 10 ^ s.length = T at *
    have hq : a.toNat - 48 = b.toNat - 48 := by
      have q1 : ((a.toNat - 48) * T + num l) / T = a.toNat - 48 := by
        rw [Nat.mul_comm, Nat.mul_add_div (by omega), Nat.div_eq_of_lt h1]; rfl
      have q2 : ((b.toNat - 48) * T + num s) / T = b.toNat - 48 := by
        rw [Nat.mul_comm, Nat.mul_add_div (by omega), Nat.div_eq_of_lt h2]; rfl
      rw [← q1, ← q2, hn]
    have hab : a = b := UInt8.toNat_inj.mp (by have := ha.1; have := hb.1; omega)
    rw [hq] at hn
    rw [hab, num_inj l s hl' hs' hlen (by omega)]

/-- What makes a text the exact one of a float32. -/
structure ExU (s : Nat) (g f : List UInt8) : Prop where
  dg : allD g
  df : allD f
  ne : g ≠ []
  bw : badW g = false
  val : num (g ++ f) * 2 ^ 160 = 10 ^ f.length * FV s
  last : ∀ c t, f = t ++ [c] → c ≠ 48

theorem ExF.exU {s : Nat} {g f : List UInt8} (h : ExF s g f) : ExU s g f := ⟨h.dg, h.df, h.ne, h.bw, h.val, h.last⟩

theorem num_last (t : List UInt8) (c : UInt8) (hc : 48 ≤ c.toNat ∧ c.toNat ≤ 57) (h : c ≠ 48) : num (t ++ [c]) % 10 ≠ 0 := by
  have h1 : num [c] = c.toNat - 48 := by
    rw [num_cons]
    show (c.toNat - 48) * 10 ^ 0 + num [] = _
    have : num [] = 0 := rfl
    omega
  have h2 : c.toNat ≠ 48 := fun e => h (UInt8.toNat_inj.mp (by rw [e]; rfl))
  rw [num_app, h1]
  show (num t * 10 ^ 1 + (c.toNat - 48)) % 10 ≠ 0
  omega

theorem ExU.less {s : Nat} {g f g' f' : List UInt8} (h : ExU s g f) (h' : ExU s g' f') : ¬ f.length < f'.length := by
  intro hlt
  have hne : f' ≠ [] := fun e => by rw [e] at hlt; simp at hlt
  obtain ⟨t, c, hf'⟩ : ∃ t c, f' = t ++ [c] := ⟨f'.dropLast, f'.getLast hne, (List.dropLast_concat_getLast hne).symm⟩
  have hc := isD_bd (h'.df c (by rw [hf']; simp))
  have hl := num_last (g' ++ t) c hc (h'.last c t hf')
  rw [List.append_assoc, ← hf'] at hl
  apply hl
  obtain ⟨k, hk⟩ : ∃ k, f'.length = f.length + (k + 1) := ⟨f'.length - f.length - 1, by omega⟩
  have e : num (g' ++ f') = num (g ++ f) * 10 ^ (k + 1) := by
    have hp : 0 < 2 ^ 160 := Nat.pow_pos (by decide)
    apply Nat.eq_of_mul_eq_mul_right hp
    rw [h'.val, hk, Nat.pow_add]
    have := h.val
    have e2 : num (g ++ f) * 10 ^ (k + 1) * 2 ^ 160 = num (g ++ f) * 2 ^ 160 * 10 ^ (k + 1) := by ac_rfl
    rw [e2, this]
    ac_rfl
  rw [e, Nat.pow_succ, ← Nat.mul_assoc, Nat.mul_mod_left]

theorem whole_len (g g' : List UInt8) (d : allD g) (d' : allD g') (hg' : g' ≠ []) (b' : badW g' = false) (hg : g ≠ []) (h : num g = num g') : ¬ g.length < g'.length := by
  intro hlt
  obtain ⟨a, t, rfl⟩ : ∃ a t, g' = a :: t := by cases g' with | nil => exact absurd rfl hg' | cons a t => exact ⟨a, t, rfl⟩
  have hl : 1 ≤ g.length := List.length_pos_iff.mpr hg
  have ha : a ≠ 48 := fun e => by
    unfold badW at b'
    rw [e] at b'
    simp at b'
    subst b'
    rw [List.length_singleton] at hlt
    omega
  have ha2 := isD_bd (d' a (List.mem_cons_self ..))
  have ha3 : a.toNat ≠ 48 := fun e => ha (UInt8.toNat_inj.mp (by rw [e]; rfl))
  have h1 := num_lt g d
  rw [h, num_cons] at h1
  have h2 : 10 ^ g.length ≤ 10 ^ t.length := Nat.pow_le_pow_right (by decide) (by simp at hlt; omega)
  have h3 : 1 * 10 ^ t.length ≤ (a.toNat - 48) * 10 ^ t.length := Nat.mul_le_mul_right _ (by have := ha2.1; omega)
  omega

theorem ExU.one {s : Nat} {g f g' f' : List UInt8} (h : ExU s g f) (h' : ExU s g' f') : g = g' ∧ f = f' := by
  have hl : f.length = f'.length := by have := h.less h'; have := h'.less h; omega
  have hv : num (g ++ f) = num (g' ++ f') := by
    have hp : 0 < 2 ^ 160 := Nat.pow_pos (by decide)
    apply Nat.eq_of_mul_eq_mul_right hp
    rw [h.val, h'.val, hl]
  rw [num_app, num_app, hl] at hv
  have h1 := num_lt f h.df
  have h2 := num_lt f' h'.df
  rw [hl] at h1
  have hT : 0 < 10 ^ f'.length := Nat.pow_pos (by decide)
  generalize 10 ^ f'.length = T at *
  have hg : num g = num g' := by
    have q1 : (num g * T + num f) / T = num g := by rw [Nat.mul_comm, Nat.mul_add_div hT, Nat.div_eq_of_lt h1]; rfl
    have q2 : (num g' * T + num f') / T = num g' := by rw [Nat.mul_comm, Nat.mul_add_div hT, Nat.div_eq_of_lt h2]; rfl
    rw [← q1, ← q2, hv]
  have hgl : g.length = g'.length := by
    have := whole_len g g' h.dg h'.dg h'.ne h'.bw h.ne hg
    have := whole_len g' g h'.dg h.dg h.ne h.bw h'.ne hg.symm
    omega
  rw [hg] at hv
  exact ⟨num_inj g g' h.dg h'.dg hgl hg, num_inj f f' h.df h'.df hl (by omega)⟩

/-- The first i digits, noughts behind them. -/
def padT (z : List UInt8) (i : Nat) : List UInt8 := (List.range i).map fun j => z.getD j 48

theorem padT_succ (z : List UInt8) (i : Nat) : padT z (i + 1) = padT z i ++ [z.getD i 48] := by unfold padT; rw [List.range_succ, List.map_append]; rfl

theorem padT_len (z : List UInt8) (i : Nat) : (padT z i).length = i := by unfold padT; simp

theorem padT_in (z : List UInt8) : ∀ i, i ≤ z.length → padT z i = z.take i
  | 0, _ => by simp [padT]
  | i + 1, h => by
    rw [padT_succ, padT_in z i (by omega), List.take_add_one, List.getD_eq_getElem?_getD, List.getElem?_eq_getElem (by omega)]
    rfl

theorem padT_out (z : List UInt8) : ∀ k, padT z (z.length + k) = z ++ List.replicate k 48
  | 0 => by rw [Nat.add_zero, padT_in z _ (Nat.le_refl _), List.take_length]; simp
  | k + 1 => by
    rw [← Nat.add_assoc, padT_succ, padT_out z k, List.replicate_succ', List.append_assoc, List.getD_eq_getElem?_getD, List.getElem?_eq_none (by omega)]
    rfl

/-- The whole part of the document's text, and the part behind its dot. -/
def docG (z : List UInt8) (O : Int) : List UInt8 := if O ≤ 0 then [48] else padT z O.toNat
def docF (z : List UInt8) (O : Int) : List UInt8 := if O < z.length ∧ z ≠ [] then List.replicate (-O).toNat 48 ++ z.drop O.toNat else []

theorem num_rep (k : Nat) : num (List.replicate k 48) = 0 := num_noughts _ (fun _ hc => (List.mem_replicate.1 hc).2)

theorem doc_num (z : List UInt8) (O : Int) (hz : z = [] → O ≤ 0) : num (docG z O ++ docF z O) = vU z O ∧ (z ≠ [] → (docF z O).length = ((z.length : Int) - O).toNat) := by
  have e0 : dn z z.length = num z := rfl
  unfold docG docF vU
  rw [e0]
  by_cases h0 : O ≤ 0
  · rw [if_pos h0]
    have ht : O.toNat = 0 := by omega
    rw [ht, List.drop_zero]
    by_cases h1 : O < z.length ∧ z ≠ []
    · rw [if_pos h1, show (O - (z.length : Int)).toNat = 0 by omega, Nat.pow_zero, Nat.mul_one]
      refine ⟨?_, fun _ => ?_⟩
      · rw [← List.append_assoc, num_app]
        have : num ([48] ++ List.replicate (-O).toNat 48) = 0 := num_noughts _ (fun c hc => by
          rcases List.mem_append.1 hc with h | h
          · simpa using h
          · exact (List.mem_replicate.1 h).2)
        rw [this, Nat.zero_mul, Nat.zero_add]
      · rw [List.length_append, List.length_replicate]
        omega
    · have hz0 : z = [] := by
        by_cases c : z = []
        · exact c
        · have := List.length_pos_iff.mpr c
          exact absurd ⟨by omega, c⟩ h1
      rw [if_neg h1]
      refine ⟨?_, fun h => absurd hz0 h⟩
      rw [hz0]
      have : num ([] : List UInt8) = 0 := rfl
      rw [this, Nat.zero_mul]
      rfl
  · rw [if_neg h0]
    by_cases h1 : O < z.length ∧ z ≠ []
    · rw [if_pos h1, padT_in z O.toNat (by omega), show (-O).toNat = 0 by omega, show (O - (z.length : Int)).toNat = 0 by omega, Nat.pow_zero, Nat.mul_one]
      refine ⟨?_, fun _ => ?_⟩
      · rw [List.replicate_zero, List.nil_append, List.take_append_drop]
      · rw [List.length_append, List.length_replicate, List.length_drop]
        omega
    · have hz1 : z ≠ [] := fun e => h0 (hz e)
      have h1 : ¬ O < z.length := fun e => h1 ⟨e, hz1⟩
      rw [if_neg (fun e => h1 e.1), List.append_nil]
      obtain ⟨k, hk⟩ : ∃ k, O.toNat = z.length + k := ⟨O.toNat - z.length, by omega⟩
      refine ⟨?_, fun _ => ?_⟩
      · rw [hk, padT_out, num_app, num_rep, List.length_replicate, show (O - (z.length : Int)).toNat = k by omega, Nat.add_zero]
      · rw [List.length_nil]
        omega

theorem getD_dig (z : List UInt8) (h : allD z) (i : Nat) : isD (z.getD i 48) = true := by
  rw [List.getD_eq_getElem?_getD]
  by_cases c : i < z.length
  · rw [List.getElem?_eq_getElem c]
    exact h _ (List.getElem_mem c)
  · rw [List.getElem?_eq_none (by omega)]
    decide

/-- The document's text is an exact one. -/
theorem doc_exU (s : Nat) (z : List UInt8) (O : Int) (hd : allD z) (hz : z = [] → O ≤ 0) (hf : z ≠ [] → dz z 0 ≠ 0) (hn : NT z) (hv : vU z O * 2 ^ 160 = vD z O * FV s) (hv0 : z = [] → FV s = 0) : ExU s (docG z O) (docF z O) := by
  obtain ⟨h1, h2⟩ := doc_num z O hz
  refine ⟨?_, ?_, ?_, ?_, ?_, ?_⟩
  · unfold docG
    split
    · intro c hc
      rw [List.mem_singleton.1 hc]
      decide
    · intro c hc
      unfold padT at hc
      obtain ⟨j, _, rfl⟩ := List.mem_map.1 hc
      exact getD_dig z hd j
  · unfold docF
    split
    · intro c hc
      rcases List.mem_append.1 hc with h | h
      · rw [(List.mem_replicate.1 h).2]
        decide
      · exact hd c (List.mem_of_mem_drop h)
    · intro c hc
      cases hc
  · unfold docG
    split
    · simp
    · intro e
      have := congrArg List.length e
      rw [padT_len] at this
      simp at this
      omega
  · unfold docG
    split
    · rfl
    · rename_i hO
      have hz1 : z ≠ [] := fun e => hO (hz e)
      obtain ⟨k, hk⟩ : ∃ k, O.toNat = k + 1 := ⟨O.toNat - 1, by omega⟩
      obtain ⟨a, t, rfl⟩ : ∃ a t, z = a :: t := by cases z with | nil => exact absurd rfl hz1 | cons a t => exact ⟨a, t, rfl⟩
      have ha : a ≠ 48 := fun e => by
        apply hf hz1
        unfold dz
        rw [if_pos (by simp)]
        simp [e]
      unfold badW padT
      rw [hk, List.range_succ_eq_map]
      simp
      intro _
      exact ha
  · rw [h1]
    by_cases c : z = []
    · rw [hv0 c, Nat.mul_zero]
      have e : vU z O = 0 := by rw [c]; unfold vU; simp [dn]
      rw [e, Nat.zero_mul]
    · rw [h2 c]
      exact hv
  · intro c t h
    unfold docF at h
    split at h
    · rename_i hO
      have hO1 := hO.1
      have hO2 := List.length_pos_iff.mpr hO.2
      have hne : z.drop O.toNat ≠ [] := fun e => by
        have := congrArg List.length e
        rw [List.length_drop, List.length_nil] at this
        omega
      obtain ⟨u, a, hu⟩ : ∃ u a, z.drop O.toNat = u ++ [a] := ⟨_, _, (List.dropLast_concat_getLast hne).symm⟩
      rw [hu, ← List.append_assoc] at h
      have hac : [a] = [c] := (List.append_inj' h rfl).2
      have hz2 : z = (z.take O.toNat ++ u) ++ [a] := by rw [List.append_assoc, ← hu, List.take_append_drop]
      have := hn a _ hz2
      rw [← List.singleton_inj.1 hac]
      exact this
    · cases t <;> simp at h

end Go.Proofs.Ytgkbbcoagnilgaa
