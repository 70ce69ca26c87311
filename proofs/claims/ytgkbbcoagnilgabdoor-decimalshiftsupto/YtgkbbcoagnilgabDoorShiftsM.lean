import Derived.Test.YtgkbbcoagnilgabDoorWholesM
namespace Go.Proofs.YtgkbbcoagnilgabDoor
open Go.RowKit

theorem tv_sn (d : List UInt8) (hd : allD d) : ∀ (m : Nat) (x : Int), m ≤ d.length → tv (sd false d) (sd false []) m x = x * 10 ^ m + (sn d d.length m : Int)
  | 0, x, _ => by simp [tv, sn]
  | m + 1, x, h => by
    have hz : sd false [] m = 0 := by unfold sd; rw [if_pos (by simp)]
    have ha : sd false d m = (dz d (d.length - 1 - m) : Int) := by
      unfold sd dz
      rw [if_neg (by omega), if_neg (by decide), if_pos (by omega)]
      have hj : d.length - 1 - m < d.length := by omega
      have := isD_bd (hd _ (List.getElem_mem hj))
      rw [List.getD_eq_getElem?_getD, List.getElem?_eq_getElem hj, Option.getD_some]
      omega
    have es : sn d d.length (m + 1) = dz d (d.length - 1 - m) * 10 ^ m + sn d d.length m := by
      show (if m < d.length then _ else 0) * 10 ^ m + _ = _
      rw [if_pos (by omega)]
    show tv (sd false d) (sd false []) m (10 * x + sd false d m - sd false [] m) = _
    rw [tv_sn d hd m _ (by omega), hz, ha, es, Int.sub_zero, Int.add_mul, Int.natCast_add, Int.natCast_mul, Int.pow_succ, Int.natCast_pow]
    have : (10 : Int) * x * 10 ^ m = x * (10 ^ m * 10) := by rw [Int.mul_comm 10 x, Int.mul_assoc, Int.mul_comm 10]
    rw [this, Int.add_assoc]
    rfl

theorem ev_num (d : List UInt8) (hd : allD d) : Ev false d = (num d : Int) := by
  rw [← ev_long false d d.length (Nat.le_refl _), tv_sn d hd d.length 0 (Nat.le_refl _), Int.zero_mul, Int.zero_add]
  have := sn_all d d.length 0
  rw [Nat.add_zero] at this
  rw [this]
  rfl

theorem tv_neg (a b : Nat → Int) (h : ∀ k, b k = - a k) : ∀ (n : Nat) (x : Int), tv b (sd false []) n (-x) = - tv a (sd false []) n x
  | 0, x => rfl
  | n + 1, x => by
    have hz : sd false [] n = 0 := by unfold sd; rw [if_pos (by simp)]
    show tv b (sd false []) n (10 * -x + b n - sd false [] n) = - tv a (sd false []) n (10 * x + a n - sd false [] n)
    rw [hz, h n, ← tv_neg a b h n]
    congr 1
    omega

theorem ev_minus (d : List UInt8) : Ev true d = - Ev false d := by
  have h : ∀ k, sd true d k = - sd false d k := by
    intro k
    unfold sd
    by_cases c : d.length ≤ k
    · rw [if_pos c, if_pos c]; rfl
    · rw [if_neg c, if_neg c, if_pos rfl, if_neg (by decide)]
  have := tv_neg (sd false d) (sd true d) h (max d.length ([] : List UInt8).length) 0
  exact this

/-- The text of a sign, digits and an exponent. -/
def etxt (m : Bool) (g : List UInt8) (e : UInt8) (p : Bool) (d : List UInt8) : List UInt8 := (if m then [45] else []) ++ (g ++ e :: ((if p then [45] else []) ++ d))

theorem pcut_exp (m : Bool) (g : List UInt8) (e : UInt8) (p : Bool) (d : List UInt8) (hg : allD g) (hd : allD d) (h0 : g ≠ []) (hb : badW g = false) (he : e = 101 ∨ e = 69) (hd0 : d ≠ []) : pcut (etxt m g e p d) = some (m, g, [], p, d) := by
  obtain ⟨a, g', rfl⟩ : ∃ a g', g = a :: g' := by
    cases g with
    | nil => exact absurd rfl h0
    | cons a g' => exact ⟨a, g', rfl⟩
  obtain ⟨c, d', rfl⟩ : ∃ c d', d = c :: d' := by
    cases d with
    | nil => exact absurd rfl hd0
    | cons c d' => exact ⟨c, d', rfl⟩
  have ha := isD_bd (hg a (List.mem_cons_self ..))
  have hc := isD_bd (hd c (List.mem_cons_self ..))
  have ha45 : a ≠ 45 := fun e => by rw [e] at ha; exact absurd ha.1 (by decide)
  have hc45 : c ≠ 45 := fun e => by rw [e] at hc; exact absurd hc.1 (by decide)
  have hc43 : c ≠ 43 := fun e => by rw [e] at hc; exact absurd hc.1 (by decide)
  have heD : isD e = false := by rcases he with h | h <;> rw [h] <;> decide
  have he46 : e ≠ 46 := by rcases he with h | h <;> rw [h] <;> decide
  have hdec : decide ((etxt m (a :: g') e p (c :: d')).head? = some 45) = m := by
    unfold etxt
    cases m
    · simp [ha45]
    · simp
  have hcut : cutL (etxt m (a :: g') e p (c :: d')) = a :: g' ++ e :: ((if p then [45] else []) ++ (c :: d')) := by
    unfold cutL etxt
    cases m
    · simp [ha45]
    · simp
  obtain ⟨e1, e2⟩ := digs_app (a :: g') (e :: ((if p then [45] else []) ++ (c :: d'))) hg (fun c t h => by injection h with h1 _; rw [← h1]; exact heD)
  obtain ⟨e3, e4⟩ := digs_app (c :: d') [] hd (fun c t h => by cases h)
  rw [List.append_nil] at e3 e4
  unfold pcut pcut1
  rw [hdec, hcut, e1, e2]
  unfold pcut2
  rw [if_neg (by rw [hb]; decide)]
  have e5 : cutF (e :: ((if p then [45] else []) ++ (c :: d'))) = ([], e :: ((if p then [45] else []) ++ (c :: d')), true) := by
    unfold cutF
    rw [if_neg (by simp [he46])]
  rw [e5]
  have hE : isE (e :: ((if p then [45] else []) ++ (c :: d'))) := by
    unfold isE
    rcases he with h | h <;> rw [h] <;> simp
  have e6 : cutP (e :: ((if p then [45] else []) ++ (c :: d'))) = (p, c :: d', [], true) := by
    unfold cutP
    rw [if_pos hE]
    cases p
    · have hs : skS (c :: d') = c :: d' := by unfold skS isS; simp [hc45, hc43]
      simp only [List.tail_cons, if_neg (show ¬ (false = true) by decide), List.nil_append, hs, e3, e4]
      simp [hc45]
    · have hs : skS (45 :: c :: d') = c :: d' := by unfold skS isS; simp
      simp only [List.tail_cons, if_true, List.singleton_append, hs, e3, e4]
      simp
  unfold pcut3
  rw [e6]
  rfl

/-- A number without a dot and an exponent. -/
theorem pcut_nodot {l : List UInt8} {x : PartsM} (h : pcut l = some x) (hno : ∀ c ∈ l, c ≠ 46 ∧ c ≠ 101 ∧ c ≠ 69) : ∃ m g, x = (m, g, [], false, []) ∧ l = txt m g [] ∧ allD g ∧ g ≠ [] ∧ badW g = false := by
  have hsub : ∀ c, c ∈ cutL l → c ∈ l := by
    intro c hc
    unfold cutL at hc
    split at hc
    · exact List.mem_of_mem_tail hc
    · exact hc
  unfold pcut pcut1 at h
  have hlc : l = (if decide (l.head? = some 45) = true then [45] else []) ++ cutL l := by
    unfold cutL
    cases l with
    | nil => simp
    | cons a t =>
      by_cases ha : a = 45
      · subst ha; simp
      · simp [ha]
  generalize decide (l.head? = some 45) = m at h hlc
  generalize cutL l = l1 at h hsub hlc
  have hr : ∀ c, c ∈ rst l1 → c ∈ l := fun c hc => hsub c (List.mem_of_mem_drop hc)
  unfold pcut2 at h
  split at h
  · cases h
  next hb =>
  have hF : cutF (rst l1) = ([], rst l1, true) := by
    unfold cutF
    rw [if_neg]
    intro hh
    have : (46 : UInt8) ∈ rst l1 := List.mem_of_head? hh
    exact (hno 46 (hr 46 this)).1 rfl
  rw [hF] at h
  unfold pcut3 at h
  rw [if_neg (fun e => by cases e)] at h
  have hP : cutP (rst l1) = (false, [], rst l1, true) := by
    unfold cutP
    rw [if_neg]
    intro hh
    rcases hh with hh | hh
    · exact (hno 101 (hr 101 (List.mem_of_head? hh))).2.1 rfl
    · exact (hno 69 (hr 69 (List.mem_of_head? hh))).2.2 rfl
  rw [hP] at h
  unfold pcut4 at h
  rw [if_neg (fun e => by cases e)] at h
  split at h
  · next hrn0 =>
    have hrn : rst l1 = [] := hrn0
    cases h
    have hl1 : l1 = digs l1 := by
      have : digs l1 ++ rst l1 = l1 := by unfold digs rst; exact List.take_append_drop _ _
      rw [hrn, List.append_nil] at this
      exact this.symm
    have hbw : badW (digs l1) = false := by simpa using hb
    refine ⟨m, digs l1, rfl, ?_, digs_all l1, ?_, hbw⟩
    · unfold txt
      rw [if_pos rfl, List.append_nil, ← hl1]
      exact hlc
    · intro e
      rw [e] at hbw
      exact absurd hbw (by decide)
  · cases h

theorem tl_app (a s : List UInt8) (h : tl a ≠ []) : tl (a ++ s) = tl a ++ s := by
  unfold tl at h ⊢
  induction a with
  | nil => exact absurd rfl h
  | cons x t ih =>
    rw [List.cons_append, List.dropWhile_cons, List.dropWhile_cons] at *
    by_cases hx : (x == 48) = true
    · rw [if_pos hx] at h ⊢
      rw [if_pos hx]
      exact ih h
    · rw [if_neg hx, if_neg hx]; rfl

theorem tl_nil_app (a s : List UInt8) (h : tl a = []) : tl (a ++ s) = tl s := by
  unfold tl at h ⊢
  induction a with
  | nil => rfl
  | cons x t ih =>
    rw [List.cons_append, List.dropWhile_cons]
    rw [List.dropWhile_cons] at h
    by_cases hx : (x == 48) = true
    · rw [if_pos hx] at h ⊢; exact ih h
    · rw [if_neg hx] at h; cases h

theorem tl_noughts (k : Nat) : tl (List.replicate k 48) = [] := by
  unfold tl
  induction k with
  | zero => rfl
  | succ k ih =>
    rw [List.replicate_succ, List.dropWhile_cons, if_pos (by decide)]
    exact ih

theorem tr_app (a : List UInt8) (k : Nat) : tr (a ++ List.replicate k 48) = tr a := by
  unfold tr
  rw [List.reverse_append, List.reverse_replicate, tl_nil_app _ _ (tl_noughts k)]

/-- Noughts behind a number, and its exponent, say the same. -/
theorem shift_key (m p : Bool) (g d : List UInt8) (k : Nat) (E : Int) (hE : Ev p d = E) :
    zof (m, g ++ List.replicate k 48, [], p, d) = zof (m, g, [], false, []) ∧ (zof (m, g, [], false, []) ≠ [] → Pof (m, g ++ List.replicate k 48, [], p, d) = Pof (m, g, [], false, []) + k + E) := by
  have z1 : zof (m, g ++ List.replicate k 48, [], p, d) = tr (tl (g ++ List.replicate k 48)) := by show tr (tl (_ ++ [])) = _; rw [List.append_nil]
  have z2 : zof (m, g, [], false, []) = tr (tl g) := by show tr (tl (_ ++ [])) = _; rw [List.append_nil]
  have p1 : Pof (m, g ++ List.replicate k 48, [], p, d) = ((tl (g ++ List.replicate k 48)).length : Int) + E := by
    show ((g ++ List.replicate k 48).length : Int) - ((((g ++ List.replicate k 48) ++ []).length : Int) - ((tl ((g ++ List.replicate k 48) ++ [])).length : Int)) + Ev p d = _
    rw [List.append_nil, hE]
    omega
  have p2 : Pof (m, g, [], false, []) = ((tl g).length : Int) := by
    show (g.length : Int) - (((g ++ []).length : Int) - ((tl (g ++ [])).length : Int)) + Ev false [] = _
    rw [List.append_nil, show Ev false [] = 0 from by decide]
    omega
  rw [z1, z2, p1, p2]
  by_cases h : tl g = []
  · rw [tl_nil_app _ _ h, tl_noughts, h]
    exact ⟨rfl, fun h => absurd rfl h⟩
  · rw [tl_app _ _ h, tr_app]
    refine ⟨rfl, fun _ => ?_⟩
    rw [List.length_append, List.length_replicate]
    omega

theorem okey_same (x y : PartsM) (hm : x.1 = y.1) (hz : zof x = zof y) (hP : zof y ≠ [] → Pof x = Pof y) : okey x y = 0 := by
  unfold okey
  rw [hm, hz, if_pos rfl]
  by_cases h : zof y = []
  · rw [(sgn_nz y.1 (zof y)).2 h, Int.zero_mul]
  · rw [hP h, ck_self, Int.mul_zero]

theorem near_same (x y : PartsM) (a b : Nat) (hx : NearS x a) (hy : NearS y b) (hz : zof x = zof y) (hP : zof y ≠ [] → Pof x = Pof y) : a = b := by
  by_cases h : zof y = []
  · rw [near_nought hx (hz.trans h), near_nought hy h]
  · unfold NearS at hx hy
    rw [hz, hP h] at hx
    exact hx.one hy (vD_pos _ _) (vD_pos _ _) rfl

theorem allD_rep (g : List UInt8) (hg : allD g) (k : Nat) : allD (g ++ List.replicate k 48) := fun c hc => by
  rcases List.mem_append.1 hc with h | h
  · exact hg c h
  · rw [(List.mem_replicate.1 h).2]; decide

end Go.Proofs.YtgkbbcoagnilgabDoor
