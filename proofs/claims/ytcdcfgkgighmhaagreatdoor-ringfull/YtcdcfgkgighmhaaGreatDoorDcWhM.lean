import Derived.Test.YtcdcfgkgighmhaaGreatDoorDcTrim
import Derived.Lib.ParseIntB
namespace Go.Proofs.YtcdcfgkgighmhaaGreatDoor.Dec
open Go.RowKit

theorem isD_rg {c : UInt8} (h : isD c = true) : 48 ≤ c.toNat ∧ c.toNat ≤ 57 := by
  unfold isD at h; simp at h; exact h

theorem digs_al (l : List UInt8) : ∀ c ∈ digs l, isD c = true := by
  intro c hc
  obtain ⟨i, hi, e⟩ := List.getElem_of_mem hc
  have hi' : i < nd l := by rw [← digs_length]; exact hi
  have hl := nd_le l
  have hil : i < l.length := by omega
  have e1 : (digs l)[i] = l[i] := by
    have e2 : (digs l)[i]? = l[i]? := by unfold digs; rw [List.getElem?_take_of_lt hi']
    rw [List.getElem?_eq_getElem hi, List.getElem?_eq_getElem hil] at e2
    exact Option.some.inj e2
  rw [← e, e1]
  exact (nd_lt l i (by omega) hil).1 hi'

/-- The number that digits say, behind acc. -/
def natOf (acc : Nat) : List UInt8 → Nat
  | [] => acc
  | c :: r => natOf (acc * 10 + (c.toNat - 48)) r

theorem natOf_ge : ∀ (l : List UInt8) (acc : Nat), acc ≤ natOf acc l
  | [], acc => Nat.le_refl _
  | c :: r, acc => by
    have := natOf_ge r (acc * 10 + (c.toNat - 48))
    show acc ≤ natOf (acc * 10 + (c.toNat - 48)) r
    omega

theorem natOf_append : ∀ (a b : List UInt8) (acc : Nat), natOf acc (a ++ b) = natOf (natOf acc a) b
  | [], _, _ => rfl
  | _ :: r, b, _ => natOf_append r b _

theorem natOf_snoc (a : List UInt8) (c : UInt8) : natOf 0 (a ++ [c]) = natOf 0 a * 10 + (c.toNat - 48) := by rw [natOf_append]; rfl

theorem natOf_take (g : List UInt8) (i : Nat) : natOf 0 (g.take i) ≤ natOf 0 g := by
  have e : natOf 0 g = natOf 0 (g.take i ++ g.drop i) := by rw [List.take_append_drop]
  rw [e, natOf_append]
  exact natOf_ge _ _

theorem pum_ok (M : Nat) : ∀ (l : List UInt8) (acc u : Nat), Lib.parseUintM M acc l = .ok u → (∀ c ∈ l, isD c = true) ∧ natOf acc l = u
  | [], acc, u, h => by
    unfold Lib.parseUintM at h
    cases h
    exact ⟨fun c hc => by simp at hc, rfl⟩
  | c :: r, acc, u, h => by
    unfold Lib.parseUintM at h
    split at h
    · rename_i hd
      split at h
      · cases h
      · split at h
        · cases h
        · have ih := pum_ok M r _ u h
          refine ⟨fun x hx => ?_, ih.2⟩
          rcases List.mem_cons.1 hx with e | e
          · rw [e]; unfold isD; simp; exact hd
          · exact ih.1 x e
    · cases h

theorem pum_digits : ∀ (l : List UInt8) (acc : Nat), (∀ c ∈ l, isD c = true) → Lib.parseUintM 18446744073709551615 acc l = .ok (natOf acc l) ∨ (Lib.parseUintM 18446744073709551615 acc l = .range ∧ 18446744073709551615 < natOf acc l)
  | [], acc, _ => .inl (by unfold Lib.parseUintM; rfl)
  | c :: r, acc, h => by
    have hc := isD_rg (h c (by simp))
    have hr : ∀ x ∈ r, isD x = true := fun x hx => h x (by simp [hx])
    have hge := natOf_ge r (acc * 10 + (c.toNat - 48))
    have e : natOf acc (c :: r) = natOf (acc * 10 + (c.toNat - 48)) r := rfl
    unfold Lib.parseUintM
    rw [if_pos hc]
    by_cases h1 : 1844674407370955162 ≤ acc
    · rw [if_pos h1]
      exact .inr ⟨rfl, by rw [e]; omega⟩
    · rw [if_neg h1]
      by_cases h2 : 18446744073709551615 < acc * 10 + (c.toNat - 48)
      · rw [if_pos h2]
        exact .inr ⟨rfl, by rw [e]; omega⟩
      · rw [if_neg h2, e]
        exact pum_digits r _ hr

/-- What Whole answers of a sign and digits. -/
def wholeG (m : Bool) (g : List UInt8) : Int × Bool :=
  if 9223372036854775808 < natOf 0 g then (0, false) else if m then (-(natOf 0 g : Int), true) else if natOf 0 g = 9223372036854775808 then (0, false) else ((natOf 0 g : Int), true)

def wholeV : Option PartsM → Int × Bool
  | some (m, g, f, _, d) => if (f.isEmpty && d.isEmpty) = true then wholeG m g else (0, false)
  | none => (0, false)

theorem digs_of_all {l : List UInt8} (h : ∀ c ∈ l, isD c = true) : digs l = l ∧ rst l = [] := by
  have hn : nd l = l.length := by
    have h1 := nd_le l
    rcases Nat.lt_or_ge (nd l) l.length with h2 | h2
    · have := (nd_lt l (nd l) (Nat.le_refl _) h2).2 (h _ (List.getElem_mem h2))
      omega
    · omega
  unfold digs rst
  rw [hn]
  simp

theorem dig_app (l : List UInt8) : digs l ++ rst l = l := by unfold digs rst; exact List.take_append_drop _ _

/-- Where all behind the sign is digits, and it is a number: what its parts are. -/
theorem pcut_plain {l : List UInt8} {m p : Bool} {g f d : List UInt8} (h : pcut l = some (m, g, f, p, d)) (he : (f.isEmpty && d.isEmpty) = true) : cutL l = g ∧ m = decide (l.head? = some 45) ∧ g ≠ [] ∧ ∀ c ∈ g, isD c = true := by
  unfold pcut pcut1 pcut2 pcut3 pcut4 at h
  generalize hl1 : cutL l = l1 at h ⊢
  split at h
  · cases h
  rename_i hbad
  split at h
  · cases h
  rename_i hF
  split at h
  · cases h
  rename_i hP
  split at h
  · rename_i h3
    cases h
    rw [Bool.and_eq_true] at he
    have hf : ¬ (rst l1).head? = some 46 := by
      intro hh
      unfold cutF at hF he
      rw [if_pos hh] at hF
      rw [if_pos hh] at he
      simp only [he.1, Bool.not_true, not_true_eq_false] at hF
    have eF : cutF (rst l1) = ([], rst l1, true) := by unfold cutF; rw [if_neg hf]
    rw [eF] at hP h3 he
    have hE : ¬ isE (rst l1) := by
      intro hh
      unfold cutP at hP he
      rw [if_pos hh] at hP he
      simp only [he.2, Bool.not_true, not_true_eq_false] at hP
    have eP : cutP (rst l1) = (false, [], rst l1, true) := by unfold cutP; rw [if_neg hE]
    simp only [eP] at h3
    refine ⟨?_, rfl, ?_, digs_al l1⟩
    · have := dig_app l1
      rw [h3, List.append_nil] at this
      exact this.symm
    · intro e
      apply hbad
      unfold badW
      rw [e]; rfl
  · cases h

theorem pib_eq (c : UInt8) (r : List UInt8) : Lib.parseIntB 64 (c :: r) = (match Lib.parseUintB 64 (if c.toNat = 43 ∨ c.toNat = 45 then r else c :: r) with
    | .syntax => .syntax
    | .range => .range
    | .ok u => if ¬ c.toNat = 45 ∧ 9223372036854775808 ≤ u then .range else if c.toNat = 45 ∧ 9223372036854775808 < u then .range else .ok (if c.toNat = 45 then -(u : Int) else u)) := rfl

theorem pib_neg (r : List UInt8) : Lib.parseIntB 64 (45 :: r) = (match Lib.parseUintB 64 r with
    | .syntax => .syntax
    | .range => .range
    | .ok u => if 9223372036854775808 < u then .range else .ok (-(u : Int))) := by
  rw [pib_eq]
  have e : (45 : UInt8).toNat = 45 := rfl
  rw [if_pos (.inr e)]
  cases Lib.parseUintB 64 r with
  | ok u => simp [e]
  | «syntax» => rfl
  | range => rfl

theorem pib_pos (c : UInt8) (r : List UInt8) (h1 : c.toNat ≠ 43) (h2 : c.toNat ≠ 45) : Lib.parseIntB 64 (c :: r) = (match Lib.parseUintB 64 (c :: r) with
    | .syntax => .syntax
    | .range => .range
    | .ok u => if 9223372036854775808 ≤ u then .range else .ok (u : Int)) := by
  rw [pib_eq, if_neg (by omega)]
  cases Lib.parseUintB 64 (c :: r) with
  | ok u => simp [h2]
  | «syntax» => rfl
  | range => rfl

theorem pib_ok (c : UInt8) (r : List UInt8) (v : Int) (h : Lib.parseIntB 64 (c :: r) = .ok v) : ∃ u, Lib.parseUintB 64 (if c.toNat = 43 ∨ c.toNat = 45 then r else c :: r) = .ok u := by
  rw [pib_eq] at h
  cases hq : Lib.parseUintB 64 (if c.toNat = 43 ∨ c.toNat = 45 then r else c :: r) with
  | ok u => exact ⟨u, rfl⟩
  | «syntax» => rw [hq] at h; cases h
  | range => rw [hq] at h; cases h

/-- ParseInt's end, and what Whole wants of it. -/
theorem parse_whole (l : List UInt8) : wholeV (pcut l) = match Lib.parseIntB 64 l, pcut l with
    | .ok v, some _ => (v, true)
    | _, _ => (0, false) := by
  rcases hp : pcut l with _ | ⟨m, g, f, p, d⟩
  · cases Lib.parseIntB 64 l <;> rfl
  · show (if (f.isEmpty && d.isEmpty) = true then wholeG m g else (0, false)) = _
    by_cases he : (f.isEmpty && d.isEmpty) = true
    · rw [if_pos he]
      obtain ⟨hc, hm, hne, hall⟩ := pcut_plain hp he
      have hu : Lib.parseIntB 64 l = match Lib.parseUintB 64 g with
          | .syntax => .syntax
          | .range => .range
          | .ok u => if m = true then (if 9223372036854775808 < u then .range else .ok (-(u : Int))) else (if 9223372036854775808 ≤ u then .range else .ok (u : Int)) := by
        cases l with
        | nil =>
          have : g = [] := by rw [← hc]; rfl
          exact absurd this hne
        | cons c r =>
          by_cases h45 : c = 45
          · subst h45
            have hmt : m = true := by rw [hm]; rfl
            have hg : r = g := by rw [← hc]; rfl
            rw [pib_neg, hg, hmt]
            rfl
          · have hmf : m = false := by rw [hm]; simp [h45]
            have hg : c :: r = g := by rw [← hc]; unfold cutL; rw [if_neg (by simpa using h45)]
            have hcD := isD_rg (hall c (by rw [← hg]; simp))
            rw [pib_pos c r (by omega) (by omega), hg, hmf]
            rfl
      have hB : Lib.parseUintB 64 g = Lib.parseUintM 18446744073709551615 0 g := by unfold Lib.parseUintB; rw [if_neg hne]
      rw [hB] at hu
      unfold wholeG
      rcases pum_digits g 0 hall with h | ⟨h, h2⟩
      · rw [h] at hu
        rw [hu]
        by_cases h63 : 9223372036854775808 < natOf 0 g
        · rw [if_pos h63]
          cases m
          · show _ = (match (if 9223372036854775808 ≤ natOf 0 g then Lib.NumEnd.range else .ok (natOf 0 g : Int)), some (false, g, f, p, d) with | .ok v, some _ => (v, true) | _, _ => ((0 : Int), false))
            rw [if_pos (by omega)]
          · show _ = (match (if 9223372036854775808 < natOf 0 g then Lib.NumEnd.range else .ok (-(natOf 0 g : Int))), some (true, g, f, p, d) with | .ok v, some _ => (v, true) | _, _ => ((0 : Int), false))
            rw [if_pos h63]
        · rw [if_neg h63]
          cases m
          · show (if natOf 0 g = 9223372036854775808 then ((0 : Int), false) else ((natOf 0 g : Int), true)) = (match (if 9223372036854775808 ≤ natOf 0 g then Lib.NumEnd.range else .ok (natOf 0 g : Int)), some (false, g, f, p, d) with | .ok v, some _ => (v, true) | _, _ => ((0 : Int), false))
            by_cases heq : natOf 0 g = 9223372036854775808
            · rw [if_pos heq, if_pos (by omega)]
            · rw [if_neg heq, if_neg (by omega)]
          · show (-(natOf 0 g : Int), true) = (match (if 9223372036854775808 < natOf 0 g then Lib.NumEnd.range else .ok (-(natOf 0 g : Int))), some (true, g, f, p, d) with | .ok v, some _ => (v, true) | _, _ => ((0 : Int), false))
            rw [if_neg h63]
      · rw [h] at hu
        rw [hu, if_pos (by omega)]
    · rw [if_neg he]
      rcases hu : Lib.parseIntB 64 l with v | _ | _
      · exfalso
        -- all behind the sign is digits: no dot, no exponent
        cases l with
        | nil => unfold Lib.parseIntB at hu; cases hu
        | cons c r =>
          have hcut : ∀ x, (if c.toNat = 43 ∨ c.toNat = 45 then r else c :: r) = x → (∀ y ∈ x, isD y = true) → False := by
            intro x hx hall
            by_cases h45 : c.toNat = 45
            · have hc45 : c = 45 := UInt8.toNat_inj.1 h45
              rw [if_pos (.inr h45)] at hx
              subst hx
              have e1 : cutL (c :: r) = r := by unfold cutL; rw [if_pos (by simp [hc45])]; rfl
              obtain ⟨e2, e3⟩ := digs_of_all hall
              unfold pcut pcut1 pcut2 pcut3 pcut4 at hp
              rw [e1, e3] at hp
              have eF : cutF [] = ([], [], true) := rfl
              have eP : cutP [] = (false, [], [], true) := rfl
              rw [eF] at hp
              simp only [eP] at hp
              split at hp
              · cases hp
              · simp at hp
                obtain ⟨_, _, h1, _, h2⟩ := hp
                apply he
                rw [h1, h2]; rfl
            · by_cases h43 : c.toNat = 43
              · have hc43 : c = 43 := UInt8.toNat_inj.1 h43
                -- a plus is no number
                have e1 : cutL (c :: r) = c :: r := by unfold cutL; rw [if_neg (by simp [hc43])]
                have e2 : digs (c :: r) = [] := by
                  unfold digs nd
                  rw [hc43]
                  rfl
                unfold pcut pcut1 pcut2 at hp
                rw [e1, e2] at hp
                simp [badW] at hp
              · rw [if_neg (by omega)] at hx
                subst hx
                have e1 : cutL (c :: r) = c :: r := by
                  unfold cutL
                  rw [if_neg]
                  intro h
                  have : c = 45 := by simpa using h
                  apply h45
                  rw [this]; rfl
                obtain ⟨e2, e3⟩ := digs_of_all hall
                unfold pcut pcut1 pcut2 pcut3 pcut4 at hp
                rw [e1, e3] at hp
                have eF : cutF [] = ([], [], true) := rfl
                have eP : cutP [] = (false, [], [], true) := rfl
                rw [eF] at hp
                simp only [eP] at hp
                split at hp
                · cases hp
                · simp at hp
                  obtain ⟨_, _, h1, _, h2⟩ := hp
                  apply he
                  rw [h1, h2]; rfl
          obtain ⟨u, hq⟩ := pib_ok c r v hu
          have hx := hcut _ rfl
          generalize (if c.toNat = 43 ∨ c.toNat = 45 then r else c :: r) = x at hq hx
          unfold Lib.parseUintB at hq
          by_cases h0 : x = []
          · rw [if_pos h0] at hq; cases hq
          · rw [if_neg h0] at hq
            exact hx (pum_ok _ _ _ _ hq).1
      · rfl
      · rfl

end Go.Proofs.YtcdcfgkgighmhaaGreatDoor.Dec