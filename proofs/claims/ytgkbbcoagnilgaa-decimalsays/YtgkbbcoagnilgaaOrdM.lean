import Derived.Test.YtgkbbcoagnilgaaNearT
namespace Go.Proofs.Ytgkbbcoagnilgaa
open Go.RowKit

theorem tv_lin (a b : Nat → Int) : ∀ (n : Nat) (x y : Int), tv a b n (x - y) = tv a (sd false []) n x - tv b (sd false []) n y
  | 0, x, y => rfl
  | n + 1, x, y => by
    have hz : sd false [] n = 0 := by unfold sd; rw [if_pos (by simp)]
    show tv a b n (10 * (x - y) + a n - b n) = tv a (sd false []) n (10 * x + a n - sd false [] n) - tv b (sd false []) n (10 * y + b n - sd false [] n)
    rw [hz, ← tv_lin a b n]
    congr 1
    omega

theorem tv_skip (a : Nat → Int) (N : Nat) (ha : ∀ k, N ≤ k → a k = 0) : ∀ m, tv a (sd false []) (N + m) 0 = tv a (sd false []) N 0
  | 0 => rfl
  | m + 1 => by
    have hz : sd false [] (N + m) = 0 := by unfold sd; rw [if_pos (by simp)]
    show tv a (sd false []) (N + m) (10 * 0 + a (N + m) - sd false [] (N + m)) = _
    rw [hz, ha (N + m) (by omega)]
    exact tv_skip a N ha m

theorem ev_long (p : Bool) (d : List UInt8) (n : Nat) (h : d.length ≤ n) : tv (sd p d) (sd false []) n 0 = Ev p d := by
  obtain ⟨m, rfl⟩ : ∃ m, n = d.length + m := ⟨n - d.length, by omega⟩
  unfold Ev
  rw [tv_skip _ d.length (fun k hk => sd_hi _ _ _ hk) m]
  congr 1
  simp

theorem gap_ev (px py : Bool) (dx dy : List UInt8) (hx : allD dx) (hy : allD dy) (K : Int) (h1 : -1099511627000 ≤ K) (h2 : K ≤ 1099511627000) : cmp3 (K + dif0 px dx py dy) 0 = cmp3 (K + (Ev px dx - Ev py dy)) 0 := by
  unfold dif0
  rw [dif_sign _ _ (fun k => sd_bd px _ k hx) (fun k => sd_bd py _ k hy) K h1 h2]
  have e : tv (sd px dx) (sd py dy) (max dx.length dy.length) 0 = Ev px dx - Ev py dy := by
    rw [← ev_long px dx _ (Nat.le_max_left dx.length dy.length), ← ev_long py dy _ (Nat.le_max_right dx.length dy.length), ← tv_lin]
    rfl
  rw [e]

/-- How two numbers stand to each other without their signs. -/
def ckey (P : Int) (z : List UInt8) (Q : Int) (y : List UInt8) : Int := if P = Q then Lib.compareBytes z y else if P < Q then -1 else 1

theorem csz_key (zx dx zy dy : List UInt8) (px py : Bool) (ox oy : Int) (hx : allD dx) (hy : allD dy) (h1 : -1099511627000 ≤ ox - oy) (h2 : ox - oy ≤ 1099511627000) :
    csz zx ox px dx zy oy py dy = ckey (ox + Ev px dx) zx (oy + Ev py dy) zy := by
  have h := cmp3_lt (gap_ev px py dx dy hx hy (ox - oy) h1 h2)
  unfold csz ckey
  by_cases c0 : ox - oy + dif0 px dx py dy = 0
  · rw [if_neg (by omega), if_pos (by omega)]
  · rw [if_pos c0, if_neg (by omega)]
    by_cases c1 : ox - oy + dif0 px dx py dy < 0
    · rw [cmp3_neg c1, if_pos (by omega)]
    · rw [cmp3_pos (by omega), if_neg (by omega)]

theorem cb_self : ∀ a : List UInt8, Lib.compareBytes a a = 0
  | [] => rfl
  | x :: a => by unfold Lib.compareBytes; rw [if_neg (UInt8.lt_irrefl x), if_neg (UInt8.lt_irrefl x)]; exact cb_self a

theorem cb_turn : ∀ a b : List UInt8, Lib.compareBytes b a = - Lib.compareBytes a b
  | [], [] => rfl
  | [], _ :: _ => rfl
  | _ :: _, [] => rfl
  | x :: a, y :: b => by
    unfold Lib.compareBytes
    by_cases h1 : x < y
    · have h2 : ¬ y < x := fun h => UInt8.lt_irrefl x (UInt8.lt_trans h1 h)
      rw [if_neg h2, if_pos h1, if_pos h1]; rfl
    · by_cases h2 : y < x
      · rw [if_pos h2, if_neg h1, if_pos h2]
      · rw [if_neg h2, if_neg h1, if_neg h1, if_neg h2]; exact cb_turn a b

theorem cb_trans : ∀ a b c : List UInt8, Lib.compareBytes a b ≤ 0 → Lib.compareBytes b c ≤ 0 → Lib.compareBytes a c ≤ 0
  | [], _, [], _, _ => by simp [Lib.compareBytes]
  | [], _, _ :: _, _, _ => by simp [Lib.compareBytes]
  | x :: a, [], c, h, _ => by simp [Lib.compareBytes] at h
  | x :: a, y :: b, [], _, h => by simp [Lib.compareBytes] at h
  | x :: a, y :: b, z :: c, h1, h2 => by
    unfold Lib.compareBytes at h1 h2 ⊢
    have key : ∀ u v : UInt8, u < v ↔ u.toNat < v.toNat := fun u v => UInt8.lt_iff_toNat_lt
    simp only [key] at h1 h2 ⊢
    by_cases c1 : x.toNat < y.toNat
    · rw [if_pos c1] at h1
      by_cases c2 : z.toNat < y.toNat
      · rw [if_neg (by omega), if_pos c2] at h2; omega
      · rw [if_pos (by omega)]; omega
    · by_cases c2 : y.toNat < x.toNat
      · rw [if_neg c1, if_pos c2] at h1; omega
      · rw [if_neg c1, if_neg c2] at h1
        by_cases c3 : y.toNat < z.toNat
        · rw [if_pos (by omega)]; omega
        · by_cases c4 : z.toNat < y.toNat
          · rw [if_neg c3, if_pos c4] at h2; omega
          · rw [if_neg c3, if_neg c4] at h2
            rw [if_neg (by omega), if_neg (by omega)]
            exact cb_trans a b c h1 h2

theorem cb_bd (a b : List UInt8) : -1 ≤ Lib.compareBytes a b ∧ Lib.compareBytes a b ≤ 1 := by
  induction a generalizing b with
  | nil => cases b <;> simp [Lib.compareBytes]
  | cons x a ih =>
    cases b with
    | nil => simp [Lib.compareBytes]
    | cons y b =>
      unfold Lib.compareBytes
      split
      · omega
      · split
        · omega
        · exact ih b

theorem ck_self (P : Int) (z : List UInt8) : ckey P z P z = 0 := by unfold ckey; rw [if_pos rfl]; exact cb_self z
theorem ck_turn (P Q : Int) (z y : List UInt8) : ckey Q y P z = - ckey P z Q y := by
  unfold ckey
  by_cases h : P = Q
  · rw [if_pos h, if_pos h.symm]; exact cb_turn z y
  · rw [if_neg h, if_neg (fun e => h e.symm)]
    by_cases h2 : P < Q
    · rw [if_pos h2, if_neg (by omega)]; rfl
    · rw [if_neg h2, if_pos (by omega)]
theorem ck_bd (P Q : Int) (z y : List UInt8) : -1 ≤ ckey P z Q y ∧ ckey P z Q y ≤ 1 := by
  unfold ckey
  split
  · exact cb_bd z y
  · split <;> omega
theorem ck_trans (P Q R : Int) (x y z : List UInt8) (h1 : ckey P x Q y ≤ 0) (h2 : ckey Q y R z ≤ 0) : ckey P x R z ≤ 0 := by
  unfold ckey at h1 h2 ⊢
  by_cases c1 : P = Q
  · subst c1
    rw [if_pos rfl] at h1
    by_cases c2 : P = R
    · rw [if_pos c2] at h2 ⊢; exact cb_trans x y z h1 h2
    · rw [if_neg c2] at h2 ⊢; exact h2
  · rw [if_neg c1] at h1
    have c3 : P < Q := by
      apply Decidable.byContradiction
      intro h; rw [if_neg h] at h1; omega
    by_cases c2 : Q = R
    · subst c2; rw [if_neg c1, if_pos c3]; omega
    · rw [if_neg c2] at h2
      have c4 : Q < R := by
        apply Decidable.byContradiction
        intro h; rw [if_neg h] at h2; omega
      rw [if_neg (by omega), if_pos (by omega)]; omega

/-- The order of two numbers by their keys. -/
def okey (x y : PartsM) : Int :=
  if sgn x.1 (zof x) = sgn y.1 (zof y) then sgn x.1 (zof x) * ckey (Pof x) (zof x) (Pof y) (zof y) else cmp3 (sgn x.1 (zof x)) (sgn y.1 (zof y))

theorem cmpP_key (x y : PartsM) (hx : allD x.2.2.2.2) (hy : allD y.2.2.2.2) (h1 : -1099511627000 ≤ oof x - oof y) (h2 : oof x - oof y ≤ 1099511627000) : cmpP x y = okey x y := by
  unfold cmpP okey
  rw [csz_key _ _ _ _ _ _ _ _ hx hy h1 h2]
  rfl

theorem sgn_three (m : Bool) (z : List UInt8) : sgn m z = -1 ∨ sgn m z = 0 ∨ sgn m z = 1 := by
  have := sgn_bd m z
  omega

theorem ok_self (x : PartsM) : okey x x = 0 := by unfold okey; rw [if_pos rfl, ck_self]; simp
theorem ok_turn (x y : PartsM) : okey y x = - okey x y := by
  unfold okey
  by_cases h : sgn x.1 (zof x) = sgn y.1 (zof y)
  · rw [if_pos h, if_pos h.symm, ck_turn (Pof x) (Pof y), ← h, Int.mul_neg]
  · rw [if_neg h, if_neg (fun e => h e.symm)]
    unfold cmp3
    by_cases h2 : sgn x.1 (zof x) < sgn y.1 (zof y)
    · rw [if_neg (by omega), if_pos h2, if_pos h2]; rfl
    · rw [if_pos (by omega), if_neg h2, if_pos (by omega)]
theorem ok_bd (x y : PartsM) : -1 ≤ okey x y ∧ okey x y ≤ 1 := by
  unfold okey
  have h := ck_bd (Pof x) (Pof y) (zof x) (zof y)
  generalize ckey (Pof x) (zof x) (Pof y) (zof y) = c at h
  split
  · rcases sgn_three x.1 (zof x) with e | e | e <;> rw [e] <;> omega
  · exact cmp3_bd _ _
theorem ok_le (x y : PartsM) (h : okey x y ≤ 0) : sgn x.1 (zof x) < sgn y.1 (zof y) ∨ (sgn x.1 (zof x) = sgn y.1 (zof y) ∧ sgn x.1 (zof x) * ckey (Pof x) (zof x) (Pof y) (zof y) ≤ 0) := by
  unfold okey at h
  by_cases e : sgn x.1 (zof x) = sgn y.1 (zof y)
  · rw [if_pos e] at h; exact .inr ⟨e, h⟩
  · rw [if_neg e] at h
    left
    unfold cmp3 at h
    apply Decidable.byContradiction
    intro h2
    rw [if_neg h2, if_pos (by omega)] at h
    omega
theorem ok_trans (x y z : PartsM) (h1 : okey x y ≤ 0) (h2 : okey y z ≤ 0) : okey x z ≤ 0 := by
  rcases ok_le x y h1 with a | ⟨a, a'⟩ <;> rcases ok_le y z h2 with b | ⟨b, b'⟩
  · unfold okey; rw [if_neg (by omega)]; unfold cmp3; rw [if_pos (by omega)]; omega
  · unfold okey; rw [if_neg (by omega)]; unfold cmp3; rw [if_pos (by omega)]; omega
  · unfold okey; rw [if_neg (by omega)]; unfold cmp3; rw [if_pos (by omega)]; omega
  · unfold okey
    rw [if_pos (a.trans b)]
    rw [← a] at b'
    rcases sgn_three x.1 (zof x) with e | e | e
    · rw [e] at a' b' ⊢
      have t1 := ck_turn (Pof x) (Pof y) (zof x) (zof y)
      have t2 := ck_turn (Pof y) (Pof z) (zof y) (zof z)
      have t3 := ck_turn (Pof x) (Pof z) (zof x) (zof z)
      have := ck_trans (Pof z) (Pof y) (Pof x) (zof z) (zof y) (zof x) (by omega) (by omega)
      omega
    · rw [e]; omega
    · rw [e] at a' b' ⊢
      have := ck_trans (Pof x) (Pof y) (Pof z) (zof x) (zof y) (zof z) (by omega) (by omega)
      omega

end Go.Proofs.Ytgkbbcoagnilgaa
