import Derived.Test.YtghfoppojdkhkaaGreatDoorCP
import Derived.Test.YtghfoppojdkhkaaGreatDoorCC
namespace Go.Proofs.YtghfoppojdkhkaaGreatDoor
theorem pigeon (M : Nat) : ∀ (N : Nat) (f : Nat → Nat), (∀ i, i < N → f i < M) → (∀ i j, i < N → j < N → f i = f j → i = j) → N ≤ M := by
  induction M with
  | zero =>
    intro N f hf _
    cases N with
    | zero => exact Nat.le_refl _
    | succ N => exact absurd (hf 0 (by omega)) (by omega)
  | succ M ih =>
    intro N f hf hi
    cases N with
    | zero => omega
    | succ N =>
      have h := ih N (fun i => if f i = M then f N else f i) (fun i h => ?_) (fun i j h1 h2 h3 => ?_)
      · omega
      · have h1 := hf i (by omega)
        have h2 := hf N (by omega)
        split
        · rename_i h3
          have h4 : f N ≠ M := fun h5 => by have := hi i N (by omega) (by omega) (by omega); omega
          omega
        · omega
      · have h4 := hi i N (by omega) (by omega)
        have h5 := hi j N (by omega) (by omega)
        split at h3 <;> split at h3
        · exact hi i j (by omega) (by omega) (by omega)
        · exact absurd (h5 h3.symm) (by omega)
        · exact absurd (h4 h3) (by omega)
        · exact hi i j (by omega) (by omega) h3
/-- A number for a point. -/
def enP (p : Nat) : Pt → Nat
  | .O => 2 * p
  | .A x y => 2 * x + y % 2
section
variable {p b : Nat} (C : Cv p b)
include C
omit C in
theorem enP_lt {P : Pt} (h : onP p b P) : enP p P < 2 * p + 1 := by
  cases P with
  | O => exact Nat.lt_succ_self _
  | A x y => have := h.1; simp only [enP]; omega
theorem Cv.enP_inj (hodd : p % 2 = 1) {P Q : Pt} (h1 : onP p b P) (h2 : onP p b Q) (h : enP p P = enP p Q) : P = Q := by
  cases P with
  | O =>
    cases Q with
    | O => rfl
    | A x y => have := h2.1; simp only [enP] at h; omega
  | A x y =>
    cases Q with
    | O => have := h1.1; simp only [enP] at h; omega
    | A u v =>
      simp only [enP] at h
      obtain rfl : x = u := by omega
      have hp : y % 2 = v % 2 := by omega
      have hy := h1.2.1
      have hv := h2.2.1
      have hd : (p : Int) ∣ ((y : Int) - v) * (y + v) := lc2 1 (-1) h1.2.2 h2.2.2 (by grind)
      rcases C.pr.mulI hd with h3 | h3
      · rw [eq_of_dvd hy hv h3]
      · have h4 : p ∣ y + v := Int.natCast_dvd_natCast.1 (by rw [Int.natCast_add]; exact h3)
        obtain ⟨c, hc⟩ := h4
        have hc2 : c < 2 := by
          apply Nat.lt_of_not_le
          intro h5
          have := Nat.mul_le_mul_left p h5
          omega
        have h6 : c = 0 ∨ c = 1 := by omega
        rcases h6 with rfl | rfl
        · obtain rfl : y = 0 := by omega
          obtain rfl : v = 0 := by omega
          rfl
        · exfalso
          rw [Nat.mul_one] at hc
          omega
theorem Cv.mO (k : Nat) : ml p k .O = .O := by
  induction k with
  | zero => rfl
  | succ k ih =>
    show sm p (ml p k .O) .O = .O
    rw [ih, C.zl (on_O (b := b))]
theorem Cv.four' {P Q R S : Pt} (h1 : onP p b P) (h2 : onP p b Q) (h3 : onP p b R) (h4 : onP p b S) : sm p (sm p P Q) (sm p R S) = sm p (sm p P R) (sm p Q S) := by
  rw [C.ass h1 h2 (C.son h3 h4), ← C.ass h2 h3 h4, C.comm h2 h3, C.ass h3 h2 h4, ← C.ass h1 h3 (C.son h2 h4)]
theorem Cv.msm {P Q : Pt} (h1 : onP p b P) (h2 : onP p b Q) (k : Nat) : ml p k (sm p P Q) = sm p (ml p k P) (ml p k Q) := by
  induction k with
  | zero => exact (C.zl (on_O (b := b))).symm
  | succ k ih =>
    show sm p (ml p k (sm p P Q)) (sm p P Q) = sm p (sm p (ml p k P) P) (sm p (ml p k Q) Q)
    rw [ih, C.four' (C.mon h1 k) (C.mon h2 k) h1 h2]
theorem Cv.mml {P : Pt} (h : onP p b P) (j k : Nat) : ml p (j * k) P = ml p j (ml p k P) := by
  induction j with
  | zero => rw [Nat.zero_mul]; rfl
  | succ j ih =>
    rw [Nat.succ_mul, C.madd h, ih]
    rfl
theorem Cv.left {P Q R : Pt} (h1 : onP p b P) (h2 : onP p b Q) (h3 : onP p b R) (h : sm p P Q = sm p P R) : Q = R := by
  have hn := ng_on (b := b) (by have := C.big; omega) h1
  have e : ∀ S, onP p b S → sm p (ng p P) (sm p P S) = S := fun S hS => by
    rw [← C.ass hn h1 hS, C.comm hn h1, C.neg h1, C.zl hS]
  rw [← e Q h2, h, e R h3]
/-- No point but infinity is its own opposite. -/
theorem Cv.tors {P : Pt} (h : onP p b P) (h2 : ml p 2 P = .O) : P = .O := by
  have h3 : sm p P P = .O := by
    have e : ml p 2 P = sm p (ml p 1 P) P := rfl
    rw [e, C.mone h] at h2
    exact h2
  have h4 := sm_O h h (h3 ▸ C.sm_sm h h)
  cases P with
  | O => rfl
  | A x y =>
    exfalso
    simp only [ng, Pt.A.injEq, true_and] at h4
    have h5 := ng_dvd h.2.1
    rw [← h4] at h5
    exact C.ynz h.2.2 (C.two (lc1 1 h5 (by grind)))
/-- What is a multiple modulo the order. -/
theorem Cv.mmod {P : Pt} {n : Nat} (h : onP p b P) (hn : ml p n P = .O) (k : Nat) : ml p (k % n) P = ml p k P := by
  have e : k = k / n * n + k % n := by rw [Nat.mul_comm]; exact (Nat.div_add_mod k n).symm
  have h2 := C.madd h (k / n * n) (k % n)
  rw [← e, C.mml h, hn, C.mO, C.zl (C.mon h _)] at h2
  exact h2.symm
theorem Cv.mcg {P : Pt} {n : Nat} (h : onP p b P) (hn : ml p n P = .O) {j k : Nat} (e : j % n = k % n) : ml p j P = ml p k P := by
  rw [← C.mmod h hn j, e, C.mmod h hn k]
theorem Cv.mord {G : Pt} {n : Nat} (hG : onP p b G) (hn : ml p n G = .O) (hp : Prim n) (h0 : G ≠ .O) {k : Nat} (hk : ml p k G = .O) : n ∣ k := by
  apply Classical.byContradiction
  intro hd
  have hd' : ¬ (n : Int) ∣ (k : Int) := fun h => hd (Int.natCast_dvd_natCast.1 h)
  obtain ⟨t, ht⟩ := hp.invI hd'
  have hn0 : 0 < n := by have := hp.1; omega
  have h1 : (n : Int) ∣ ((k * md n t : Nat) : Int) - (1 : Nat) := by
    have := md_dvd hn0 t
    rw [Int.natCast_mul]
    exact lc2 1 (k : Int) ht this (by grind)
  have h2 : (k * md n t) % n = 1 % n := by
    have h4 := Int.emod_eq_emod_iff_emod_sub_eq_zero.2 (Int.emod_eq_zero_of_dvd h1)
    exact_mod_cast h4
  have h3 := C.mcg hG hn h2
  rw [Nat.mul_comm, C.mml hG, hk, C.mO, C.mone hG] at h3
  exact h0 h3.symm
theorem Cv.all {G : Pt} {n : Nat} (hG : onP p b G) (hn : ml p n G = .O) (hp : Prim n) (h0 : G ≠ .O) (hodd : p % 2 = 1) (hno : n % 2 = 1) (hc : 2 * p + 1 < 3 * n) {P : Pt} (h : onP p b P) : ∃ k, P = ml p k G := by
  apply Classical.byContradiction
  intro hx
  have hn0 : 0 < n := by have := hp.1; omega
  have one : ∀ k, P ≠ ml p k G := fun k e => hx ⟨k, e⟩
  have two : ∀ k, ml p 2 P ≠ ml p k G := by
    intro k e
    have ht : k * ((n - 1) / 2) * 2 = k * (n - 1) := by
      rw [Nat.mul_assoc, Nat.div_mul_cancel (by omega)]
    have h1 : ml p 2 (sm p P (ml p (k * ((n - 1) / 2)) G)) = .O := by
      rw [C.msm h (C.mon hG _), e, ← C.mml hG, Nat.mul_comm 2, ht, ← C.madd hG]
      have e2 : k + k * (n - 1) = k * n := by
        obtain ⟨m, rfl⟩ : ∃ m, n = m + 1 := ⟨n - 1, by omega⟩
        rw [Nat.add_sub_cancel, Nat.mul_succ, Nat.add_comm]
      rw [e2, C.mml hG, hn, C.mO]
    have h2 := C.tors (C.son h (C.mon hG _)) h1
    have h3 : sm p (sm p P (ml p (k * ((n - 1) / 2)) G)) (ml p (k * ((n - 1) / 2) * (n - 1)) G) = P := by
      rw [C.ass h (C.mon hG _) (C.mon hG _), ← C.madd hG]
      have e2 : ∀ t, t + t * (n - 1) = t * n := fun t => by
        obtain ⟨m, rfl⟩ : ∃ m, n = m + 1 := ⟨n - 1, by omega⟩
        rw [Nat.add_sub_cancel, Nat.mul_succ, Nat.add_comm]
      rw [e2, C.mml hG, hn, C.mO, C.zr h]
    rw [h2, C.zl (C.mon hG _)] at h3
    exact one _ h3.symm
  have key : ∀ a c i j, a < c → c < 3 → i < n → j < n → sm p (ml p a P) (ml p i G) ≠ sm p (ml p c P) (ml p j G) := by
    intro a c i j hac hc3 hi hj e
    have e1 : ml p c P = sm p (ml p a P) (ml p (c - a) P) := by
      rw [← C.madd h]
      congr 1
      omega
    rw [e1, C.ass (C.mon h _) (C.mon h _) (C.mon hG _)] at e
    have e2 := C.left (C.mon h _) (C.mon hG _) (C.son (C.mon h _) (C.mon hG _)) e
    have e3 : ml p (i + (n - j)) G = ml p (c - a) P := by
      rw [C.madd hG, e2, C.ass (C.mon h _) (C.mon hG _) (C.mon hG _), ← C.madd hG, show j + (n - j) = n by omega, hn, C.zr (C.mon h _)]
    have h5 : c - a = 1 ∨ c - a = 2 := by omega
    rcases h5 with h5 | h5
    · rw [h5, C.mone h] at e3
      exact one _ e3.symm
    · rw [h5] at e3
      exact two _ e3.symm
  have same : ∀ i j, i < j → j < n → ml p i G ≠ ml p j G := by
    intro i j hij hj e
    have e1 : ml p j G = sm p (ml p i G) (ml p (j - i) G) := by
      rw [← C.madd hG]
      congr 1
      omega
    rw [e1] at e
    have e2 := C.left (C.mon hG i) (on_O (b := b)) (C.mon hG (j - i)) ((C.zr (C.mon hG i)).trans e)
    have h1 := C.mord hG hn hp h0 e2.symm
    have h2 := Nat.le_of_dvd (by omega) h1
    omega
  have hcard := pigeon (2 * p + 1) (3 * n) (fun i => enP p (sm p (ml p (i / n) P) (ml p (i % n) G))) (fun i _ => enP_lt (C.son (C.mon h _) (C.mon hG _))) (fun i j hi hj e => ?_)
  · omega
  · have e1 := C.enP_inj hodd (C.son (C.mon h _) (C.mon hG _)) (C.son (C.mon h _) (C.mon hG _)) e
    have a1 : i / n < 3 := (Nat.div_lt_iff_lt_mul hn0).2 hi
    have a2 : j / n < 3 := (Nat.div_lt_iff_lt_mul hn0).2 hj
    have b1 := Nat.mod_lt i hn0
    have b2 := Nat.mod_lt j hn0
    have d1 := Nat.div_add_mod i n
    have d2 := Nat.div_add_mod j n
    rcases Nat.lt_trichotomy (i / n) (j / n) with h1 | h1 | h1
    · exact absurd e1 (key _ _ _ _ h1 a2 b1 b2)
    · rw [h1] at e1
      have e2 := C.left (C.mon h _) (C.mon hG _) (C.mon hG _) e1
      rcases Nat.lt_trichotomy (i % n) (j % n) with h2 | h2 | h2
      · exact absurd e2 (same _ _ h2 b2)
      · rw [← d1, ← d2, h1, h2]
      · exact absurd e2.symm (same _ _ h2 b1)
    · exact absurd e1.symm (key _ _ _ _ h1 a1 b2 b1)
theorem Cv.allO {G : Pt} {n : Nat} (hG : onP p b G) (hn : ml p n G = .O) (hp : Prim n) (h0 : G ≠ .O) (hodd : p % 2 = 1) (hno : n % 2 = 1) (hc : 2 * p + 1 < 3 * n) {P : Pt} (h : onP p b P) : ml p n P = .O := by
  obtain ⟨k, rfl⟩ := C.all hG hn hp h0 hodd hno hc h
  rw [← C.mml hG, Nat.mul_comm, C.mml hG, hn, C.mO]
end
/-- The sum of two ratios, reckoned. -/
def plN (p b : Nat) (s t : Nat × Nat × Nat) : Nat × Nat × Nat :=
  (md p (pX b s.1 s.2.1 s.2.2 t.1 t.2.1 t.2.2), md p (pY b s.1 s.2.1 s.2.2 t.1 t.2.1 t.2.2), md p (pZ b s.1 s.2.1 s.2.2 t.1 t.2.1 t.2.2))
def ladN (p b : Nat) (g s : Nat × Nat × Nat) : Nat → Nat → Nat × Nat × Nat
  | 0, _ => s
  | f + 1, k => bif k % 2 == 1 then plN p b (plN p b (ladN p b g s f (k / 2)) (ladN p b g s f (k / 2))) g else plN p b (ladN p b g s f (k / 2)) (ladN p b g s f (k / 2))
section
variable {p b : Nat} (C : Cv p b)
include C
theorem Cv.plN_is {s t : Nat × Nat × Nat} {P Q : Pt} (hP : Rp p s.1 s.2.1 s.2.2 P) (hQ : Rp p t.1 t.2.1 t.2.2 Q) (oP : onP p b P) (oQ : onP p b Q) : Rp p (plN p b s t).1 (plN p b s t).2.1 (plN p b s t).2.2 (sm p P Q) := by
  have hp : 0 < p := by have := C.big; omega
  exact C.plus hP hQ oP oQ (md_lt hp _) (md_lt hp _) (md_lt hp _) (md_dvd hp _) (md_dvd hp _) (md_dvd hp _)
theorem Cv.ladN_is {g s : Nat × Nat × Nat} {P Q : Pt} (hP : Rp p g.1 g.2.1 g.2.2 P) (hQ : Rp p s.1 s.2.1 s.2.2 Q) (oP : onP p b P) (oQ : onP p b Q) (f : Nat) : ∀ k, k < 2 ^ f → Rp p (ladN p b g s f k).1 (ladN p b g s f k).2.1 (ladN p b g s f k).2.2 (sm p (ml p (2 ^ f) Q) (ml p k P)) := by
  induction f with
  | zero =>
    intro k hk
    obtain rfl : k = 0 := by simpa using hk
    have e : sm p (ml p (2 ^ 0) Q) (ml p 0 P) = Q := by
      rw [Nat.pow_zero, C.mone oQ]
      exact C.zr oQ
    rw [e]
    exact hQ
  | succ f ih =>
    intro k hk
    have h1 := ih (k / 2) (by rw [Nat.pow_succ] at hk; omega)
    have o1 := C.son (C.mon oQ (2 ^ f)) (C.mon oP (k / 2))
    have h2 := C.plN_is h1 h1 o1 o1
    rw [C.four' (C.mon oQ _) (C.mon oP _) (C.mon oQ _) (C.mon oP _), ← C.madd oP, ← C.madd oQ, show 2 ^ f + 2 ^ f = 2 ^ (f + 1) by rw [Nat.pow_succ]; omega] at h2
    have h3 : ladN p b g s (f + 1) k = bif k % 2 == 1 then plN p b (plN p b (ladN p b g s f (k / 2)) (ladN p b g s f (k / 2))) g else plN p b (ladN p b g s f (k / 2)) (ladN p b g s f (k / 2)) := rfl
    rw [h3]
    by_cases h4 : k % 2 = 1
    · rw [show (k % 2 == 1) = true by simpa using h4, cond_true]
      have h5 := C.plN_is h2 hP (C.son (C.mon oQ _) (C.mon oP _)) oP
      rw [C.ass (C.mon oQ _) (C.mon oP _) oP] at h5
      have e : ml p k P = sm p (ml p (k / 2 + k / 2) P) P := by
        conv => lhs; rw [show k = (k / 2 + k / 2) + 1 by omega]
        rfl
      rw [e]
      exact h5
    · rw [show (k % 2 == 1) = false by simpa using h4, cond_false]
      rw [show k / 2 + k / 2 = k by omega] at h2
      exact h2
theorem Cv.lad_two {g s : Nat × Nat × Nat} {P : Pt} (hP : Rp p g.1 g.2.1 g.2.2 P) (oP : onP p b P) (f h q r : Nat) (hq : q < 2 ^ f) (hr : r < 2 ^ h) (e : ladN p b g (0, 1, 0) f q = s) : Rp p (ladN p b g s h r).1 (ladN p b g s h r).2.1 (ladN p b g s h r).2.2 (ml p (2 ^ h * q + r) P) := by
  have h1 : 1 < p := by have := C.big; omega
  have h2 := C.ladN_is (s := (0, 1, 0)) (Q := .O) hP ⟨rfl, rfl, Nat.one_pos, h1⟩ oP (on_O (b := b)) f q hq
  rw [e, C.mO, C.zl (C.mon oP _)] at h2
  have h3 := C.ladN_is hP h2 oP (C.mon oP q) h r hr
  rw [← C.mml oP, ← C.madd oP] at h3
  exact h3
omit C in
theorem Rp_O {x y z : Nat} {P : Pt} (h : Rp p x y z P) (hz : z = 0) : P = .O := by
  cases P with
  | O => rfl
  | A a c => exact absurd hz (by have := h.2.2.2.1; omega)
theorem Cv.Rp_A {x y z a c : Nat} {P : Pt} (h : Rp p x y z P) (oP : onP p b P) (hz : z % p ≠ 0) (ha : a < p) (hc : c < p) (h1 : x % p = z * a % p) (h2 : y % p = z * c % p) : P = .A a c := by
  cases P with
  | O => exact absurd (h.2.1 ▸ Nat.zero_mod p) hz
  | A u v =>
    have hnz : ¬ (p : Int) ∣ (z : Int) := fun h => hz (Nat.mod_eq_zero_of_dvd (Int.natCast_dvd_natCast.1 h))
    have key : ∀ {x a : Nat}, x % p = z * a % p → (p : Int) ∣ (x : Int) - z * a := fun {x a} h => by
      have := Int.emod_eq_emod_iff_emod_sub_eq_zero.1 (show ((x : Int) % p = ((z * a : Nat) : Int) % p) by exact_mod_cast h)
      rw [Int.natCast_mul] at this
      exact Int.dvd_of_emod_eq_zero this
    have e1 := C.pr.can hnz (c := (u : Int) - a) (lc2 (-1) 1 h.2.2.2.2.1 (key h1) (by grind))
    have e2 := C.pr.can hnz (c := (v : Int) - c) (lc2 (-1) 1 h.2.2.2.2.2 (key h2) (by grind))
    rw [eq_of_dvd oP.1 ha e1, eq_of_dvd oP.2.1 hc e2]
theorem Cv.Rp_G {a c : Nat} (h : onP p b (.A a c)) : Rp p a c 1 (.A a c) :=
  ⟨h.1, h.2.1, by have := C.big; omega, Nat.one_pos, ⟨0, by grind⟩, ⟨0, by grind⟩⟩
end
end Go.Proofs.YtghfoppojdkhkaaGreatDoor

namespace Go.Proofs.YtghfoppojdkhkaaGreatDoor
/-- A group of the prime order n, and a point of it. -/
structure Gp (p b n : Nat) (G : Pt) : Prop where
  C : Cv p b
  oG : onP p b G
  pn : Prim n
  nP : ∀ {P : Pt}, onP p b P → ml p n P = .O
/-- a i G + c i P. -/
noncomputable def jt (p n : Nat) (G : Pt) (a c i : Nat) (P : Pt) : Pt := sm p (ml p (a * i % n) G) (ml p (c * i % n) P)
/-- 0 - z. -/
def mn (n z : Nat) : Nat := (n - z % n) % n
section
variable {p b n : Nat} {G : Pt} (g : Gp p b n G)
include g
theorem Gp.n1 : 1 < n := g.pn.1
theorem Gp.mc {P : Pt} (h : onP p b P) {j k : Nat} (e : j % n = k % n) : ml p j P = ml p k P := g.C.mcg h (g.nP h) e
theorem Gp.mm {P : Pt} (h : onP p b P) (k : Nat) : ml p (k % n) P = ml p k P := g.C.mmod h (g.nP h) k
theorem Gp.jon {a c i : Nat} {P : Pt} (h : onP p b P) : onP p b (jt p n G a c i P) := g.C.son (g.C.mon g.oG _) (g.C.mon h _)
omit g in
theorem inv_mod {d i a : Nat} (hi : d * i % n = 1) : d * (a * i % n) % n = a % n := by
  rw [Nat.mul_mod, Nat.mod_mod, ← Nat.mul_mod, show d * (a * i) = a * (d * i) by rw [Nat.mul_left_comm], Nat.mul_mod, hi, Nat.mul_one, Nat.mod_mod]
theorem Gp.jmul {a c d i : Nat} {P : Pt} (h : onP p b P) (hi : d * i % n = 1) : ml p d (jt p n G a c i P) = sm p (ml p a G) (ml p c P) := by
  unfold jt
  rw [g.C.msm (g.C.mon g.oG _) (g.C.mon h _), ← g.C.mml g.oG, ← g.C.mml h, g.mc g.oG (inv_mod hi), g.mc h (inv_mod hi)]
theorem Gp.canc {d i : Nat} {P Q : Pt} (h1 : onP p b P) (h2 : onP p b Q) (hi : d * i % n = 1) (h : ml p d P = ml p d Q) : P = Q := by
  have e : ∀ R, onP p b R → ml p i (ml p d R) = R := fun R hR => by
    have h3 : (i * d) % n = 1 % n := by rw [Nat.mul_comm, hi, Nat.mod_eq_of_lt g.n1]
    rw [← g.C.mml hR, g.mc hR h3, g.C.mone hR]
  rw [← e P h1, h, e Q h2]
theorem Gp.mnz (z : Nat) : (z + mn n z) % n = 0 := by
  have h1 := g.n1
  have h2 := Nat.mod_lt z (show 0 < n by omega)
  unfold mn
  rw [Nat.add_mod, Nat.mod_mod, Nat.add_mod_mod, Nat.add_sub_cancel' (Nat.le_of_lt h2), Nat.mod_self]
theorem Gp.mO (z : Nat) {P : Pt} (h : onP p b P) : ml p (z + mn n z) P = .O := by
  have h1 := g.mc h (j := z + mn n z) (k := 0) (by rw [g.mnz, Nat.zero_mod])
  rw [h1]
  rfl
theorem Gp.recov {z r s ri : Nat} {R : Pt} (h : onP p b R) (hr : r * ri % n = 1) : sm p (ml p z G) (ml p r (jt p n G (mn n z) s ri R)) = ml p s R := by
  rw [g.jmul h hr, ← g.C.ass (g.C.mon g.oG _) (g.C.mon g.oG _) (g.C.mon h _), ← g.C.madd g.oG, g.mO z g.oG, g.C.zl (g.C.mon h _)]
/-- What is recovered verifies. -/
theorem Gp.complete {z r s ri si : Nat} {R : Pt} (h : onP p b R) (hr : r * ri % n = 1) (hs : s * si % n = 1) : jt p n G z r si (jt p n G (mn n z) s ri R) = R := by
  refine g.canc (g.jon (g.jon h)) h hs ?_
  rw [g.jmul (g.jon h) hs, g.recov h hr]
theorem Gp.recO {z r s ri : Nat} {R : Pt} (h : onP p b R) (hr : r * ri % n = 1) (e : jt p n G (mn n z) s ri R = .O) : ml p s R = ml p z G := by
  have h1 := g.recov (z := z) (s := s) h hr
  rw [e, g.C.mO, g.C.zr (g.C.mon g.oG _)] at h1
  exact h1.symm
theorem Gp.mng {P : Pt} (h : onP p b P) (k : Nat) : ml p k (ng p P) = ng p (ml p k P) := by
  have hn := ng_on (b := b) (by have := g.C.big; omega) h
  have h1 := g.C.msm h hn k
  rw [g.C.neg h, g.C.mO] at h1
  exact sm_O (g.C.mon h k) (g.C.mon hn k) (h1.symm ▸ g.C.sm_sm (g.C.mon h k) (g.C.mon hn k))
/-- The twin. -/
theorem Gp.twin {z r s si ti : Nat} {Q : Pt} (h : onP p b Q) (hsn : s ≤ n) (hs : s * si % n = 1) (ht : (n - s) * ti % n = 1) : jt p n G z r ti Q = ng p (jt p n G z r si Q) := by
  have hX := g.jon (a := z) (c := r) (i := si) h
  have hp : 0 < p := by have := g.C.big; omega
  refine g.canc (g.jon h) (ng_on hp hX) ht ?_
  rw [g.jmul h ht, g.mng hX, ← g.jmul h hs]
  have h1 := g.C.madd hX (n - s) s
  rw [Nat.sub_add_cancel hsn, g.nP hX] at h1
  have h2 := sm_O (g.C.mon hX _) (g.C.mon hX _) (h1.symm ▸ g.C.sm_sm (g.C.mon hX (n - s)) (g.C.mon hX s))
  exact h2
end
/-- Does the point's x make r? -/
def mkx (n : Nat) (P : Pt) (r : Nat) : Bool := match P with | .O => false | .A x _ => decide (x % n = r)
theorem mkx_ng (n p : Nat) (P : Pt) (r : Nat) : mkx n (ng p P) r = mkx n P r := by cases P <;> rfl
end Go.Proofs.YtghfoppojdkhkaaGreatDoor
