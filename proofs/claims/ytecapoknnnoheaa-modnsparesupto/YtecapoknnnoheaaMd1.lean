import Derived.Test.YtecapoknnnoheaaMdM
import Derived.Test.YtecapoknnnoheaaBt
namespace Go.Proofs.Ytecapoknnnoheaa
open Go.RowKit

/-- A number of this value. -/
def Nu (w : World) (v : Value) (V : Nat) : Prop := Vl w v V 3000000
/-- A new one. -/
def Re (w w' : World) (r : Value) (V : Nat) : Prop := New w w' r V 3000000
theorem Vl.le {w : World} {v : Value} {V k m : Nat} (h : Vl w v V k) (hk : k ≤ m) : Vl w v V m := by
  obtain ⟨xs, h1, h2, h3⟩ := h; exact ⟨xs, h1, h2, Nat.le_trans h3 hk⟩
theorem Nu.below {w w' : World} {v : Value} {V n : Nat} (h : Nu w v V) (hb : Below n w w') (hn : w.heap.size ≤ n) : Nu w' v V := Vl.below h hb hn
theorem Nu.drewN {w : World} {v : Value} {V : Nat} (h : Nu w v V) (q : Nat) : Nu (w.drewN q) v V := h
theorem Nu.len {w : World} {v : Value} {V : Nat} (h : Nu w v V) : (dg Bs V).length ≤ 3000000 := Vl.len h
theorem New.vl {w w' : World} {r : Value} {V k : Nat} (h : New w w' r V k) : Vl w' r V k := h.1.vl h.2.1
theorem Re.nu {w w' : World} {r : Value} {V : Nat} (h : Re w w' r V) : Nu w' r V := New.vl h
theorem Re.bel {w w' : World} {r : Value} {V : Nat} (h : Re w w' r V) : Below w.heap.size w w' := h.2.2
theorem Re.ow {w w' : World} {r : Value} {V : Nat} (h : Re w w' r V) : Ow w' w.heap.size r (dg Bs V) := h.1

theorem bit0_v (v : Value) (V k : Nat) (w : World) (hv : Vl w v V k) : Calls Try.prog 37 #[v, .int .i64 0] w fun e w' => e = .returned (.bool (decide (V % 2 = 1))) ∧ w' = w := by
  obtain ⟨xs, n1, rfl, k1⟩ := hv
  have h := bit_pos 0 v xs w n1 (by omega)
  rw [Nat.pow_zero, Nat.div_one] at h
  exact h
theorem shr1_v (v : Value) (V k : Nat) (w : World) (hv : Vl w v V k) (hk : k ≤ 100000000) (hl : (dg Bs (V / 2)).length ≤ 3000000) : Calls Try.prog 61 #[v, .int .i64 1] w fun e w' => ∃ r, e = .returned r ∧ Re w w' r (V / 2) := by
  obtain ⟨xs, n1, rfl, k1⟩ := hv
  refine (shr_pos 1 (by decide) v xs w n1 (by omega)).mono ?_
  rintro e w' ⟨r, rfl, h1, h2⟩
  rw [show nv Bs xs / 2 ^ 1 = nv Bs xs / 2 from rfl] at h1
  exact ⟨r, rfl, h1, hl, h2⟩
theorem shr0_v (v : Value) (V : Nat) (w : World) (hv : Nu w v V) : Calls Try.prog 61 #[v, .int .i64 0] w fun e w' => ∃ r, e = .returned r ∧ Re w w' r V := by
  have hl := hv.len
  obtain ⟨xs, n1, rfl, k1⟩ := hv
  refine (shr_pos 0 (by decide) v xs w n1 (by omega)).mono ?_
  rintro e w' ⟨r, rfl, h1, h2⟩
  rw [Nat.pow_zero, Nat.div_one] at h1
  exact ⟨r, rfl, h1, hl, h2⟩
theorem one_v (w : World) : Calls Try.prog 35 #[.int .u64 1] w fun e w' => ∃ r, e = .returned r ∧ Re w w' r 1 := by
  refine (fromUint_any 1 w (by decide)).mono ?_
  rintro e w' ⟨r, rfl, h1, h2⟩
  exact ⟨r, rfl, h1, Nat.le_trans (dg_len Bs_two 1 1 (by decide)) (by decide), h2⟩

theorem proper_v (v : Value) (V : Nat) (w : World) (hv : Nu w v V) : Calls Try.prog 33 #[v] w fun e w' => ∃ r, e = .returned r ∧ Re w w' r V := by
  have C := shr0_v v V w hv
  clear hv
  go_enter Try.func33, Try.ntmps33
  go_wp2_with fail
  refine C.mono ?_
  rintro e w1 ⟨r, rfl, h⟩
  have H : Hid (Re w w1 r V) := h
  clear C h
  go_wp2
  go_ret
  exact ⟨r, rfl, H.out⟩
theorem rest_v (v u : Value) (U V : Nat) (w : World) (hv : Vl w v U 10000000) (hu : Nu w u V) (h0 : V ≠ 0) : Calls Try.prog 34 #[v, u] w fun e w' => ∃ r, e = .returned r ∧ Re w w' r (U % V) := by
  have C := vdiv v u U V _ _ w hv hu (by decide) (by decide) h0
  clear hv hu h0
  go_enter Try.func34, Try.ntmps34
  go_wp2_with fail
  refine C.mono ?_
  rintro e w1 ⟨q, r, rfl, _, h⟩
  have H : Hid (Re w w1 r (U % V)) := h
  clear C h
  go_wp2
  go_ret
  exact ⟨r, rfl, H.out⟩
theorem less_v (a b m : Value) (A B M : Nat) (w : World) (ha : Nu w a A) (hb : Nu w b B) (hm : Nu w m M) (h1 : A < M) (h2 : B < M) :
    Calls Try.prog 44 #[a, b, m] w fun e w' => ∃ r, e = .returned r ∧ Re w w' r (lessV M A B) := by
  have C := vcmp a b _ _ _ _ w ha hb (by decide) (by decide)
  have HA : Hid (Nu w a A) := ha
  have HB : Hid (Nu w b B) := hb
  have HM : Hid (Nu w m M) := hm
  have HL : Hid ((dg Bs (lessV M A B)).length ≤ 3000000) := dgl_le _ _ _ (Nat.le_of_lt (lessV_lt h1 h2)) hm.len
  clear ha hb hm
  by_cases h : A < B
  · rw [cmp3_lt (by omega)] at C
    have HV : Hid (A + M - B = lessV M A B) := by show _ = _; unfold lessV; rw [if_pos h]
    clear h h1 h2
    go_enter Try.func44, Try.ntmps44
    go_wp2_with fail
    refine C.mono ?_
    rintro e w1 ⟨rfl, q, rfl⟩
    clear C
    have C := vadd a m _ _ _ _ (w.drewN q) (HA.out.drewN q) (HM.out.drewN q) (by decide) (by decide)
    go_wp2_with fail
    refine C.mono ?_
    clear C
    rintro e w2 ⟨r, rfl, hn⟩
    have HBl : Hid (Below w.heap.size w w2) := (below_drewN (Below.refl _ _) q).trans (hn.2.2.mono (Nat.le_refl _))
    have C := vsub r b _ _ _ _ w2 hn.vl (HB.out.below HBl.out (Nat.le_refl _)) (by decide) (by decide)
    rw [HV.out] at C
    clear hn
    go_wp2_with fail
    refine C.mono ?_
    clear C
    rintro e w3 ⟨s, rfl, hn⟩
    have HBl3 : Hid (Below w.heap.size w w3) := HBl.out.trans (hn.2.2.mono HBl.out.size)
    have HO : Hid (Ow w3 w.heap.size s (dg Bs (lessV M A B))) := hn.1.base HBl.out.size
    clear hn HBl
    go_wp2
    go_ret
    exact ⟨s, rfl, HO.out, HL.out, HBl3.out⟩
  · have hb0 : decide (cmp3 (A : Int) (B : Int) < 0) = false := by
      rcases Nat.lt_or_ge B A with h3 | h3
      · rw [cmp3_gt (by omega)]; rfl
      · rw [cmp3_eq (by omega)]; rfl
    have HV : Hid (A - B = lessV M A B) := by show _ = _; unfold lessV; rw [if_neg h]
    generalize cmp3 (A : Int) (B : Int) = o at C hb0
    clear h h1 h2
    go_enter Try.func44, Try.ntmps44
    go_wp2_with fail
    refine C.mono ?_
    rintro e w1 ⟨rfl, q, rfl⟩
    clear C
    have C := vsub a b _ _ _ _ (w.drewN q) (HA.out.drewN q) (HB.out.drewN q) (by decide) (by decide)
    rw [HV.out] at C
    go_wp2_with fail
    refine C.mono ?_
    clear C
    rintro e w3 ⟨s, rfl, hn⟩
    have HBl3 : Hid (Below w.heap.size w w3) := (below_drewN (Below.refl _ _) q).trans (hn.2.2.mono (Nat.le_refl _))
    have HO : Hid (Ow w3 w.heap.size s (dg Bs (lessV M A B))) := hn.1
    clear hn
    go_wp2
    go_ret
    exact ⟨s, rfl, HO.out, HL.out, HBl3.out⟩
theorem half_v (n m : Value) (X M : Nat) (w : World) (hn : Nu w n X) (hm : Nu w m M) (h : X < M) :
    Calls Try.prog 66 #[n, m] w fun e w' => ∃ r, e = .returned r ∧ Re w w' r (halfV M X) := by
  have C := bit0_v n X _ w hn
  have HN : Hid (Nu w n X) := hn
  have HM : Hid (Nu w m M) := hm
  have HL : Hid ((dg Bs (halfV M X)).length ≤ 3000000) := dgl_le _ _ _ (Nat.le_of_lt (halfV_lt h)) hm.len
  clear hn hm h
  by_cases h : X % 2 = 1
  · rw [decide_eq_true h] at C
    have HV : Hid (halfV M X = (X + M) / 2) := by show _ = _; unfold halfV; rw [if_pos h]
    clear h
    go_enter Try.func66, Try.ntmps66
    go_wp2_with fail
    refine C.mono ?_
    rintro e w1 ⟨rfl, rfl⟩
    clear C
    have C := vadd n m _ _ _ _ w1 HN.out HM.out (by decide) (by decide)
    go_wp2_with fail
    refine C.mono ?_
    clear C
    rintro e w2 ⟨r, rfl, hn⟩
    have C := shr1_v r _ _ w2 hn.vl (by decide) (by rw [← HV.out]; exact HL.out)
    rw [← HV.out] at C
    have HBl : Hid (Below w1.heap.size w1 w2) := hn.2.2
    clear hn
    go_wp2_with fail
    refine C.mono ?_
    clear C
    rintro e w3 ⟨s, rfl, hn⟩
    have H : Hid (Re w1 w3 s (halfV M X)) := ⟨hn.1.base HBl.out.size, HL.out, HBl.out.trans (hn.2.2.mono HBl.out.size)⟩
    clear hn
    go_wp2
    go_ret
    exact ⟨s, rfl, H.out⟩
  · rw [decide_eq_false h] at C
    have HV : Hid (halfV M X = X / 2) := by show _ = _; unfold halfV; rw [if_neg h]
    clear h
    go_enter Try.func66, Try.ntmps66
    go_wp2_with fail
    refine C.mono ?_
    rintro e w1 ⟨rfl, rfl⟩
    clear C
    have C := shr1_v n _ _ w1 HN.out (by decide) (by rw [← HV.out]; exact HL.out)
    rw [← HV.out] at C
    go_wp2_with fail
    refine C.mono ?_
    clear C
    rintro e w3 ⟨s, rfl, hn⟩
    have H : Hid (Re w1 w3 s (halfV M X)) := hn
    clear hn
    go_wp2
    go_ret
    exact ⟨s, rfl, H.out⟩

theorem Bs_pow (n m : Nat) (h : 32 * n = m) : Bs ^ n = 2 ^ m := by
  subst h
  rw [Nat.pow_mul, show (2 : Nat) ^ 32 = Bs from rfl]
/-- Is it too large? -/
def Lg (V : Nat) : Bool := decide (128 < (dg Bs V).length)
theorem len_bl (n m V : Nat) (hm : 32 * n = m) : m < bl V ↔ n < (dg Bs V).length := by
  have e := Bs_pow n m hm
  constructor
  · intro h
    rcases Nat.lt_or_ge n (dg Bs V).length with h2 | h2
    · exact h2
    · exfalso
      have h3 : V < 2 ^ m := by rw [← e]; exact Nat.lt_of_lt_of_le (dg_up Bs_two V) (Nat.pow_le_pow_right Bs_pos h2)
      have h0 : V ≠ 0 := fun e => by rw [e, bl_zero] at h; omega
      have h4 : 2 ^ m ≤ 2 ^ (bl V - 1) := Nat.pow_le_pow_right (by decide) (by omega)
      exact absurd h3 (Nat.not_lt.2 (Nat.le_trans h4 (bl_le V h0)))
  · intro h
    rcases Nat.lt_or_ge m (bl V) with h2 | h2
    · exact h2
    · exfalso
      have h3 : V < Bs ^ n := by rw [e]; exact Nat.lt_of_lt_of_le (bl_lt V) (Nat.pow_le_pow_right (by decide) h2)
      have := dg_len Bs_two n V h3
      omega
theorem Lg_bl (V : Nat) : decide ((4096 : Int) < ((bl V : Nat) : Int)) = Lg V := by
  unfold Lg
  have h := len_bl 128 4096 V (by decide)
  by_cases h2 : 128 < (dg Bs V).length
  · have h3 := h.2 h2
    rw [decide_eq_true h2, decide_eq_true (by omega)]
  · have h3 : ¬ 4096 < bl V := fun h4 => h2 (h.1 h4)
    rw [decide_eq_false h2, decide_eq_false (by omega)]
theorem Lg_le {V : Nat} (h : Lg V = false) : (dg Bs V).length ≤ 128 := by unfold Lg at h; have := of_decide_eq_false h; omega
theorem Lg_of {V : Nat} (h : (dg Bs V).length ≤ 128) : Lg V = false := by unfold Lg; exact decide_eq_false (by omega)
theorem large_v (v : Value) (V : Nat) (w : World) (hv : Nu w v V) : Calls Try.prog 59 #[v] w fun e w' => e = .returned (.bool (Lg V)) ∧ w' = w := by
  have C := vbits v V _ w hv (by decide)
  have HL : Hid (decide ((4096 : Int) < ((bl V : Nat) : Int)) = Lg V) := Lg_bl V
  generalize bl V = n at C HL
  clear hv
  go_enter Try.func59, Try.ntmps59
  go_wp2_with fail
  refine C.mono ?_
  rintro e w1 ⟨rfl, rfl⟩
  clear C
  go_wp2
  go_ret
  rw [← HL.out]
  exact ⟨rfl, rfl⟩

end Go.Proofs.Ytecapoknnnoheaa
