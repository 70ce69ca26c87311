import Derived.Test.YtmngdaolgdhgmaaGreatDoorNtZ5
import Derived.Test.YtmngdaolgdhgmaaGreatDoorNtZ6
import Derived.Test.YtmngdaolgdhgmaaGreatDoorNtZ7
import Derived.Test.YtmngdaolgdhgmaaGreatDoorNtZ1
import Derived.ProofKit
import Derived.OpenShut
import Derived.ShutString
import Derived.ChangeOld
import Derived.SizedLaws
import Derived.JoinedCond
import Derived.Carry
import Derived.Deep.Slices

namespace Go.Proofs.YtmngdaolgdhgmaaGreatDoor
open Go.RowKit

/-- A number of this value. -/
def Nu (w : World) (v : Value) (V : Nat) : Prop := Vl w v V 3000000
/-- A new one. -/
def Re (w w' : World) (r : Value) (V : Nat) : Prop := New w w' r V 3000000
theorem Vl.le {w : World} {v : Value} {V k m : Nat} (h : Vl w v V k) (hk : k ≤ m) : Vl w v V m := by
  obtain ⟨xs, h1, h2, h3⟩ := h; exact ⟨xs, h1, h2, Nat.le_trans h3 hk⟩
theorem Nu.below {w w' : World} {v : Value} {V n : Nat} (h : Nu w v V) (hb : Below n w w') (hn : w.heap.size ≤ n) : Nu w' v V := Vl.below h hb hn
theorem Nu.drewN {w : World} {v : Value} {V : Nat} (h : Nu w v V) (q : Nat) : Nu (w.drewN q) v V := h
theorem Nu.len {w : World} {v : Value} {V : Nat} (h : Nu w v V) : (dg Bs V).length ≤ 3000000 := Vl.len h
theorem New.vl {w w' : World} {r : Value} {V k : Nat} (h : New w w' r V k) : Vl w' r V k := h.1.vl h.2.1
theorem Re.nu {w w' : World} {r : Value} {V : Nat} (h : Re w w' r V) : Nu w' r V := New.vl h
theorem Re.bel {w w' : World} {r : Value} {V : Nat} (h : Re w w' r V) : Below w.heap.size w w' := h.2.2
theorem Re.ow {w w' : World} {r : Value} {V : Nat} (h : Re w w' r V) : Ow w' w.heap.size r (dg Bs V) := h.1

theorem bit0_v (v : Value) (V k : Nat) (w : World) (hv : Vl w v V k) : Calls Tryz.prog 112 #[v, .int .i64 0] w fun e w' => e = .returned (.bool (decide (V % 2 = 1))) ∧ w' = w := by
  obtain ⟨xs, n1, rfl, k1⟩ := hv
  have h := bit_pos 0 v xs w n1 (by omega)
  rw [Nat.pow_zero, Nat.div_one] at h
  exact h
theorem shr1_v (v : Value) (V k : Nat) (w : World) (hv : Vl w v V k) (hk : k ≤ 100000000) (hl : (dg Bs (V / 2)).length ≤ 3000000) : Calls Tryz.prog 77 #[v, .int .i64 1] w fun e w' => ∃ r, e = .returned r ∧ Re w w' r (V / 2) := by
  obtain ⟨xs, n1, rfl, k1⟩ := hv
  refine (shr_pos 1 (by decide) v xs w n1 (by omega)).mono ?_
  rintro e w' ⟨r, rfl, h1, h2⟩
  rw [show nv Bs xs / 2 ^ 1 = nv Bs xs / 2 from rfl] at h1
  exact ⟨r, rfl, h1, hl, h2⟩
theorem shr0_v (v : Value) (V : Nat) (w : World) (hv : Nu w v V) : Calls Tryz.prog 77 #[v, .int .i64 0] w fun e w' => ∃ r, e = .returned r ∧ Re w w' r V := by
  have hl := hv.len
  obtain ⟨xs, n1, rfl, k1⟩ := hv
  refine (shr_pos 0 (by decide) v xs w n1 (by omega)).mono ?_
  rintro e w' ⟨r, rfl, h1, h2⟩
  rw [Nat.pow_zero, Nat.div_one] at h1
  exact ⟨r, rfl, h1, hl, h2⟩
theorem one_v (w : World) : Calls Tryz.prog 86 #[.int .u64 1] w fun e w' => ∃ r, e = .returned r ∧ Re w w' r 1 := by
  refine (fromUint_any 1 w (by decide)).mono ?_
  rintro e w' ⟨r, rfl, h1, h2⟩
  exact ⟨r, rfl, h1, Nat.le_trans (dg_len Bs_two 1 1 (by decide)) (by decide), h2⟩

theorem proper_v (v : Value) (V : Nat) (w : World) (hv : Nu w v V) : Calls Tryz.prog 133 #[v] w fun e w' => ∃ r, e = .returned r ∧ Re w w' r V := by
  have C := shr0_v v V w hv
  clear hv
  go_enter Tryz.func133, Tryz.ntmps133
  go_wp2_with fail
  refine C.mono ?_
  rintro e w1 ⟨r, rfl, h⟩
  have H : Hid (Re w w1 r V) := h
  clear C h
  go_wp2
  go_ret
  exact ⟨r, rfl, H.out⟩
theorem rest_v (v u : Value) (U V : Nat) (w : World) (hv : Vl w v U 10000000) (hu : Nu w u V) (h0 : V ≠ 0) : Calls Tryz.prog 76 #[v, u] w fun e w' => ∃ r, e = .returned r ∧ Re w w' r (U % V) := by
  have C := vdiv v u U V _ _ w hv hu (by decide) (by decide) h0
  clear hv hu h0
  go_enter Tryz.func76, Tryz.ntmps76
  go_wp2_with fail
  refine C.mono ?_
  rintro e w1 ⟨q, r, rfl, _, h⟩
  have H : Hid (Re w w1 r (U % V)) := h
  clear C h
  go_wp2
  go_ret
  exact ⟨r, rfl, H.out⟩
theorem less_v (a b m : Value) (A B M : Nat) (w : World) (ha : Nu w a A) (hb : Nu w b B) (hm : Nu w m M) (h1 : A < M) (h2 : B < M) :
    Calls Tryz.prog 75 #[a, b, m] w fun e w' => ∃ r, e = .returned r ∧ Re w w' r (lessV M A B) := by
  have C := vcmp a b _ _ _ _ w ha hb (by decide) (by decide)
  have HA : Hid (Nu w a A) := ha
  have HB : Hid (Nu w b B) := hb
  have HM : Hid (Nu w m M) := hm
  have HL : Hid ((dg Bs (lessV M A B)).length ≤ 3000000) := dgl_le _ _ _ (Nat.le_of_lt (lessV_lt h1 h2)) hm.len
  clear ha hb hm
  by_cases h : A < B
  · rw [cmp3_lt (by omega)] at C
    have HV : Hid (A + M - B = lessV M A B) := by show _ = _; unfold lessV; rw [if_pos h]
    clear h h1 h2
    go_enter Tryz.func75, Tryz.ntmps75
    go_wp2_with fail
    refine C.mono ?_
    rintro e w1 ⟨rfl, q, rfl⟩
    clear C
    have C := vadd a m _ _ _ _ (w.drewN q) (HA.out.drewN q) (HM.out.drewN q) (by decide) (by decide)
    go_wp2_with fail
    refine C.mono ?_
    clear C
    rintro e w2 ⟨r, rfl, hn⟩
    have HBl : Hid (Below w.heap.size w w2) := (below_drewN (Below.refl _ _) q).trans (hn.2.2.mono (Nat.le_refl _))
    have C := vsub r b _ _ _ _ w2 hn.vl (HB.out.below HBl.out (Nat.le_refl _)) (by decide) (by decide)
    rw [HV.out] at C
    clear hn
    go_wp2_with fail
    refine C.mono ?_
    clear C
    rintro e w3 ⟨s, rfl, hn⟩
    have HBl3 : Hid (Below _ _ _) := HBl.out.trans (hn.2.2.mono HBl.out.size)
    have HO : Hid (Ow w3 w.heap.size s (dg Bs (lessV M A B))) := hn.1.base HBl.out.size
    clear hn HBl
    go_wp2
    go_ret
    exact ⟨s, rfl, HO.out, HL.out, HBl3.out⟩
  · have hb0 : decide (cmp3 (A : Int) (B : Int) < 0) = false := by
      rcases Nat.lt_or_ge B A with h3 | h3
      · rw [cmp3_gt (by omega)]; rfl
      · rw [cmp3_eq (by omega)]; rfl
    have HV : Hid (A - B = lessV M A B) := by show _ = _; unfold lessV; rw [if_neg h]
    generalize cmp3 (A : Int) (B : Int) = o at C hb0
    clear h h1 h2
    go_enter Tryz.func75, Tryz.ntmps75
    go_wp2_with fail
    refine C.mono ?_
    rintro e w1 ⟨rfl, q, rfl⟩
    clear C
    have C := vsub a b _ _ _ _ (w.drewN q) (HA.out.drewN q) (HB.out.drewN q) (by decide) (by decide)
    rw [HV.out] at C
    go_wp2_with fail
    refine C.mono ?_
    clear C
    rintro e w3 ⟨s, rfl, hn⟩
    have HBl3 : Hid (Below w.heap.size w w3) := (below_drewN (Below.refl _ _) q).trans (hn.2.2.mono (Nat.le_refl _))
    have HO : Hid (Ow w3 w.heap.size s (dg Bs (lessV M A B))) := hn.1
    clear hn
    go_wp2
    go_ret
    exact ⟨s, rfl, HO.out, HL.out, HBl3.out⟩
theorem half_v (n m : Value) (X M : Nat) (w : World) (hn : Nu w n X) (hm : Nu w m M) (h : X < M) :
    Calls Tryz.prog 134 #[n, m] w fun e w' => ∃ r, e = .returned r ∧ Re w w' r (halfV M X) := by
  have C := bit0_v n X _ w hn
  have HN : Hid (Nu w n X) := hn
  have HM : Hid (Nu w m M) := hm
  have HL : Hid ((dg Bs (halfV M X)).length ≤ 3000000) := dgl_le _ _ _ (Nat.le_of_lt (halfV_lt h)) hm.len
  clear hn hm h
  by_cases h : X % 2 = 1
  · rw [decide_eq_true h] at C
    have HV : Hid (halfV M X = (X + M) / 2) := by show _ = _; unfold halfV; rw [if_pos h]
    clear h
    go_enter Tryz.func134, Tryz.ntmps134
    go_wp2_with fail
    refine C.mono ?_
    rintro e w1 ⟨rfl, rfl⟩
    clear C
    have C := vadd n m _ _ _ _ w1 HN.out HM.out (by decide) (by decide)
    go_wp2_with fail
    refine C.mono ?_
    clear C
    rintro e w2 ⟨r, rfl, hn⟩
    have C := shr1_v r _ _ w2 hn.vl (by decide) (by rw [← HV.out]; exact HL.out)
    rw [← HV.out] at C
    have HBl : Hid (Below w1.heap.size w1 w2) := hn.2.2
    clear hn
    go_wp2_with fail
    refine C.mono ?_
    clear C
    rintro e w3 ⟨s, rfl, hn⟩
    have H : Hid (Re w1 w3 s (halfV M X)) := ⟨hn.1.base HBl.out.size, HL.out, HBl.out.trans (hn.2.2.mono HBl.out.size)⟩
    clear hn
    go_wp2
    go_ret
    exact ⟨s, rfl, H.out⟩
  · rw [decide_eq_false h] at C
    have HV : Hid (halfV M X = X / 2) := by show _ = _; unfold halfV; rw [if_neg h]
    clear h
    go_enter Tryz.func134, Tryz.ntmps134
    go_wp2_with fail
    refine C.mono ?_
    rintro e w1 ⟨rfl, rfl⟩
    clear C
    have C := shr1_v n _ _ w1 HN.out (by decide) (by rw [← HV.out]; exact HL.out)
    rw [← HV.out] at C
    go_wp2_with fail
    refine C.mono ?_
    clear C
    rintro e w3 ⟨s, rfl, hn⟩
    have H : Hid (Re w1 w3 s (halfV M X)) := hn
    clear hn
    go_wp2
    go_ret
    exact ⟨s, rfl, H.out⟩

theorem Bs_pow (n m : Nat) (h : 32 * n = m) : Bs ^ n = 2 ^ m := by
  subst h
  rw [Nat.pow_mul, show (2 : Nat) ^ 32 = Bs from rfl]
/-- Is it too large? -/
def Lg (V : Nat) : Bool := decide (128 < (dg Bs V).length)
theorem len_bl (n m V : Nat) (hm : 32 * n = m) : m < bl V ↔ n < (dg Bs V).length := by
  have e := Bs_pow n m hm
  constructor
  · intro h
    rcases Nat.lt_or_ge n (dg Bs V).length with h2 | h2
    · exact h2
    · exfalso
      have h3 : V < 2 ^ m := by rw [← e]; exact Nat.lt_of_lt_of_le (dg_up Bs_two V) (Nat.pow_le_pow_right Bs_pos h2)
      have h0 : V ≠ 0 := fun e => by rw [e, bl_zero] at h; omega
      have h4 : 2 ^ m ≤ 2 ^ (bl V - 1) := Nat.pow_le_pow_right (by decide) (by omega)
      exact absurd h3 (Nat.not_lt.2 (Nat.le_trans h4 (bl_le V h0)))
  · intro h
    rcases Nat.lt_or_ge m (bl V) with h2 | h2
    · exact h2
    · exfalso
      have h3 : V < Bs ^ n := by rw [e]; exact Nat.lt_of_lt_of_le (bl_lt V) (Nat.pow_le_pow_right (by decide) h2)
      have := dg_len Bs_two n V h3
      omega
theorem Lg_bl (V : Nat) : decide ((4096 : Int) < ((bl V : Nat) : Int)) = Lg V := by
  unfold Lg
  have h := len_bl 128 4096 V (by decide)
  by_cases h2 : 128 < (dg Bs V).length
  · have h3 := h.2 h2
    rw [decide_eq_true h2, decide_eq_true (by omega)]
  · have h3 : ¬ 4096 < bl V := fun h4 => h2 (h.1 h4)
    rw [decide_eq_false h2, decide_eq_false (by omega)]
theorem Lg_of {V : Nat} (h : (dg Bs V).length ≤ 128) : Lg V = false := by unfold Lg; exact decide_eq_false (by omega)
theorem large_v (v : Value) (V : Nat) (w : World) (hv : Nu w v V) : Calls Tryz.prog 107 #[v] w fun e w' => e = .returned (.bool (Lg V)) ∧ w' = w := by
  have C := vbits v V _ w hv (by decide)
  have HL : Hid (decide ((4096 : Int) < ((bl V : Nat) : Int)) = Lg V) := Lg_bl V
  generalize bl V = n at C HL
  clear hv
  go_enter Tryz.func107, Tryz.ntmps107
  go_wp2_with fail
  refine C.mono ?_
  rintro e w1 ⟨rfl, rfl⟩
  clear C
  go_wp2
  go_ret
  rw [← HL.out]
  exact ⟨rfl, rfl⟩

end Go.Proofs.YtmngdaolgdhgmaaGreatDoor

namespace Go.Proofs.YtmngdaolgdhgmaaGreatDoor
open Go.RowKit

/-- Numbers that lie in a row. -/
def Nus (w : World) (g n : Nat) (vs : Nat → Value) (Vs : Nat → Nat) : Prop := ∀ j, j < n → w.cell? ⟨g, j, none⟩ = some (vs j) ∧ Nu w (vs j) (Vs j)
def anyL (n : Nat) (Vs : Nat → Nat) : Bool := (List.range n).any fun j => Lg (Vs j)

set_option maxHeartbeats 1000000 in
theorem index_v (g n : Nat) (vs : Nat → Value) (Vs : Nat → Nat) (w : World) (h : Nus w g n vs Vs) (hn : n ≤ 10) :
    Calls Tryz.prog 131 #[.slice (some ⟨g, 0, none⟩) n n, .func (.func 107) #[] #[]] w fun e w' => (∃ i : Int, e = .returned (.int .i64 i) ∧ decide (i ≥ 0) = anyL n Vs) ∧ w' = w := by
  have H : Hid (Nus w g n vs Vs) := h
  clear h
  go_enter Tryz.func131, Tryz.ntmps131
  go_wp2
  go_loop [8] (fun s => ∃ k : Nat, k ≤ n ∧ s = .int .i64 (k : Int) ∧ Hid (∀ j, j < k → Lg (Vs j) = false)) (fun s => n - (intOf s).toNat)
  case atStart => exact ⟨0, Nat.zero_le _, rfl, fun j hj => by omega⟩
  case round =>
    obtain ⟨k, hk, rfl, hf⟩ := hrel
    by_cases hlt : k < n
    · have hc := (H.out k hlt).1
      have C := large_v (vs k) (Vs k) w (H.out k hlt).2
      have HV : Hid (Lg (Vs k) = Lg (Vs k)) := rfl
      have hlI : (k : Int) < (n : Int) := by omega
      have HT : Hid (Lg (Vs k) = true → anyL n Vs = true) := fun e => by
        unfold anyL
        rw [List.any_eq_true]
        exact ⟨k, List.mem_range.2 hlt, e⟩
      generalize hb : Lg (Vs k) = b at C HV HT
      have Hb : Hid (Lg (Vs k) = b) := hb
      clear hb
      generalize vs k = v at hc C
      cases b
      · go_wp2_with fail
        refine C.mono ?_
        rintro e w1 ⟨rfl, rfl⟩
        clear C
        go_wp2
        go_round
        case rel => exact ⟨k + 1, by omega, by go_num, fun j hj => by
          by_cases e : j = k
          · rw [e]; exact Hb.out
          · exact hf.out j (by omega)⟩
        case measure => simp [intOf]; omega
      · go_wp2_with fail
        refine C.mono ?_
        rintro e w1 ⟨rfl, rfl⟩
        clear C
        go_wp2
        go_ret
        exact ⟨⟨(k : Int), rfl, by rw [HT.out trivial]; exact decide_eq_true (by omega)⟩, rfl⟩
    · have hlI : ¬ (k : Int) < (n : Int) := by omega
      have HT : Hid (anyL n Vs = false) := by
        show anyL n Vs = false
        unfold anyL
        rw [List.any_eq_false]
        intro j hj
        rw [hf.out j (by have := List.mem_range.1 hj; omega)]
        decide
      go_wp2
      go_ret
      exact ⟨⟨-1, rfl, by rw [HT.out]; rfl⟩, rfl⟩

set_option maxHeartbeats 1000000 in
theorem contains_v (g n : Nat) (vs : Nat → Value) (Vs : Nat → Nat) (w : World) (h : Nus w g n vs Vs) (hn : n ≤ 10) :
    Calls Tryz.prog 108 #[.slice (some ⟨g, 0, none⟩) n n, .func (.func 107) #[] #[]] w fun e w' => e = .returned (.bool (anyL n Vs)) ∧ w' = w := by
  have C := index_v g n vs Vs w h hn
  clear h
  generalize anyL n Vs = b at C
  go_enter Tryz.func108, Tryz.ntmps108
  go_wp2_with fail
  refine C.mono ?_
  rintro e w1 ⟨⟨i, rfl, hi⟩, rfl⟩
  clear C
  go_wp2
  go_ret
  exact ⟨rfl, rfl⟩

/-- Why nothing is reckoned. -/
def rcode (M : Nat) (b : Bool) : Nat := if Lg M || b then 10 else if M < 2 then 60 else 0

set_option maxHeartbeats 1000000 in
theorem refusal_v (m : Value) (M g n : Nat) (vs : Nat → Value) (Vs : Nat → Nat) (w : World) (hm : Nu w m M) (h : Nus w g n vs Vs) (hn : n ≤ 10) :
    Calls Tryz.prog 74 #[m, .slice (some ⟨g, 0, none⟩) n n] w fun e w' => e = .returned (.int .i64 ((rcode M (anyL n Vs) : Nat) : Int)) ∧ w' = w := by
  have C1 := large_v m M w hm
  have C2 := contains_v g n vs Vs w h hn
  have C3 := vbits m M _ w hm (by decide)
  clear h hm
  generalize anyL n Vs = b at C2
  unfold rcode
  have hbl : decide (((bl M : Nat) : Int) < 2) = decide (M < 2) := by
    by_cases h : M < 2
    · have h1 := bl_mono (show M ≤ 1 by omega)
      rw [show bl 1 = 1 by decide] at h1
      rw [decide_eq_true h, decide_eq_true (by omega)]
    · have h1 := bl_mono (show 2 ≤ M by omega)
      rw [show bl 2 = 2 by decide] at h1
      rw [decide_eq_false h, decide_eq_false (by omega)]
  generalize bl M = k at C3 hbl
  rw [show (if M < 2 then 60 else 0) = if decide (M < 2) = true then 60 else 0 by simp]
  generalize decide (M < 2) = d at hbl
  generalize Lg M = lm at C1
  cases lm
  · cases b
    · cases d
      · go_enter Tryz.func74, Tryz.ntmps74
        go_wp2_with fail
        refine C1.mono ?_
        rintro e w1 ⟨rfl, rfl⟩
        go_wp2_with fail
        refine C2.mono ?_
        rintro e w2 ⟨rfl, rfl⟩
        go_wp2_with fail
        refine C3.mono ?_
        rintro e w3 ⟨rfl, rfl⟩
        clear C1 C2 C3
        go_wp2
        go_ret
        exact ⟨rfl, rfl⟩
      · go_enter Tryz.func74, Tryz.ntmps74
        go_wp2_with fail
        refine C1.mono ?_
        rintro e w1 ⟨rfl, rfl⟩
        go_wp2_with fail
        refine C2.mono ?_
        rintro e w2 ⟨rfl, rfl⟩
        go_wp2_with fail
        refine C3.mono ?_
        rintro e w3 ⟨rfl, rfl⟩
        clear C1 C2 C3
        go_wp2
        go_ret
        exact ⟨rfl, rfl⟩
    · clear C3 hbl
      go_enter Tryz.func74, Tryz.ntmps74
      go_wp2_with fail
      refine C1.mono ?_
      rintro e w1 ⟨rfl, rfl⟩
      go_wp2_with fail
      refine C2.mono ?_
      rintro e w2 ⟨rfl, rfl⟩
      clear C1 C2
      go_wp2
      go_ret
      exact ⟨rfl, rfl⟩
  · clear C3 C2 hbl
    go_enter Tryz.func74, Tryz.ntmps74
    go_wp2_with fail
    refine C1.mono ?_
    rintro e w1 ⟨rfl, rfl⟩
    clear C1
    go_wp2
    go_ret
    exact ⟨rfl, rfl⟩

theorem Nu.shape {w : World} {v : Value} {V : Nat} (h : Nu w v V) : ∃ a n c, v = .slice a n c := by obtain ⟨xs, ⟨a, c, e, _⟩, _⟩ := h; exact ⟨a, _, c, e⟩
/-- The refusal as the calls ask it: of numbers that have just been laid in a row. -/
theorem refuse1 (m a : Value) (M A : Nat) (w : World) (hm : Nu w m M) (ha : Nu w a A) :
    Calls Tryz.prog 74 #[m, .slice (some ⟨w.heap.size, 0, none⟩) 1 1] (w.alloc (.cells #[a] 24)) fun e w' => e = .returned (.int .i64 ((rcode M (Lg A) : Nat) : Int)) ∧ w' = w.alloc (.cells #[a] 24) := by
  have hb := alloc_below w (.cells #[a] 24)
  have h := refusal_v m M w.heap.size 1 (fun _ => a) (fun _ => A) _ (hm.below hb (Nat.le_refl _)) (fun j hj => by
    obtain rfl : j = 0 := by omega
    exact ⟨(alloc_bl w [a] 24).cell 0 (by simp), ha.below hb (Nat.le_refl _)⟩) (by decide)
  rw [show anyL 1 (fun _ => A) = Lg A by unfold anyL; simp [List.range_succ]] at h
  exact h
theorem refuse2 (m a b : Value) (M A B : Nat) (w : World) (hm : Nu w m M) (ha : Nu w a A) (hb : Nu w b B) :
    Calls Tryz.prog 74 #[m, .slice (some ⟨w.heap.size, 0, none⟩) 2 2] (w.alloc (.cells #[a, b] 24)) fun e w' => e = .returned (.int .i64 ((rcode M (Lg A || Lg B) : Nat) : Int)) ∧ w' = w.alloc (.cells #[a, b] 24) := by
  have hbel := alloc_below w (.cells #[a, b] 24)
  have h := refusal_v m M w.heap.size 2 (fun j => if j = 0 then a else b) (fun j => if j = 0 then A else B) _ (hm.below hbel (Nat.le_refl _)) (fun j hj => by
    rcases (by omega : j = 0 ∨ j = 1) with rfl | rfl
    · exact ⟨(alloc_bl w [a, b] 24).cell 0 (by simp), ha.below hbel (Nat.le_refl _)⟩
    · exact ⟨(alloc_bl w [a, b] 24).cell 1 (by simp), hb.below hbel (Nat.le_refl _)⟩) (by decide)
  rw [show anyL 2 (fun j => if j = 0 then A else B) = (Lg A || Lg B) by unfold anyL; simp [List.range_succ]] at h
  exact h

/-- What a call that reckons modulo a number answers: an error, or a new number. -/
def Ans (w w' : World) (e : Ending) (c V : Nat) : Prop := (c ≠ 0 ∧ e = .returned (.tuple #[.slice none 0 0, .int .i64 (c : Int)]) ∧ Below w.heap.size w w') ∨ (c = 0 ∧ ∃ r, e = .returned (.tuple #[r, .int .i64 0]) ∧ Re w w' r V)
theorem rcode_zero {M : Nat} {b : Bool} (h : rcode M b = 0) : Lg M = false ∧ b = false ∧ 2 ≤ M := by
  unfold rcode at h
  split at h
  · cases h
  · rename_i h1
    split at h
    · cases h
    · simp at h1
      exact ⟨h1.1, h1.2, by omega⟩

set_option maxHeartbeats 1000000 in
theorem madd_v (a b m : Value) (A B M : Nat) (w : World) (ha : Nu w a A) (hb : Nu w b B) (hm : Nu w m M) :
    Calls Tryz.prog 117 #[a, b, m] w fun e w' => Ans w w' e (rcode M (Lg A || Lg B)) ((A + B) % M) := by
  obtain ⟨a0, a1, a2, rfl⟩ := ha.shape
  obtain ⟨b0, b1, b2, rfl⟩ := hb.shape
  have C := refuse2 m _ _ M A B w hm ha hb
  have hbel := alloc_below w (.cells #[.slice a0 a1 a2, .slice b0 b1 b2] 24)
  have HBl : Hid (Below w.heap.size w (w.alloc (.cells #[.slice a0 a1 a2, .slice b0 b1 b2] 24))) := hbel
  by_cases h0 : rcode M (Lg A || Lg B) = 0
  · have hM : M ≠ 0 := by have := (rcode_zero h0).2.2; omega
    rw [h0] at C ⊢
    have C2 := vadd _ _ _ _ _ _ _ (ha.below hbel (Nat.le_refl _)) (hb.below hbel (Nat.le_refl _)) (by decide) (by decide)
    have HM : Hid (Nu (w.alloc (.cells #[.slice a0 a1 a2, .slice b0 b1 b2] 24)) m M) := hm.below hbel (Nat.le_refl _)
    clear ha hb hm h0 hbel
    go_enter Tryz.func117, Tryz.ntmps117
    go_wp2_with fail
    refine C.mono ?_
    rintro e w1 ⟨rfl, rfl⟩
    clear C
    go_wp2_with fail
    refine C2.mono ?_
    clear C2
    rintro e w2 ⟨s, rfl, hn⟩
    have C := rest_v s m _ M w2 (hn.vl.le (by decide)) (HM.out.below hn.2.2 (Nat.le_refl _)) hM
    have HB2 : Hid (Below _ _ _) := HBl.out.trans (hn.2.2.mono HBl.out.size)
    clear hn
    go_wp2_with fail
    refine C.mono ?_
    clear C
    rintro e w3 ⟨r, rfl, hn⟩
    have H : Hid (Re w w3 r ((A + B) % M)) := ⟨hn.1.base HB2.out.size, hn.2.1, HB2.out.trans (hn.2.2.mono HB2.out.size)⟩
    clear hn
    go_wp2
    go_ret2
    exact .inr ⟨rfl, r, rfl, H.out⟩
  · generalize rcode M (Lg A || Lg B) = c at C h0
    have hc : ((c : Int) != 0) = true := by simp; omega
    have Hc : Hid (c ≠ 0) := h0
    clear ha hb hm h0 hbel
    go_enter Tryz.func117, Tryz.ntmps117
    go_wp2_with fail
    refine C.mono ?_
    rintro e w1 ⟨rfl, rfl⟩
    clear C
    go_wp2
    go_ret2
    exact .inl ⟨Hc.out, rfl, HBl.out⟩

set_option maxHeartbeats 1000000 in
theorem mmul_v (a b m : Value) (A B M : Nat) (w : World) (ha : Nu w a A) (hb : Nu w b B) (hm : Nu w m M) :
    Calls Tryz.prog 116 #[a, b, m] w fun e w' => Ans w w' e (rcode M (Lg A || Lg B)) (A * B % M) := by
  obtain ⟨a0, a1, a2, rfl⟩ := ha.shape
  obtain ⟨b0, b1, b2, rfl⟩ := hb.shape
  have C := refuse2 m _ _ M A B w hm ha hb
  have hbel := alloc_below w (.cells #[.slice a0 a1 a2, .slice b0 b1 b2] 24)
  have HBl : Hid (Below w.heap.size w (w.alloc (.cells #[.slice a0 a1 a2, .slice b0 b1 b2] 24))) := hbel
  by_cases h0 : rcode M (Lg A || Lg B) = 0
  · have hM : M ≠ 0 := by have := (rcode_zero h0).2.2; omega
    rw [h0] at C ⊢
    have C2 := vmul _ _ _ _ _ _ _ (ha.below hbel (Nat.le_refl _)) (hb.below hbel (Nat.le_refl _)) (by decide) (by decide)
    have HM : Hid (Nu (w.alloc (.cells #[.slice a0 a1 a2, .slice b0 b1 b2] 24)) m M) := hm.below hbel (Nat.le_refl _)
    clear ha hb hm h0 hbel
    go_enter Tryz.func116, Tryz.ntmps116
    go_wp2_with fail
    refine C.mono ?_
    rintro e w1 ⟨rfl, rfl⟩
    clear C
    go_wp2_with fail
    refine C2.mono ?_
    clear C2
    rintro e w2 ⟨s, rfl, hn⟩
    have C := rest_v s m _ M w2 (hn.vl.le (by decide)) (HM.out.below hn.2.2 (Nat.le_refl _)) hM
    have HB2 : Hid (Below _ _ _) := HBl.out.trans (hn.2.2.mono HBl.out.size)
    clear hn
    go_wp2_with fail
    refine C.mono ?_
    clear C
    rintro e w3 ⟨r, rfl, hn⟩
    have H : Hid (Re w w3 r (A * B % M)) := ⟨hn.1.base HB2.out.size, hn.2.1, HB2.out.trans (hn.2.2.mono HB2.out.size)⟩
    clear hn
    go_wp2
    go_ret2
    exact .inr ⟨rfl, r, rfl, H.out⟩
  · generalize rcode M (Lg A || Lg B) = c at C h0
    have hc : ((c : Int) != 0) = true := by simp; omega
    have Hc : Hid (c ≠ 0) := h0
    clear ha hb hm h0 hbel
    go_enter Tryz.func116, Tryz.ntmps116
    go_wp2_with fail
    refine C.mono ?_
    rintro e w1 ⟨rfl, rfl⟩
    clear C
    go_wp2
    go_ret2
    exact .inl ⟨Hc.out, rfl, HBl.out⟩

set_option maxHeartbeats 1000000 in
theorem msub_v (a b m : Value) (A B M : Nat) (w : World) (ha : Nu w a A) (hb : Nu w b B) (hm : Nu w m M) :
    Calls Tryz.prog 50 #[a, b, m] w fun e w' => Ans w w' e (rcode M (Lg A || Lg B)) (lessV M (A % M) (B % M)) := by
  obtain ⟨a0, a1, a2, rfl⟩ := ha.shape
  obtain ⟨b0, b1, b2, rfl⟩ := hb.shape
  have C := refuse2 m _ _ M A B w hm ha hb
  have hbel := alloc_below w (.cells #[.slice a0 a1 a2, .slice b0 b1 b2] 24)
  have HBl : Hid (Below w.heap.size w (w.alloc (.cells #[.slice a0 a1 a2, .slice b0 b1 b2] 24))) := hbel
  by_cases h0 : rcode M (Lg A || Lg B) = 0
  · have hM : M ≠ 0 := by have := (rcode_zero h0).2.2; omega
    rw [h0] at C ⊢
    have HM : Hid (Nu w m M) := hm
    have HB : Hid (Nu w (.slice b0 b1 b2) B) := hb
    have C2 := rest_v _ m A M _ ((ha.below hbel (Nat.le_refl _)).le (by decide)) (hm.below hbel (Nat.le_refl _)) hM
    clear ha hb hm h0 hbel
    go_enter Tryz.func50, Tryz.ntmps50
    go_wp2_with fail
    refine C.mono ?_
    rintro e w1 ⟨rfl, rfl⟩
    clear C
    go_wp2_with fail
    refine C2.mono ?_
    clear C2
    rintro e w2 ⟨s, rfl, hn⟩
    have HB2 : Hid (Below _ _ _) := HBl.out.trans (hn.2.2.mono HBl.out.size)
    have HS : Hid (Nu w2 s (A % M)) := hn.nu
    clear hn
    have C := rest_v _ m B M w2 ((HB.out.below HB2.out (Nat.le_refl _)).le (by decide)) (HM.out.below HB2.out (Nat.le_refl _)) hM
    go_wp2_with fail
    refine C.mono ?_
    clear C
    rintro e w3 ⟨t, rfl, hn⟩
    have HB3 : Hid (Below _ _ _) := HB2.out.trans (hn.2.2.mono HB2.out.size)
    have C := less_v s t m _ _ M w3 (HS.out.below hn.2.2 (Nat.le_refl _)) hn.nu (HM.out.below HB3.out (Nat.le_refl _)) (Nat.mod_lt _ (by omega)) (Nat.mod_lt _ (by omega))
    clear hn
    go_wp2_with fail
    refine C.mono ?_
    clear C
    rintro e w4 ⟨r, rfl, hn⟩
    have H : Hid (Re w w4 r (lessV M (A % M) (B % M))) := ⟨hn.1.base HB3.out.size, hn.2.1, HB3.out.trans (hn.2.2.mono HB3.out.size)⟩
    clear hn
    go_wp2
    go_ret2
    exact .inr ⟨rfl, r, rfl, H.out⟩
  · generalize rcode M (Lg A || Lg B) = c at C h0
    have hc : ((c : Int) != 0) = true := by simp; omega
    have Hc : Hid (c ≠ 0) := h0
    clear ha hb hm h0 hbel
    go_enter Tryz.func50, Tryz.ntmps50
    go_wp2_with fail
    refine C.mono ?_
    rintro e w1 ⟨rfl, rfl⟩
    clear C
    go_wp2
    go_ret2
    exact .inl ⟨Hc.out, rfl, HBl.out⟩

end Go.Proofs.YtmngdaolgdhgmaaGreatDoor

namespace Go.Proofs.YtmngdaolgdhgmaaGreatDoor
open Go.RowKit

theorem Re.later {w w' w'' : World} {r : Value} {V : Nat} (hb : Below w.heap.size w w') (h : Re w' w'' r V) : Re w w'' r V := ⟨h.1.base hb.size, h.2.1, hb.trans (h.2.2.mono hb.size)⟩
theorem Re.keep {w w' w'' : World} {r : Value} {V : Nat} (h : Re w w' r V) (hb : Below w'.heap.size w' w'') : Re w w'' r V := ⟨h.1.below hb (Nat.le_refl _), h.2.1, h.2.2.trans (hb.mono h.2.2.size)⟩

end Go.Proofs.YtmngdaolgdhgmaaGreatDoor

namespace Go.Proofs.YtmngdaolgdhgmaaGreatDoor
open Go.ChangeShapes Go.WideShapes Go.ChangeAt Go.RowKit Go.Deep

theorem ownK : ownKnob Tryz.prog.godebug = none := by kernel_rfl
theorem laidO : laidOutB Tryz.prog = true := by kernel_rfl
theorem cellsU : Tryz.prog.cellsOf 51 = 1 := by kernel_rfl

theorem bulk_pos {H : Type} (d : DataW H) : 1 ≤ Rows.uptoBulk d := by
  cases d with
  | lit l => cases l <;> simp [Rows.uptoBulk]
  | _ => simp [Rows.uptoBulk]
theorem bulk_len {H : Type} : ∀ l : List (DataW H), l.length ≤ Rows.uptoBulkAll l
  | [] => by simp [Rows.uptoBulkAll]
  | d :: r => by
    have h1 := bulk_pos d
    have h2 := bulk_len r
    simp only [Rows.uptoBulkAll, List.length_cons]
    omega
theorem bulk_slice {H : Type} (es ss : List (DataW H)) : es.length + ss.length ≤ Rows.uptoBulk (.slice es ss) := by
  have := bulk_len es
  have := bulk_len ss
  simp only [Rows.uptoBulk]
  omega

/-- A number that came in. -/
theorem open_nat {H : Type} {enc : TypeId × Value → H} {W : World} {held : Bool} {v : Value} {d : DataW H} {p : List MemPlace} {fuel : Nat} {a : Option Addr} {len cap : Nat} (hv : v = .slice a len cap)
    (hf : DataW.trod enc Tryz.prog W 0 (fun _ => true) held fuel 24 v.cells.toList = some (d, p)) :
    ∃ l : List Nat, l.length = len ∧ len ≤ cap ∧ cap ≤ Rows.uptoBulk d ∧ Rn W a l ∧ Sm Bs l ∧ (a = none → cap = 0) := by
  subst hv
  rcases open_slice1 Tryz.underlying24 cellsU hf with ⟨hcs, hx⟩ | ⟨x, len', cap', m, n, V, D, Pl, hcs, _, hl, hm, hmm, hx, hall⟩
  · simp [Value.cells] at hcs
    obtain ⟨rfl, rfl, rfl⟩ := hcs
    exact ⟨[], rfl, Nat.le_refl _, Nat.zero_le _, .inl rfl, Sm.nil _, fun _ => rfl⟩
  · simp [Value.cells] at hcs
    obtain ⟨rfl, rfl, rfl⟩ := hcs
    simp only [if_true] at hmm
    subst hmm
    simp only [Prod.mk.injEq] at hx
    have hbk : m ≤ Rows.uptoBulk d := by
      rw [hx.1]
      refine Nat.le_trans ?_ (bulk_slice _ _)
      simp
      omega
    have hz : ∀ i, i < m → ∃ z : Int, V i = .int .u32 z ∧ 0 ≤ z ∧ z ≤ 4294967295 := fun i hi => by
      obtain ⟨z, h1, _, h3⟩ := DataW.trod_int Tryz.underlying51 (hall i hi).2
      simp at h1
      exact ⟨z, h1, bounds_u32 h3⟩
    refine ⟨(List.range len).map fun i => match V i with | .int _ z => z.toNat | _ => 0, by simp, hl, hbk, ?_, ?_, fun e => by cases e⟩
    rotate_left
    · intro x hx
      obtain ⟨i, hi, rfl⟩ := List.mem_map.1 hx
      obtain ⟨z, e, h1, h2⟩ := hz i (by have := List.mem_range.1 hi; omega)
      rw [e, Bs_eq]
      show z.toNat < _
      omega
    by_cases h0 : len = 0
    · subst h0; exact .inl (by simp)
    · obtain ⟨b, off, spot⟩ := x
      have hc := (hall 0 (by omega)).1
      have hspot : spot = none := by simpa [Addr.add] using World.cell?_spot hc
      subst hspot
      refine .inr ⟨b, off, rfl, World.block_lt_of_cell? W _ (by simpa [Addr.add] using hc), fun j hj => ?_⟩
      have hj' : j < len := by simpa using hj
      have hcj := (hall j (by omega)).1
      rw [Addr.add_lit] at hcj
      rw [hcj]
      obtain ⟨z, e, h1, h2⟩ := hz j (by omega)
      simp only [List.getD_eq_getElem?_getD, List.getElem?_map, List.getElem?_range hj', Option.map_some, Option.getD_some, e]
      unfold U
      congr 2
      omega

section
variable {H : Type} {enc : TypeId × Value → H} {P : Program} {w : World} {base : Nat} {spare : Nat → Bool} {held : Bool}
end

end Go.Proofs.YtmngdaolgdhgmaaGreatDoor
