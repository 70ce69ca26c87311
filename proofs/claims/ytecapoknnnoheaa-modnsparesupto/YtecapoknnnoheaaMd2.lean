import Derived.Test.YtecapoknnnoheaaMd1
namespace Go.Proofs.Ytecapoknnnoheaa
open Go.RowKit

/-- Numbers that lie in a row. -/
def Nus (w : World) (g n : Nat) (vs : Nat → Value) (Vs : Nat → Nat) : Prop := ∀ j, j < n → w.cell? ⟨g, j, none⟩ = some (vs j) ∧ Nu w (vs j) (Vs j)
def anyL (n : Nat) (Vs : Nat → Nat) : Bool := (List.range n).any fun j => Lg (Vs j)

set_option maxHeartbeats 1000000 in
theorem index_v (g n : Nat) (vs : Nat → Value) (Vs : Nat → Nat) (w : World) (h : Nus w g n vs Vs) (hn : n ≤ 10) :
    Calls Try.prog 74 #[.slice (some ⟨g, 0, none⟩) n n, .func (.func 59) #[] #[]] w fun e w' => (∃ i : Int, e = .returned (.int .i64 i) ∧ decide (i ≥ 0) = anyL n Vs) ∧ w' = w := by
  have H : Hid (Nus w g n vs Vs) := h
  clear h
  go_enter Try.func74, Try.ntmps74
  go_wp2
  go_loop [8] (fun s => ∃ k : Nat, k ≤ n ∧ s = .int .i64 (k : Int) ∧ Hid (∀ j, j < k → Lg (Vs j) = false)) (fun s => n - (intOf s).toNat)
  case atStart => exact ⟨0, Nat.zero_le _, rfl, fun j hj => by omega⟩
  case round =>
    obtain ⟨k, hk, rfl, hf⟩ := hrel
    by_cases hlt : k < n
    · have hc := (H.out k hlt).1
      have C := large_v (vs k) (Vs k) w (H.out k hlt).2
      have HV : Hid (Lg (Vs k) = Lg (Vs k)) := rfl
      have hlI : (k : Int) < (n : Int) := by omega
      have HT : Hid (Lg (Vs k) = true → anyL n Vs = true) := fun e => by
        unfold anyL
        rw [List.any_eq_true]
        exact ⟨k, List.mem_range.2 hlt, e⟩
      generalize hb : Lg (Vs k) = b at C HV HT
      have Hb : Hid (Lg (Vs k) = b) := hb
      clear hb
      generalize vs k = v at hc C
      cases b
      · go_wp2_with fail
        refine C.mono ?_
        rintro e w1 ⟨rfl, rfl⟩
        clear C
        go_wp2
        go_round
        case rel => exact ⟨k + 1, by omega, by go_num, fun j hj => by
          by_cases e : j = k
          · rw [e]; exact Hb.out
          · exact hf.out j (by omega)⟩
        case measure => simp [intOf]; omega
      · go_wp2_with fail
        refine C.mono ?_
        rintro e w1 ⟨rfl, rfl⟩
        clear C
        go_wp2
        go_ret
        exact ⟨⟨(k : Int), rfl, by rw [HT.out trivial]; exact decide_eq_true (by omega)⟩, rfl⟩
    · have hlI : ¬ (k : Int) < (n : Int) := by omega
      have HT : Hid (anyL n Vs = false) := by
        show anyL n Vs = false
        unfold anyL
        rw [List.any_eq_false]
        intro j hj
        rw [hf.out j (by have := List.mem_range.1 hj; omega)]
        decide
      go_wp2
      go_ret
      exact ⟨⟨-1, rfl, by rw [HT.out]; rfl⟩, rfl⟩

set_option maxHeartbeats 1000000 in
theorem contains_v (g n : Nat) (vs : Nat → Value) (Vs : Nat → Nat) (w : World) (h : Nus w g n vs Vs) (hn : n ≤ 10) :
    Calls Try.prog 60 #[.slice (some ⟨g, 0, none⟩) n n, .func (.func 59) #[] #[]] w fun e w' => e = .returned (.bool (anyL n Vs)) ∧ w' = w := by
  have C := index_v g n vs Vs w h hn
  clear h
  generalize anyL n Vs = b at C
  go_enter Try.func60, Try.ntmps60
  go_wp2_with fail
  refine C.mono ?_
  rintro e w1 ⟨⟨i, rfl, hi⟩, rfl⟩
  clear C
  go_wp2
  go_ret
  exact ⟨rfl, rfl⟩

/-- Why nothing is reckoned. -/
def rcode (M : Nat) (b : Bool) : Nat := if Lg M || b then 10 else if M < 2 then 60 else 0

set_option maxHeartbeats 1000000 in
theorem refusal_v (m : Value) (M g n : Nat) (vs : Nat → Value) (Vs : Nat → Nat) (w : World) (hm : Nu w m M) (h : Nus w g n vs Vs) (hn : n ≤ 10) :
    Calls Try.prog 32 #[m, .slice (some ⟨g, 0, none⟩) n n] w fun e w' => e = .returned (.int .i64 ((rcode M (anyL n Vs) : Nat) : Int)) ∧ w' = w := by
  have C1 := large_v m M w hm
  have C2 := contains_v g n vs Vs w h hn
  have C3 := vbits m M _ w hm (by decide)
  clear h hm
  generalize anyL n Vs = b at C2
  unfold rcode
  have hbl : decide (((bl M : Nat) : Int) < 2) = decide (M < 2) := by
    by_cases h : M < 2
    · have h1 := bl_mono (show M ≤ 1 by omega)
      rw [show bl 1 = 1 by decide] at h1
      rw [decide_eq_true h, decide_eq_true (by omega)]
    · have h1 := bl_mono (show 2 ≤ M by omega)
      rw [show bl 2 = 2 by decide] at h1
      rw [decide_eq_false h, decide_eq_false (by omega)]
  generalize bl M = k at C3 hbl
  rw [show (if M < 2 then 60 else 0) = if decide (M < 2) = true then 60 else 0 by simp]
  generalize decide (M < 2) = d at hbl
  generalize Lg M = lm at C1
  cases lm
  · cases b
    · cases d
      · go_enter Try.func32, Try.ntmps32
        go_wp2_with fail
        refine C1.mono ?_
        rintro e w1 ⟨rfl, rfl⟩
        go_wp2_with fail
        refine C2.mono ?_
        rintro e w2 ⟨rfl, rfl⟩
        go_wp2_with fail
        refine C3.mono ?_
        rintro e w3 ⟨rfl, rfl⟩
        clear C1 C2 C3
        go_wp2
        go_ret
        exact ⟨rfl, rfl⟩
      · go_enter Try.func32, Try.ntmps32
        go_wp2_with fail
        refine C1.mono ?_
        rintro e w1 ⟨rfl, rfl⟩
        go_wp2_with fail
        refine C2.mono ?_
        rintro e w2 ⟨rfl, rfl⟩
        go_wp2_with fail
        refine C3.mono ?_
        rintro e w3 ⟨rfl, rfl⟩
        clear C1 C2 C3
        go_wp2
        go_ret
        exact ⟨rfl, rfl⟩
    · clear C3 hbl
      go_enter Try.func32, Try.ntmps32
      go_wp2_with fail
      refine C1.mono ?_
      rintro e w1 ⟨rfl, rfl⟩
      go_wp2_with fail
      refine C2.mono ?_
      rintro e w2 ⟨rfl, rfl⟩
      clear C1 C2
      go_wp2
      go_ret
      exact ⟨rfl, rfl⟩
  · clear C3 C2 hbl
    go_enter Try.func32, Try.ntmps32
    go_wp2_with fail
    refine C1.mono ?_
    rintro e w1 ⟨rfl, rfl⟩
    clear C1
    go_wp2
    go_ret
    exact ⟨rfl, rfl⟩

theorem Nu.shape {w : World} {v : Value} {V : Nat} (h : Nu w v V) : ∃ a n c, v = .slice a n c := by obtain ⟨xs, ⟨a, c, e, _⟩, _⟩ := h; exact ⟨a, _, c, e⟩
/-- The refusal as the calls ask it: of numbers that have just been laid in a row. -/
theorem refuse1 (m a : Value) (M A : Nat) (w : World) (hm : Nu w m M) (ha : Nu w a A) :
    Calls Try.prog 32 #[m, .slice (some ⟨w.heap.size, 0, none⟩) 1 1] (w.alloc (.cells #[a] 23)) fun e w' => e = .returned (.int .i64 ((rcode M (Lg A) : Nat) : Int)) ∧ w' = w.alloc (.cells #[a] 23) := by
  have hb := alloc_below w (.cells #[a] 23)
  have h := refusal_v m M w.heap.size 1 (fun _ => a) (fun _ => A) _ (hm.below hb (Nat.le_refl _)) (fun j hj => by
    obtain rfl : j = 0 := by omega
    exact ⟨(alloc_bl w [a] 23).cell 0 (by simp), ha.below hb (Nat.le_refl _)⟩) (by decide)
  rw [show anyL 1 (fun _ => A) = Lg A by unfold anyL; simp [List.range_succ]] at h
  exact h
theorem refuse2 (m a b : Value) (M A B : Nat) (w : World) (hm : Nu w m M) (ha : Nu w a A) (hb : Nu w b B) :
    Calls Try.prog 32 #[m, .slice (some ⟨w.heap.size, 0, none⟩) 2 2] (w.alloc (.cells #[a, b] 23)) fun e w' => e = .returned (.int .i64 ((rcode M (Lg A || Lg B) : Nat) : Int)) ∧ w' = w.alloc (.cells #[a, b] 23) := by
  have hbel := alloc_below w (.cells #[a, b] 23)
  have h := refusal_v m M w.heap.size 2 (fun j => if j = 0 then a else b) (fun j => if j = 0 then A else B) _ (hm.below hbel (Nat.le_refl _)) (fun j hj => by
    rcases (by omega : j = 0 ∨ j = 1) with rfl | rfl
    · exact ⟨(alloc_bl w [a, b] 23).cell 0 (by simp), ha.below hbel (Nat.le_refl _)⟩
    · exact ⟨(alloc_bl w [a, b] 23).cell 1 (by simp), hb.below hbel (Nat.le_refl _)⟩) (by decide)
  rw [show anyL 2 (fun j => if j = 0 then A else B) = (Lg A || Lg B) by unfold anyL; simp [List.range_succ]] at h
  exact h

/-- What a call that reckons modulo a number answers: an error, or a new number. -/
def Ans (w w' : World) (e : Ending) (c V : Nat) : Prop := (c ≠ 0 ∧ e = .returned (.tuple #[.slice none 0 0, .int .i64 (c : Int)]) ∧ Below w.heap.size w w') ∨ (c = 0 ∧ ∃ r, e = .returned (.tuple #[r, .int .i64 0]) ∧ Re w w' r V)
theorem rcode_zero {M : Nat} {b : Bool} (h : rcode M b = 0) : Lg M = false ∧ b = false ∧ 2 ≤ M := by
  unfold rcode at h
  split at h
  · cases h
  · rename_i h1
    split at h
    · cases h
    · simp at h1
      exact ⟨h1.1, h1.2, by omega⟩

set_option maxHeartbeats 1000000 in
theorem madd_v (a b m : Value) (A B M : Nat) (w : World) (ha : Nu w a A) (hb : Nu w b B) (hm : Nu w m M) :
    Calls Try.prog 16 #[a, b, m] w fun e w' => Ans w w' e (rcode M (Lg A || Lg B)) ((A + B) % M) := by
  obtain ⟨a0, a1, a2, rfl⟩ := ha.shape
  obtain ⟨b0, b1, b2, rfl⟩ := hb.shape
  have C := refuse2 m _ _ M A B w hm ha hb
  have hbel := alloc_below w (.cells #[.slice a0 a1 a2, .slice b0 b1 b2] 23)
  have HBl : Hid (Below w.heap.size w (w.alloc (.cells #[.slice a0 a1 a2, .slice b0 b1 b2] 23))) := hbel
  by_cases h0 : rcode M (Lg A || Lg B) = 0
  · have hM : M ≠ 0 := by have := (rcode_zero h0).2.2; omega
    rw [h0] at C ⊢
    have C2 := vadd _ _ _ _ _ _ _ (ha.below hbel (Nat.le_refl _)) (hb.below hbel (Nat.le_refl _)) (by decide) (by decide)
    have HM : Hid (Nu (w.alloc (.cells #[.slice a0 a1 a2, .slice b0 b1 b2] 23)) m M) := hm.below hbel (Nat.le_refl _)
    clear ha hb hm h0 hbel
    go_enter Try.func16, Try.ntmps16
    go_wp2_with fail
    refine C.mono ?_
    rintro e w1 ⟨rfl, rfl⟩
    clear C
    go_wp2_with fail
    refine C2.mono ?_
    clear C2
    rintro e w2 ⟨s, rfl, hn⟩
    have C := rest_v s m _ M w2 (hn.vl.le (by decide)) (HM.out.below hn.2.2 (Nat.le_refl _)) hM
    have HB2 : Hid (Below w.heap.size w w2) := HBl.out.trans (hn.2.2.mono HBl.out.size)
    clear hn
    go_wp2_with fail
    refine C.mono ?_
    clear C
    rintro e w3 ⟨r, rfl, hn⟩
    have H : Hid (Re w w3 r ((A + B) % M)) := ⟨hn.1.base HB2.out.size, hn.2.1, HB2.out.trans (hn.2.2.mono HB2.out.size)⟩
    clear hn
    go_wp2
    go_ret2
    exact .inr ⟨rfl, r, rfl, H.out⟩
  · generalize rcode M (Lg A || Lg B) = c at C h0
    have hc : ((c : Int) != 0) = true := by simp; omega
    have Hc : Hid (c ≠ 0) := h0
    clear ha hb hm h0 hbel
    go_enter Try.func16, Try.ntmps16
    go_wp2_with fail
    refine C.mono ?_
    rintro e w1 ⟨rfl, rfl⟩
    clear C
    go_wp2
    go_ret2
    exact .inl ⟨Hc.out, rfl, HBl.out⟩

set_option maxHeartbeats 1000000 in
theorem mmul_v (a b m : Value) (A B M : Nat) (w : World) (ha : Nu w a A) (hb : Nu w b B) (hm : Nu w m M) :
    Calls Try.prog 18 #[a, b, m] w fun e w' => Ans w w' e (rcode M (Lg A || Lg B)) (A * B % M) := by
  obtain ⟨a0, a1, a2, rfl⟩ := ha.shape
  obtain ⟨b0, b1, b2, rfl⟩ := hb.shape
  have C := refuse2 m _ _ M A B w hm ha hb
  have hbel := alloc_below w (.cells #[.slice a0 a1 a2, .slice b0 b1 b2] 23)
  have HBl : Hid (Below w.heap.size w (w.alloc (.cells #[.slice a0 a1 a2, .slice b0 b1 b2] 23))) := hbel
  by_cases h0 : rcode M (Lg A || Lg B) = 0
  · have hM : M ≠ 0 := by have := (rcode_zero h0).2.2; omega
    rw [h0] at C ⊢
    have C2 := vmul _ _ _ _ _ _ _ (ha.below hbel (Nat.le_refl _)) (hb.below hbel (Nat.le_refl _)) (by decide) (by decide)
    have HM : Hid (Nu (w.alloc (.cells #[.slice a0 a1 a2, .slice b0 b1 b2] 23)) m M) := hm.below hbel (Nat.le_refl _)
    clear ha hb hm h0 hbel
    go_enter Try.func18, Try.ntmps18
    go_wp2_with fail
    refine C.mono ?_
    rintro e w1 ⟨rfl, rfl⟩
    clear C
    go_wp2_with fail
    refine C2.mono ?_
    clear C2
    rintro e w2 ⟨s, rfl, hn⟩
    have C := rest_v s m _ M w2 (hn.vl.le (by decide)) (HM.out.below hn.2.2 (Nat.le_refl _)) hM
    have HB2 : Hid (Below w.heap.size w w2) := HBl.out.trans (hn.2.2.mono HBl.out.size)
    clear hn
    go_wp2_with fail
    refine C.mono ?_
    clear C
    rintro e w3 ⟨r, rfl, hn⟩
    have H : Hid (Re w w3 r (A * B % M)) := ⟨hn.1.base HB2.out.size, hn.2.1, HB2.out.trans (hn.2.2.mono HB2.out.size)⟩
    clear hn
    go_wp2
    go_ret2
    exact .inr ⟨rfl, r, rfl, H.out⟩
  · generalize rcode M (Lg A || Lg B) = c at C h0
    have hc : ((c : Int) != 0) = true := by simp; omega
    have Hc : Hid (c ≠ 0) := h0
    clear ha hb hm h0 hbel
    go_enter Try.func18, Try.ntmps18
    go_wp2_with fail
    refine C.mono ?_
    rintro e w1 ⟨rfl, rfl⟩
    clear C
    go_wp2
    go_ret2
    exact .inl ⟨Hc.out, rfl, HBl.out⟩

set_option maxHeartbeats 1000000 in
theorem msub_v (a b m : Value) (A B M : Nat) (w : World) (ha : Nu w a A) (hb : Nu w b B) (hm : Nu w m M) :
    Calls Try.prog 17 #[a, b, m] w fun e w' => Ans w w' e (rcode M (Lg A || Lg B)) (lessV M (A % M) (B % M)) := by
  obtain ⟨a0, a1, a2, rfl⟩ := ha.shape
  obtain ⟨b0, b1, b2, rfl⟩ := hb.shape
  have C := refuse2 m _ _ M A B w hm ha hb
  have hbel := alloc_below w (.cells #[.slice a0 a1 a2, .slice b0 b1 b2] 23)
  have HBl : Hid (Below w.heap.size w (w.alloc (.cells #[.slice a0 a1 a2, .slice b0 b1 b2] 23))) := hbel
  by_cases h0 : rcode M (Lg A || Lg B) = 0
  · have hM : M ≠ 0 := by have := (rcode_zero h0).2.2; omega
    rw [h0] at C ⊢
    have HM : Hid (Nu w m M) := hm
    have HB : Hid (Nu w (.slice b0 b1 b2) B) := hb
    have C2 := rest_v _ m A M _ ((ha.below hbel (Nat.le_refl _)).le (by decide)) (hm.below hbel (Nat.le_refl _)) hM
    clear ha hb hm h0 hbel
    go_enter Try.func17, Try.ntmps17
    go_wp2_with fail
    refine C.mono ?_
    rintro e w1 ⟨rfl, rfl⟩
    clear C
    go_wp2_with fail
    refine C2.mono ?_
    clear C2
    rintro e w2 ⟨s, rfl, hn⟩
    have HB2 : Hid (Below w.heap.size w w2) := HBl.out.trans (hn.2.2.mono HBl.out.size)
    have HS : Hid (Nu w2 s (A % M)) := hn.nu
    clear hn
    have C := rest_v _ m B M w2 ((HB.out.below HB2.out (Nat.le_refl _)).le (by decide)) (HM.out.below HB2.out (Nat.le_refl _)) hM
    go_wp2_with fail
    refine C.mono ?_
    clear C
    rintro e w3 ⟨t, rfl, hn⟩
    have HB3 : Hid (Below w.heap.size w w3) := HB2.out.trans (hn.2.2.mono HB2.out.size)
    have C := less_v s t m _ _ M w3 (HS.out.below hn.2.2 (Nat.le_refl _)) hn.nu (HM.out.below HB3.out (Nat.le_refl _)) (Nat.mod_lt _ (by omega)) (Nat.mod_lt _ (by omega))
    clear hn
    go_wp2_with fail
    refine C.mono ?_
    clear C
    rintro e w4 ⟨r, rfl, hn⟩
    have H : Hid (Re w w4 r (lessV M (A % M) (B % M))) := ⟨hn.1.base HB3.out.size, hn.2.1, HB3.out.trans (hn.2.2.mono HB3.out.size)⟩
    clear hn
    go_wp2
    go_ret2
    exact .inr ⟨rfl, r, rfl, H.out⟩
  · generalize rcode M (Lg A || Lg B) = c at C h0
    have hc : ((c : Int) != 0) = true := by simp; omega
    have Hc : Hid (c ≠ 0) := h0
    clear ha hb hm h0 hbel
    go_enter Try.func17, Try.ntmps17
    go_wp2_with fail
    refine C.mono ?_
    rintro e w1 ⟨rfl, rfl⟩
    clear C
    go_wp2
    go_ret2
    exact .inl ⟨Hc.out, rfl, HBl.out⟩

end Go.Proofs.Ytecapoknnnoheaa
