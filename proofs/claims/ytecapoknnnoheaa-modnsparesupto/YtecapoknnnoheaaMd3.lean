import Derived.Test.YtecapoknnnoheaaMd2
namespace Go.Proofs.Ytecapoknnnoheaa
open Go.RowKit

theorem bit_v (k : Nat) (v : Value) (V n : Nat) (w : World) (hv : Vl w v V n) (hk : k ≤ 9223372036854775807) : Calls Try.prog 37 #[v, .int .i64 (k : Int)] w fun e w' => e = .returned (.bool (decide (V / 2 ^ k % 2 = 1))) ∧ w' = w := by
  obtain ⟨xs, n1, rfl, k1⟩ := hv
  exact bit_pos k v xs w n1 hk
theorem bl_small {V : Nat} (h : Lg V = false) : bl V ≤ 4096 := by
  have := len_bl 128 4096 V (by decide)
  have h2 := Lg_le h
  rcases Nat.lt_or_ge 4096 (bl V) with h3 | h3
  · have := this.1 h3; omega
  · exact h3
theorem Re.later {w w' w'' : World} {r : Value} {V : Nat} (hb : Below w.heap.size w w') (h : Re w' w'' r V) : Re w w'' r V := ⟨h.1.base hb.size, h.2.1, hb.trans (h.2.2.mono hb.size)⟩
theorem Re.keep {w w' w'' : World} {r : Value} {V : Nat} (h : Re w w' r V) (hb : Below w'.heap.size w' w'') : Re w w'' r V := ⟨h.1.below hb (Nat.le_refl _), h.2.1, h.2.2.trans (hb.mono h.2.2.size)⟩

set_option maxHeartbeats 2000000 in
theorem mexp_v (a b m : Value) (A B M : Nat) (w : World) (ha : Nu w a A) (hb : Nu w b B) (hm : Nu w m M) :
    Calls Try.prog 11 #[a, b, m] w fun e w' => Ans w w' e (rcode M (Lg A || Lg B)) (A ^ B % M) := by
  obtain ⟨a0, a1, a2, rfl⟩ := ha.shape
  obtain ⟨b0, b1, b2, rfl⟩ := hb.shape
  have C := refuse2 m _ _ M A B w hm ha hb
  have hbel := alloc_below w (.cells #[.slice a0 a1 a2, .slice b0 b1 b2] 23)
  have HBl : Hid (Below w.heap.size w (w.alloc (.cells #[.slice a0 a1 a2, .slice b0 b1 b2] 23))) := hbel
  by_cases h0 : rcode M (Lg A || Lg B) = 0
  · have hM : 2 ≤ M := (rcode_zero h0).2.2
    have hbB : bl B ≤ 4096 := bl_small (by have := (rcode_zero h0).2.1; simp at this; exact this.2)
    rw [h0] at C ⊢
    have C2 := proper_v m M _ (hm.below hbel (Nat.le_refl _))
    have HA : Hid (Nu w (.slice a0 a1 a2) A) := ha
    have HB : Hid (Nu w (.slice b0 b1 b2) B) := hb
    clear ha hb hm h0 hbel
    go_enter Try.func11, Try.ntmps11
    go_wp2_with fail
    refine C.mono ?_
    rintro e w1 ⟨rfl, rfl⟩
    clear C
    go_wp2_with fail
    refine C2.mono ?_
    clear C2
    rintro e w2 ⟨m', rfl, hn⟩
    have HM : Hid (Re w w2 m' M) := Re.later HBl.out hn
    clear hn HBl
    have C := rest_v _ m' A M w2 ((HA.out.below HM.out.bel (Nat.le_refl _)).le (by decide)) HM.out.nu (by omega)
    go_wp2_with fail
    refine C.mono ?_
    clear C
    rintro e w3 ⟨a', rfl, hn⟩
    have HM3 : Hid (Re w w3 m' M) := HM.out.keep hn.bel
    have HA3 : Hid (Re w w3 a' (A % M)) := Re.later HM.out.bel hn
    clear hn HM HA
    go_wp2_with fail
    refine (one_v w3).mono ?_
    rintro e w4 ⟨p, rfl, hn⟩
    have HM4 : Hid (Re w w4 m' M) := HM3.out.keep hn.bel
    have HA4 : Hid (Re w w4 a' (A % M)) := HA3.out.keep hn.bel
    have HP4 : Hid (Re w w4 p 1) := Re.later HM3.out.bel hn
    clear hn HM3 HA3
    have C := vbits _ B _ w4 (HB.out.below HM4.out.bel (Nat.le_refl _)) (by decide)
    obtain ⟨d, Hd⟩ : ∃ d, Hid (bl B = d) := ⟨_, rfl⟩
    rw [Hd.out] at C hbB
    have HP5 : Hid (Re w w4 p (A ^ (B / 2 ^ (d - 0)) % M)) := by
      have h := HP4.out
      rw [Nat.sub_zero, ← Hd.out, Nat.div_eq_of_lt (bl_lt B), Nat.pow_zero, Nat.mod_eq_of_lt (by omega)]
      exact h
    clear HP4
    go_wp2_with fail
    refine C.mono ?_
    clear C
    rintro e w5 ⟨rfl, rfl⟩
    go_wp2
    go_loopw [9, 29] (fun s t wr => ∃ k : Nat, k ≤ d ∧ t = .int .i64 (k : Int) ∧ Hid (Re w wr s (A ^ (B / 2 ^ (d - k)) % M)) ∧ Hid (Re w wr m' M) ∧ Hid (Re w wr a' (A % M))) (fun _ t _ => d - (intOf t).toNat)
    case atStart => exact ⟨0, Nat.zero_le _, rfl, HP5, HM4, HA4⟩
    case round =>
      clear HP5 HM4 HA4
      obtain ⟨k, hk, rfl, HP, HM, HA⟩ := hrel
      by_cases hlt : k < d
      · have hlI : (k : Int) < (d : Int) := by omega
        obtain ⟨j, hj⟩ : ∃ j, d = k + 1 + j := ⟨d - (k + 1), by omega⟩
        have Hst := exp_step A M B j
        rw [show j + 1 = d - k by omega] at Hst
        have HS : Hid ((if B / 2 ^ j % 2 = 1 then (A ^ (B / 2 ^ (d - k)) % M * (A ^ (B / 2 ^ (d - k)) % M) % M) * (A % M) % M else A ^ (B / 2 ^ (d - k)) % M * (A ^ (B / 2 ^ (d - k)) % M) % M) = A ^ (B / 2 ^ (d - (k + 1))) % M) := by rw [show d - (k + 1) = j by omega]; exact Hst
        clear Hst
        have Hjk : Hid (True → ((j : Nat) : Int) = (d : Int) - 1 - (k : Int)) := fun _ => by omega
        have hj4 : j ≤ 4096 := by omega
        clear hj
        have C := vmul u9 u9 _ _ _ _ wr HP.out.nu HP.out.nu (by decide) (by decide)
        clear HP
        go_wp2_with fail
        refine C.mono ?_
        clear C
        rintro e w6 ⟨s, rfl, hn⟩
        have HM6 : Hid (Re w w6 m' M) := HM.out.keep hn.2.2
        have HA6 : Hid (Re w w6 a' (A % M)) := HA.out.keep hn.2.2
        have C := rest_v s m' _ M w6 (hn.vl.le (by decide)) HM6.out.nu (by omega)
        clear hn HM HA
        go_wp2_with fail
        refine C.mono ?_
        clear C
        rintro e w7 ⟨p, rfl, hn⟩
        have HM7 : Hid (Re w w7 m' M) := HM6.out.keep hn.bel
        have HA7 : Hid (Re w w7 a' (A % M)) := HA6.out.keep hn.bel
        have HP7 : Hid (Re w w7 p (A ^ (B / 2 ^ (d - k)) % M * (A ^ (B / 2 ^ (d - k)) % M) % M)) := Re.later HM6.out.bel hn
        clear hn HM6 HA6
        have C := bit_v j (.slice b0 b1 b2) B _ w7 (HB.out.below HM7.out.bel (Nat.le_refl _)) (by omega)
        rw [Hjk.out trivial] at C
        by_cases hbit : B / 2 ^ j % 2 = 1
        · rw [decide_eq_true hbit] at C
          have HS2 : Hid ((A ^ (B / 2 ^ (d - k)) % M * (A ^ (B / 2 ^ (d - k)) % M) % M) * (A % M) % M = A ^ (B / 2 ^ (d - (k + 1))) % M) := by
            have h := HS.out
            rw [if_pos hbit] at h
            exact h
          clear hbit HS Hjk
          go_wp2_with fail
          refine C.mono ?_
          clear C
          rintro e w8 ⟨rfl, rfl⟩
          have C := vmul p a' _ _ _ _ w8 HP7.out.nu HA7.out.nu (by decide) (by decide)
          clear HP7
          go_wp2_with fail
          refine C.mono ?_
          clear C
          rintro e w9 ⟨s2, rfl, hn⟩
          have HM9 : Hid (Re w w9 m' M) := HM7.out.keep hn.2.2
          have HA9 : Hid (Re w w9 a' (A % M)) := HA7.out.keep hn.2.2
          have C := rest_v s2 m' _ M w9 (hn.vl.le (by decide)) HM9.out.nu (by omega)
          rw [HS2.out] at C
          clear hn HM7 HA7
          go_wp2_with fail
          refine C.mono ?_
          clear C
          rintro e w10 ⟨p2, rfl, hn⟩
          have HM10 : Hid (Re w w10 m' M) := HM9.out.keep hn.bel
          have HA10 : Hid (Re w w10 a' (A % M)) := HA9.out.keep hn.bel
          have HP10 : Hid (Re w w10 p2 (A ^ (B / 2 ^ (d - (k + 1))) % M)) := Re.later HM9.out.bel hn
          clear hn HM9 HA9
          go_wp2
          go_roundw
          case rel => exact ⟨k + 1, by omega, by go_num, HP10, HM10, HA10⟩
          case measure => simp [intOf]; omega
        · rw [decide_eq_false hbit] at C
          have HP8 : Hid (Re w w7 p (A ^ (B / 2 ^ (d - (k + 1))) % M)) := by
            have h := HS.out
            rw [if_neg hbit] at h
            rw [← h]
            exact HP7.out
          clear hbit HS Hjk HP7
          go_wp2_with fail
          refine C.mono ?_
          clear C
          rintro e w8 ⟨rfl, rfl⟩
          go_wp2
          go_roundw
          case rel => exact ⟨k + 1, by omega, by go_num, HP8, HM7, HA7⟩
          case measure => simp [intOf]; omega
      · have hlI : ¬ (k : Int) < (d : Int) := by omega
        obtain rfl : k = d := by omega
        have HP8 : Hid (Re w wr u9 (A ^ B % M)) := by
          have h := HP.out
          rw [Nat.sub_self, Nat.pow_zero, Nat.div_one] at h
          exact h
        clear HP HM HA
        go_wp2
        go_ret2
        exact .inr ⟨rfl, _, rfl, HP8.out⟩
  · generalize rcode M (Lg A || Lg B) = c at C h0
    have hc : ((c : Int) != 0) = true := by simp; omega
    have Hc : Hid (c ≠ 0) := h0
    clear ha hb hm h0 hbel
    go_enter Try.func11, Try.ntmps11
    go_wp2_with fail
    refine C.mono ?_
    rintro e w1 ⟨rfl, rfl⟩
    clear C
    go_wp2
    go_ret2
    exact .inl ⟨Hc.out, rfl, HBl.out⟩

end Go.Proofs.Ytecapoknnnoheaa
