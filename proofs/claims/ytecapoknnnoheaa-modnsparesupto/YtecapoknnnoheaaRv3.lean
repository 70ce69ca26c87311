import Derived.Test.YtecapoknnnoheaaRvz
import Derived.Test.YtecapoknnnoheaaMl4
namespace Go.Proofs.Ytecapoknnnoheaa
open Go.RowKit

set_option maxHeartbeats 4000000 in
theorem dexp (a b m : Value) (A B M : Nat) (w : World) (ha : Nd w a A 3000000) (hb : Nd w b B 3000000) (hm : Nd w m M 3000000) :
    Calls Try.prog 12 #[a, b, m] w fun e w' => Ans w w' e (rcode M (Lg A || Lg B)) (A ^ B % M) := by
  obtain ⟨a0, a1, a2, rfl⟩ := ha.shape
  obtain ⟨b0, b1, b2, rfl⟩ := hb.shape
  have C := dwrong2 m _ _ M A B w hm ha hb
  by_cases h0 : rcode M (Lg A || Lg B) = 0
  · have hM : 2 ≤ M := (rcode_zero h0).2.2
    have lB0 : Hid (Lg B = false) := by have := (rcode_zero h0).2.1; simp at this; exact this.2
    rw [h0] at C ⊢
    have HA : Hid (Nd w (.slice a0 a1 a2) A 3000000) := ha
    have HB : Hid (Nd w (.slice b0 b1 b2) B 3000000) := hb
    have HM : Hid (Nd w m M 3000000) := hm
    clear ha hb hm h0
    go_enter Try.func12, Try.ntmps12
    go_wp2_with fail
    refine C.mono ?_
    clear C
    rintro e w1 ⟨rfl, hbel⟩
    have HB1 : Hid (Below w.heap.size w w1) := hbel
    clear hbel
    have C := dtrim _ B _ w1 (HB.out.below HB1.out (Nat.le_refl _)) (by decide)
    go_wp2_with fail
    refine C.mono ?_
    clear C
    rintro e w2 ⟨e', rfl, hn⟩
    have HB2 : Hid (Below w.heap.size w w2) := HB1.out.trans (hn.2.2.mono HB1.out.size)
    have NE : Hid (Re w w2 e' B) := Re.later HB1.out hn
    clear hn
    have C := drest _ m A M w2 ((HA.out.below HB2.out (Nat.le_refl _)).le (by decide)) (HM.out.below HB2.out (Nat.le_refl _)) (by omega)
    go_wp2_with fail
    refine C.mono ?_
    clear C
    rintro e w3 ⟨a', rfl, hn⟩
    have HB3 : Hid (Below w.heap.size w w3) := HB2.out.trans (hn.2.2.mono HB2.out.size)
    have NE3 : Hid (Re w w3 e' B) := NE.out.keep hn.bel
    have NA3 : Hid (Re w w3 a' (A % M)) := Re.later HB2.out hn
    clear hn NE
    go_wp2_with fail
    refine (done1 w3).mono ?_
    rintro e w4 ⟨o1, rfl, hn⟩
    have HB4 : Hid (Below w.heap.size w w4) := HB3.out.trans (hn.bel.mono HB3.out.size)
    have NE4 : Hid (Re w w4 e' B) := NE3.out.keep hn.bel
    have NA4 : Hid (Re w w4 a' (A % M)) := NA3.out.keep hn.bel
    have NO4 : Hid (Nd w4 o1 1 10000000) := hn.nd.le (by decide)
    clear hn NE3 NA3
    have C := drest o1 m 1 M w4 NO4.out (HM.out.below HB4.out (Nat.le_refl _)) (by omega)
    go_wp2_with fail
    refine C.mono ?_
    clear C
    rintro e w5 ⟨p0, rfl, hn⟩
    have HB5 : Hid (Below w.heap.size w w5) := HB4.out.trans (hn.2.2.mono HB4.out.size)
    rw [Nat.mod_eq_of_lt (show 1 < M by omega)] at hn
    have NE5 : Hid (Re w w5 e' B) := NE4.out.keep hn.bel
    have NA5 : Hid (Re w w5 a' (A % M)) := NA4.out.keep hn.bel
    have NP5 : Hid (Re w w5 p0 1) := Re.later HB4.out hn
    clear hn NE4 NA4 NO4 HB2 HB3 HB4
    obtain ⟨nl, Hnl⟩ : ∃ nl, Hid ((dg Bs B).length = nl) := ⟨_, rfl⟩
    obtain ⟨ea, ec, hes, hec, hre, hse⟩ := NE5.out.1.nm (dg_sm Bs_two _)
    rw [Hnl.out] at hes
    subst hes
    have hnl : nl ≤ 3000000 := by rw [← Hnl.out]; exact NE5.out.2.1
    have HSt : Hid (A ^ (B / 2 ^ (32 * nl)) % M = 1) := by
      show _ = _
      rw [Nat.div_eq_of_lt (by rw [← Hnl.out, ← Bs_pow _ _ rfl]; exact dg_up Bs_two B), Nat.pow_zero, Nat.mod_eq_of_lt (by omega)]
    have NP6 : Hid (Re w w5 p0 (A ^ (B / 2 ^ (32 * nl)) % M)) := by rw [HSt.out]; exact NP5.out
    clear NP5 hec hre hse HA HB HSt
    go_wp2
    go_loopw [9, 10] (fun s t wr => ∃ k : Nat, k ≤ 32 * nl ∧ t = .int .i64 ((k : Int) - 1) ∧ Hid (Re w wr s (A ^ (B / 2 ^ k) % M)) ∧ Hid (Re w wr (.slice ea nl ec) B) ∧ Hid (Re w wr a' (A % M))) (fun _ t _ => (intOf t + 1).toNat)
    case atStart => exact ⟨32 * nl, Nat.le_refl _, by go_num, NP6, NE5, NA5⟩
    case round =>
      clear NP6 NE5 NA5
      obtain ⟨k, hk, rfl, HP, HE, HA⟩ := hrel
      rcases k with _ | k
      · have e0 : ((0 : Nat) : Int) - 1 = -1 := rfl
        rw [e0]
        have HP8 : Hid (Re w wr u9 (A ^ B % M)) := by
          have h := HP.out
          rw [Nat.pow_zero, Nat.div_one] at h
          exact h
        clear HP HE HA
        go_wp2
        go_ret2
        exact .inr ⟨rfl, _, rfl, HP8.out⟩
      · have e0 : ((k + 1 : Nat) : Int) - 1 = (k : Int) := by omega
        rw [e0]
        clear e0
        have Hst := exp_step A M B k
        have HS : Hid ((if B / 2 ^ k % 2 = 1 then (A ^ (B / 2 ^ (k + 1)) % M * (A ^ (B / 2 ^ (k + 1)) % M) % M) * (A % M) % M else A ^ (B / 2 ^ (k + 1)) % M * (A ^ (B / 2 ^ (k + 1)) % M) % M) = A ^ (B / 2 ^ k) % M) := Hst
        clear Hst
        have C := dtimes u9 u9 _ _ _ _ wr HP.out.nu HP.out.nu (by decide) (by decide)
        clear HP
        go_wp2_with fail
        refine C.mono ?_
        clear C
        rintro e w6 ⟨s, rfl, hn⟩
        have HE6 : Hid (Re w w6 (.slice ea nl ec) B) := HE.out.keep hn.2.2
        have HA6 : Hid (Re w w6 a' (A % M)) := HA.out.keep hn.2.2
        have C := drest s m _ M w6 (hn.nd.le (by decide)) (HM.out.below HE6.out.bel (Nat.le_refl _)) (by omega)
        clear hn HE HA
        go_wp2_with fail
        refine C.mono ?_
        clear C
        rintro e w7 ⟨p, rfl, hn⟩
        have HE7 : Hid (Re w w7 (.slice ea nl ec) B) := HE6.out.keep hn.bel
        have HA7 : Hid (Re w w7 a' (A % M)) := HA6.out.keep hn.bel
        have HP7 : Hid (Re w w7 p (A ^ (B / 2 ^ (k + 1)) % M * (A ^ (B / 2 ^ (k + 1)) % M) % M)) := Re.later HE6.out.bel hn
        clear hn HE6 HA6
        obtain ⟨ea', ec', hes, hec, hre, hse⟩ := HE7.out.1.nm (dg_sm Bs_two _)
        rw [Hnl.out] at hes
        cases hes
        have C := rbit_any k ea ec (dg Bs B) w7 hre (dg_sm Bs_two _) (by omega)
        rw [Hnl.out, dg_nv Bs_two] at C
        clear hec hre hse
        by_cases hbit : B / 2 ^ k % 2 = 1
        · rw [decide_eq_true hbit] at C
          have HS2 : Hid ((A ^ (B / 2 ^ (k + 1)) % M * (A ^ (B / 2 ^ (k + 1)) % M) % M) * (A % M) % M = A ^ (B / 2 ^ k) % M) := by
            have h := HS.out
            rw [if_pos hbit] at h
            exact h
          clear hbit HS
          go_wp2_with fail
          refine C.mono ?_
          clear C
          rintro e w8 ⟨rfl, rfl⟩
          have C := dtimes p a' _ _ _ _ w8 HP7.out.nu HA7.out.nu (by decide) (by decide)
          clear HP7
          go_wp2_with fail
          refine C.mono ?_
          clear C
          rintro e w9 ⟨s2, rfl, hn⟩
          have HE9 : Hid (Re w w9 (.slice ea nl ec) B) := HE7.out.keep hn.2.2
          have HA9 : Hid (Re w w9 a' (A % M)) := HA7.out.keep hn.2.2
          have C := drest s2 m _ M w9 (hn.nd.le (by decide)) (HM.out.below HE9.out.bel (Nat.le_refl _)) (by omega)
          rw [HS2.out] at C
          clear hn HE7 HA7
          go_wp2_with fail
          refine C.mono ?_
          clear C
          rintro e w10 ⟨p2, rfl, hn⟩
          have HE10 : Hid (Re w w10 (.slice ea nl ec) B) := HE9.out.keep hn.bel
          have HA10 : Hid (Re w w10 a' (A % M)) := HA9.out.keep hn.bel
          have HP10 : Hid (Re w w10 p2 (A ^ (B / 2 ^ k) % M)) := Re.later HE9.out.bel hn
          clear hn HE9 HA9
          go_wp2
          go_roundw
          case rel => exact ⟨k, by omega, by first | rfl | go_num, HP10, HE10, HA10⟩
          case measure => simp [intOf]
        · rw [decide_eq_false hbit] at C
          have HP8 : Hid (Re w w7 p (A ^ (B / 2 ^ k) % M)) := by
            have h := HS.out
            rw [if_neg hbit] at h
            rw [← h]
            exact HP7.out
          clear hbit HS HP7
          go_wp2_with fail
          refine C.mono ?_
          clear C
          rintro e w8 ⟨rfl, rfl⟩
          go_wp2
          go_roundw
          case rel => exact ⟨k, by omega, by first | rfl | go_num, HP8, HE7, HA7⟩
          case measure => simp [intOf]
  · generalize rcode M (Lg A || Lg B) = c at C h0
    have hc : ((c : Int) != 0) = true := by simp; omega
    have Hc : Hid (c ≠ 0) := h0
    clear ha hb hm h0
    go_enter Try.func12, Try.ntmps12
    go_wp2_with fail
    refine C.mono ?_
    clear C
    rintro e w1 ⟨rfl, hbel⟩
    have HB1 : Hid (Below w.heap.size w w1) := hbel
    clear hbel
    go_wp2
    go_ret2
    exact .inl ⟨Hc.out, rfl, HB1.out⟩

end Go.Proofs.Ytecapoknnnoheaa
