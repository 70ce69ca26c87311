import Derived.Test.YtecapoknnnoheaaMd9
namespace Go.Proofs.Ytecapoknnnoheaa
open Go.RowKit

theorem dg_small {v : Nat} (h0 : v ≠ 0) (h : v < 4294967296) : dg Bs v = [v] := by
  rw [dg_pos Bs_two h0, Bs_eq, Nat.mod_eq_of_lt h, Nat.div_eq_of_lt h, dg_zero]
/-- A literal of one limb. -/
theorem lit_nm (w : World) (x : Nat) (h : x < 4294967296) : Nm (w.alloc (.cells #[.int .u32 (x : Int)] 29)) (.slice (some ⟨w.heap.size, 0, none⟩) 1 1) [x] :=
  ⟨_, 1, rfl, Nat.le_refl _, (alloc_bl w ([x].map U) 29).rn, fun y hy => by rw [List.mem_singleton.1 hy]; exact h⟩
theorem lit_nu (w : World) (x : Nat) (h : x < 4294967296) : Nu (w.alloc (.cells #[.int .u32 (x : Int)] 29)) (.slice (some ⟨w.heap.size, 0, none⟩) 1 1) x :=
  ⟨[x], lit_nm w x h, by simp [nv], by simp⟩

set_option maxHeartbeats 400000 in
theorem limbs_any (ao : Option Addr) (n c : Nat) (xs : List Nat) (w : World) (hx : Rn w ao xs) (hn : n = xs.length) (_hc : n ≤ c) (hl : n ≤ 1000000000) :
    Calls Try.prog 24 #[.slice ao n c] w fun e w' => e = .returned (.int .i64 ((tl xs : Nat) : Int)) ∧ w' = w := by
  have Hx : Hid (Rn w ao xs) := hx
  have Hn : Hid (n = xs.length) := hn
  clear hx hn
  go_enter Try.func24, Try.ntmps24
  go_wp2
  go_loop [3] (fun s => ∃ k : Nat, s = .int .i64 (k : Int) ∧ k ≤ n ∧ Hid (∀ j, k ≤ j → xs.getD j 0 = 0)) (fun s => (intOf s).toNat)
  case atStart => exact ⟨n, rfl, Nat.le_refl _, fun j hj => getD_none _ _ (by have := Hn.out; omega)⟩
  case round =>
    obtain ⟨k, rfl, hk, Hz⟩ := hrel
    rcases k with _ | k
    · have Ht : Hid (tl xs = 0) := tl_of xs 0 (Nat.zero_le _) Hz.out (.inl rfl)
      go_wp2
      go_ret
      rw [Ht.out]
      exact ⟨rfl, rfl⟩
    · obtain ⟨g, off, rfl, _, hcell⟩ := Hx.out.cell (by have := Hn.out; omega)
      have gc := hcell k (by have := Hn.out; omega)
      obtain ⟨x, Hxk⟩ : ∃ x, Hid (xs.getD k 0 = x) := ⟨_, rfl⟩
      rw [Hxk.out] at gc
      clear hcell
      have e1 : ((k + 1 : Nat) : Int) - 1 = (k : Int) := by omega
      by_cases h0 : x = 0
      · subst h0
        have Hz1 : Hid (∀ j, k ≤ j → xs.getD j 0 = 0) := fun j hj => by
          rcases Nat.lt_or_ge k j with h | h
          · exact Hz.out j h
          · obtain rfl : j = k := by omega
            exact Hxk.out
        go_wp2
        go_round
        case rel => exact ⟨k, rfl, by omega, Hz1⟩
        case measure => simp [intOf]; try omega
      · have hb : ((x : Int) == 0) = false := by simp; omega
        have Ht : Hid (tl xs = k + 1) := tl_of xs (k + 1) (by have := Hn.out; omega) Hz.out (.inr (by rw [Nat.add_sub_cancel, Hxk.out]; exact h0))
        clear h0
        go_wp2
        go_ret
        rw [Ht.out]
        exact ⟨rfl, rfl⟩
theorem limbs_v (v : Value) (V k : Nat) (w : World) (hv : Vl w v V k) (hk : k ≤ 1000000000) : Calls Try.prog 24 #[v] w fun e w' => e = .returned (.int .i64 (((dg Bs V).length : Nat) : Int)) ∧ w' = w := by
  obtain ⟨xs, ⟨ao, c, rfl, hc, hr, hs⟩, rfl, k1⟩ := hv
  have h := limbs_any ao _ c xs w hr rfl hc (by omega)
  rw [dg_length Bs_two hs]
  exact h

set_option maxHeartbeats 2000000 in
theorem refuses_v (a b m : Value) (A B M : Nat) (w : World) (ha : Nu w a A) (hb : Nu w b B) (hm : Nu w m M) :
    Calls Try.prog 20 #[a, b, m] w fun e w' => e = .returned (.int .i64 ((rcode M (Lg A || Lg B) : Nat) : Int)) ∧ w' = w := by
  have C1 := limbs_v a A _ w ha (by decide)
  have C2 := limbs_v b B _ w hb (by decide)
  have C3 := limbs_v m M _ w hm (by decide)
  have e1 : decide ((((dg Bs A).length : Nat) : Int) > 128) = Lg A := by unfold Lg; congr 1; simp; omega
  have e2 : decide ((((dg Bs B).length : Nat) : Int) > 128) = Lg B := by unfold Lg; congr 1; simp; omega
  have e3 : decide ((((dg Bs M).length : Nat) : Int) > 128) = Lg M := by unfold Lg; congr 1; simp; omega
  generalize (dg Bs A).length = na at C1 e1
  generalize (dg Bs B).length = nb at C2 e2
  have Hm0 : Hid ((((dg Bs M).length : Nat) : Int) = 0 → M = 0) := fun h => by
    have h1 : (dg Bs M).length = 0 := by omega
    have h2 := dg_up Bs_two M
    rw [h1, Nat.pow_zero] at h2
    omega
  obtain ⟨xs, ⟨mo, mc, rfl, hmc, hmr, hms⟩, hmv, _⟩ := hm
  have Hm1 : Hid ((dg Bs M).length = 1 → ∃ g off, mo = some ⟨g, off, none⟩ ∧ 0 < xs.length ∧ w.cell? ⟨g, off, none⟩ = some (.int .u32 (M : Int))) := fun h => by
    have h1 : 0 < xs.length := by
      rcases Nat.eq_zero_or_pos xs.length with h2 | h2
      · rw [List.eq_nil_of_length_eq_zero h2] at hmv
        rw [← hmv, show nv Bs [] = 0 from rfl, dg_zero] at h
        cases h
      · exact h2
    obtain ⟨g, off, e, _, hc⟩ := hmr.cell h1
    refine ⟨g, off, e, h1, ?_⟩
    have h2 := hc 0 h1
    rw [nv_getD Bs_pos hms 0, hmv, Nat.pow_zero, Nat.div_one, Nat.mod_eq_of_lt] at h2
    · exact h2
    · have := dg_up Bs_two M
      rwa [h, Nat.pow_one] at this
  have Hz : Hid (M = 0 → (dg Bs M).length = 0) := fun h => by rw [h, dg_zero]; rfl
  have H2 : Hid (M = 1 → (dg Bs M).length = 1) := fun h => by rw [h, dg_small (by decide) (by decide)]; rfl
  clear ha hb hmr hms hmv
  unfold rcode
  generalize (dg Bs M).length = nm at *
  generalize Lg A = la at *
  generalize Lg B = lb at *
  generalize Lg M = lm at *
  cases la
  · cases lb
    · cases lm
      · rcases (by omega : nm = 0 ∨ nm = 1 ∨ 2 ≤ nm) with h | h | h
        · have hM : M < 2 := by have := Hm0.out (by omega); omega
          rw [show (if (false || (false || false)) = true then 10 else if M < 2 then 60 else 0) = 60 by simp [hM]]
          subst h
          clear hM Hm0 Hm1 Hz H2
          go_enter Try.func20, Try.ntmps20
          go_wp2_with fail
          refine C1.mono ?_
          rintro e w1 ⟨rfl, rfl⟩
          go_wp2_with fail
          refine C2.mono ?_
          rintro e w2 ⟨rfl, rfl⟩
          go_wp2_with fail
          refine C3.mono ?_
          rintro e w3 ⟨rfl, rfl⟩
          go_wp2_with fail
          refine C3.mono ?_
          rintro e w4 ⟨rfl, rfl⟩
          clear C1 C2 C3
          go_wp2
          go_ret
          exact ⟨rfl, rfl⟩
        · have hM0 : M ≠ 0 := fun h0 => by have := Hz.out h0; omega
          obtain ⟨g, off, rfl, hl1, gc⟩ := Hm1.out h
          have hlI : (0 : Int) < (xs.length : Int) := by omega
          subst h
          by_cases hM1 : M = 1
          · subst hM1
            rw [show (if (false || (false || false)) = true then 10 else if 1 < 2 then 60 else 0) = 60 from rfl]
            rw [show ((1 : Nat) : Int) = 1 from rfl] at gc
            clear Hm0 Hm1 Hz H2 hM0
            go_enter Try.func20, Try.ntmps20
            go_wp2_with fail
            refine C1.mono ?_
            rintro e w1 ⟨rfl, rfl⟩
            go_wp2_with fail
            refine C2.mono ?_
            rintro e w2 ⟨rfl, rfl⟩
            go_wp2_with fail
            refine C3.mono ?_
            rintro e w3 ⟨rfl, rfl⟩
            go_wp2_with fail
            refine C3.mono ?_
            rintro e w4 ⟨rfl, rfl⟩
            go_wp2_with fail
            refine C3.mono ?_
            rintro e w5 ⟨rfl, rfl⟩
            clear C1 C2 C3
            go_wp2
            go_ret
            exact ⟨rfl, rfl⟩
          · have hb : ((M : Int) == 1) = false := by simp; omega
            rw [show (if (false || (false || false)) = true then 10 else if M < 2 then 60 else 0) = 0 by simp; omega]
            clear Hm0 Hm1 Hz H2 hM0 hM1
            go_enter Try.func20, Try.ntmps20
            go_wp2_with fail
            refine C1.mono ?_
            rintro e w1 ⟨rfl, rfl⟩
            go_wp2_with fail
            refine C2.mono ?_
            rintro e w2 ⟨rfl, rfl⟩
            go_wp2_with fail
            refine C3.mono ?_
            rintro e w3 ⟨rfl, rfl⟩
            go_wp2_with fail
            refine C3.mono ?_
            rintro e w4 ⟨rfl, rfl⟩
            go_wp2_with fail
            refine C3.mono ?_
            rintro e w5 ⟨rfl, rfl⟩
            clear C1 C2 C3
            go_wp2
            go_ret
            exact ⟨rfl, rfl⟩
        · have hM : 2 ≤ M := by
            have h0 : M ≠ 0 := fun h0 => by have := Hz.out h0; omega
            have h1 : M ≠ 1 := fun h0 => by have := H2.out h0; omega
            omega
          have hb0 : ((nm : Int) == 0) = false := by simp; omega
          have hb1 : ((nm : Int) == 1) = false := by simp; omega
          rw [show (if (false || (false || false)) = true then 10 else if M < 2 then 60 else 0) = 0 by simp; omega]
          clear Hm0 Hm1 Hz H2 hM h
          go_enter Try.func20, Try.ntmps20
          go_wp2_with fail
          refine C1.mono ?_
          rintro e w1 ⟨rfl, rfl⟩
          go_wp2_with fail
          refine C2.mono ?_
          rintro e w2 ⟨rfl, rfl⟩
          go_wp2_with fail
          refine C3.mono ?_
          rintro e w3 ⟨rfl, rfl⟩
          go_wp2_with fail
          refine C3.mono ?_
          rintro e w4 ⟨rfl, rfl⟩
          go_wp2_with fail
          refine C3.mono ?_
          rintro e w5 ⟨rfl, rfl⟩
          clear C1 C2 C3
          go_wp2
          go_ret
          exact ⟨rfl, rfl⟩
      · rw [show (if (true || (false || false)) = true then 10 else if M < 2 then 60 else 0) = 10 from rfl]
        clear Hm0 Hm1 Hz H2
        go_enter Try.func20, Try.ntmps20
        go_wp2_with fail
        refine C1.mono ?_
        rintro e w1 ⟨rfl, rfl⟩
        go_wp2_with fail
        refine C2.mono ?_
        rintro e w2 ⟨rfl, rfl⟩
        go_wp2_with fail
        refine C3.mono ?_
        rintro e w3 ⟨rfl, rfl⟩
        clear C1 C2 C3
        go_wp2
        go_ret
        exact ⟨rfl, rfl⟩
    · rw [show (if (lm || (false || true)) = true then 10 else if M < 2 then 60 else 0) = 10 by simp]
      clear Hm0 Hm1 Hz H2
      go_enter Try.func20, Try.ntmps20
      go_wp2_with fail
      refine C1.mono ?_
      rintro e w1 ⟨rfl, rfl⟩
      go_wp2_with fail
      refine C2.mono ?_
      rintro e w2 ⟨rfl, rfl⟩
      clear C1 C2 C3
      go_wp2
      go_ret
      exact ⟨rfl, rfl⟩
  · rw [show (if (lm || (true || lb)) = true then 10 else if M < 2 then 60 else 0) = 10 by simp]
    clear Hm0 Hm1 Hz H2
    go_enter Try.func20, Try.ntmps20
    go_wp2_with fail
    refine C1.mono ?_
    rintro e w1 ⟨rfl, rfl⟩
    clear C1 C2 C3
    go_wp2
    go_ret
    exact ⟨rfl, rfl⟩

/-- A number of the call's own. -/
def Om (w : World) (v : Value) (V : Nat) : Prop := Ow w 0 v (dg Bs V) ∧ (dg Bs V).length ≤ 3000000
theorem Om.nu {w : World} {v : Value} {V : Nat} (h : Om w v V) : Nu w v V := h.1.vl h.2
theorem Om.nm {w : World} {v : Value} {V : Nat} (h : Om w v V) : Nm w v (dg Bs V) := h.1.nm (dg_sm Bs_two V)
theorem Om.below {w w' : World} {v : Value} {V n : Nat} (h : Om w v V) (hb : Below n w w') (hn : w.heap.size ≤ n) : Om w' v V := ⟨h.1.below hb hn, h.2⟩
theorem Om.drewN {w : World} {v : Value} {V : Nat} (h : Om w v V) (q : Nat) : Om (w.drewN q) v V := h
theorem Re.om {w w' : World} {v : Value} {V : Nat} (h : Re w w' v V) : Om w' v V := ⟨h.1.base (Nat.zero_le _), h.2.1⟩

set_option maxHeartbeats 2000000 in
theorem is_v (r a m : Value) (R A M : Nat) (w : World) (hr : Om w r R) (ha : Vl w a A 10000000) (hm : Nu w m M) (h0 : M ≠ 0) (hR : R = A % M) :
    Calls Try.prog 21 #[r, a, m] w fun e w' => e = .returned (.bool true) ∧ Below w.heap.size w w' := by
  have C := vdiv a m _ _ _ _ w ha hm (by decide) (by decide) h0
  rw [← hR] at C
  have Hlt : Hid (R < M) := by rw [hR]; exact Nat.mod_lt _ (Nat.pos_of_ne_zero h0)
  have HR : Hid (Om w r R) := hr
  have HM : Hid (Nu w m M) := hm
  clear ha hm hr hR h0
  go_enter Try.func21, Try.ntmps21
  go_wp2_with fail
  refine C.mono ?_
  clear C
  rintro e w1 ⟨q, x, rfl, _, hx⟩
  have HB1 : Hid (Below w.heap.size w w1) := hx.2.2
  have HX : Hid (Om w1 x R) := Re.om hx
  have HR1 : Hid (Om w1 r R) := HR.out.below HB1.out (Nat.le_refl _)
  clear hx
  have C := lsame_eq r x R w1 HR1.out.nm HX.out.nm (Nat.le_trans HR1.out.2 (by decide))
  go_wp2_with fail
  refine C.mono ?_
  clear C
  rintro e w2 ⟨rfl, q2, hq⟩
  have HB2 : Hid (Below w.heap.size w w2) := by rw [hq]; exact below_drewN HB1.out q2
  have HR2 : Hid (Om w2 r R) := HR.out.below HB2.out (Nat.le_refl _)
  have C := vcmp r m _ _ _ _ w2 HR2.out.nu (HM.out.below HB2.out (Nat.le_refl _)) (by decide) (by decide)
  rw [cmp3_lt (by have := Hlt.out; omega)] at C
  clear hq
  go_wp2_with fail
  refine C.mono ?_
  clear C
  rintro e w3 ⟨rfl, q3, hq⟩
  have HB3 : Hid (Below w.heap.size w w3) := by rw [hq]; exact below_drewN HB2.out q3
  have HR3 : Hid (Om w3 r R) := HR.out.below HB3.out (Nat.le_refl _)
  clear hq
  have C := limbs_v r R _ w3 HR3.out.nu (by decide)
  obtain ⟨ra, rc, rfl, _⟩ := HR3.out.nm
  have hl3 := HR3.out.2
  generalize (dg Bs R).length = n at C hl3
  go_wp2_with fail
  refine C.mono ?_
  clear C
  rintro e w4 ⟨rfl, rfl⟩
  go_wp2
  go_ret
  exact ⟨rfl, HB3.out⟩

set_option maxHeartbeats 2000000 in
theorem divisor_v (a b : Value) (A B : Nat) (w : World) (ha : Nu w a A) (hb : Nu w b B) :
    Calls Try.prog 27 #[a, b] w fun e w' => ∃ r, e = .returned r ∧ Nu w' r (Nat.gcd A B) ∧ Below w.heap.size w w' := by
  have HA : Hid (Nu w a A) := ha
  have HB : Hid (Nu w b B) := hb
  clear ha hb
  go_enter Try.func27, Try.ntmps27
  go_wp2
  go_loopg [0, 1] B (fun k s t wr => ∃ A' B' : Nat, Hid (Nu wr s A') ∧ Hid (Nu wr t B') ∧ Hid (Below w.heap.size w wr) ∧ Hid (Nat.gcd A' B' = Nat.gcd A B) ∧ Hid (B' ≤ k))
  case atStart => exact ⟨A, B, HA, HB, Below.refl _ _, rfl, Nat.le_refl _⟩
  case round =>
    clear HA HB
    obtain ⟨A', B', HA, HB, HW, HG, HK⟩ := hrel
    have C := limbs_v _ B' _ wr HB.out (by decide)
    by_cases h0 : B' = 0
    · have HA2 : Hid (Nu wr u0 (Nat.gcd A B)) := by
        rw [← HG.out, h0, Nat.gcd_zero_right]
        exact HA.out
      subst h0
      rw [dg_zero, List.length_nil] at C
      go_wp2_with fail
      refine C.mono ?_
      clear C
      rintro e w1 ⟨rfl, rfl⟩
      go_wp2
      go_ret
      exact ⟨_, rfl, HA2.out, HW.out⟩
    · have hn : 0 < (dg Bs B').length := by
        rw [dg_pos Bs_two h0]
        simp
      generalize (dg Bs B').length = n at C hn
      have hnI : ((0 : Int) < (n : Int)) := by omega
      have H0 : Hid (B' ≠ 0) := h0
      clear h0
      go_wp2_with fail
      refine C.mono ?_
      clear C
      rintro e w1 ⟨rfl, rfl⟩
      have C := vdiv u0 u1 _ _ _ _ w1 HA.out HB.out (by decide) (by decide) H0.out
      go_wp2_with fail
      refine C.mono ?_
      clear C
      rintro e w2 ⟨q, r, rfl, _, hr⟩
      have HB2 : Hid (Below w1.heap.size w1 w2) := hr.2.2
      have HR : Hid (Nu w2 r (A' % B')) := hr.vl
      clear hr
      have C := vcmp r u1 _ _ _ _ w2 HR.out (HB.out.below HB2.out (Nat.le_refl _)) (by decide) (by decide)
      rw [cmp3_lt (by have := Nat.mod_lt A' (Nat.pos_of_ne_zero H0.out); omega)] at C
      go_wp2_with fail
      refine C.mono ?_
      clear C
      rintro e w3 ⟨rfl, q3, hq⟩
      have HB3 : Hid (Below w1.heap.size w1 w3) := by rw [hq]; exact below_drewN HB2.out q3
      have HR3 : Hid (Nu w3 r (A' % B')) := by rw [hq]; exact HR.out.drewN q3
      have HU3 : Hid (Nu w3 u1 B') := HB.out.below HB3.out (Nat.le_refl _)
      have HW3 : Hid (Below w.heap.size w w3) := HW.out.trans (HB3.out.mono HW.out.size)
      have HG3 : Hid (Nat.gcd B' (A' % B') = Nat.gcd A B) := by
        show _ = _
        rw [← HG.out, Nat.gcd_comm B', ← Nat.gcd_rec B' A', Nat.gcd_comm]
      have HK3 : Hid (A' % B' < gk) := Nat.lt_of_lt_of_le (Nat.mod_lt A' (Nat.pos_of_ne_zero H0.out)) HK.out
      clear hq HB2 HB3 HR HA HB HW HG HK
      go_wp2
      go_roundg (A' % B')
      case measure => exact HK3.out
      case rel => exact ⟨_, _, HU3, HR3, HW3, HG3, Nat.le_refl _⟩

end Go.Proofs.Ytecapoknnnoheaa
