import Derived.Test.YthnogdkkdekgpaaGreatDoorRsOdd
import Derived.Test.YthnogdkkdekgpaaGreatDoorNtZ7
import Derived.Test.YthnogdkkdekgpaaGreatDoorNtZ6
import Derived.Test.YthnogdkkdekgpaaGreatDoorNtY1
namespace Go.Proofs.YthnogdkkdekgpaaGreatDoor
open Go.RowKit

theorem two_bl (v : Nat) : 2 ≤ bl v ↔ 2 ≤ v := by
  constructor
  · intro h
    have h0 : v ≠ 0 := fun e => by rw [e, bl_zero] at h; omega
    have h1 := bl_le v h0
    have h2 : 2 ^ 1 ≤ 2 ^ (bl v - 1) := Nat.pow_le_pow_right (by decide) (by omega)
    omega
  · intro h
    rcases Nat.lt_or_ge (bl v) 2 with h1 | h1
    · have h2 := bl_lt v
      have h3 : 2 ^ bl v ≤ 2 ^ 1 := Nat.pow_le_pow_right (by decide) (by omega)
      omega
    · exact h1
/-- The document's way to ask it. -/
theorem keyC_doc (n e : List UInt8) (h1 : 0 < n.length) (h2 : 0 < e.length) (h3 : n.getD 0 0 ≠ 0) (h4 : e.getD 0 0 ≠ 0) :
    keyC n e = if bl (bv n) < 2048 ∨ 4096 < bl (bv n) ∨ ¬ bv n % 2 = 1 ∨ ¬ bv e % 2 = 1 ∨ bv e < 3 ∨ 32 < bl (bv e) then 90 else 0 := by
  unfold keyC keyV oddV
  have h5 := two_bl (bv e)
  by_cases h : bl (bv n) < 2048 ∨ 4096 < bl (bv n) ∨ ¬ bv n % 2 = 1 ∨ ¬ bv e % 2 = 1 ∨ bv e < 3 ∨ 32 < bl (bv e)
  · rw [if_pos h, if_neg]
    rw [Bool.and_eq_true, decide_eq_true_eq, decide_eq_true_eq]
    rintro ⟨⟨_, _, a1, a2, a3⟩, _, _, b1, b2, b3⟩
    have : 2 ≤ bv e := h5.1 (by omega)
    omega
  · rw [if_neg h, if_pos]
    rw [Bool.and_eq_true, decide_eq_true_eq, decide_eq_true_eq]
    have : 2 ≤ bl (bv e) := h5.2 (by omega)
    refine ⟨⟨h1, h3, by omega, by omega, by omega⟩, h2, h4, by omega, by omega, by omega⟩
theorem keyC_none (n e : List UInt8) (h : n.length = 0 ∨ e.length = 0 ∨ n.getD 0 0 = 0 ∨ e.getD 0 0 = 0) : keyC n e = 90 := by
  have hz : ∀ l : List UInt8, ∀ lo hi, l.length = 0 → oddV l lo hi = false := fun l lo hi h => by rw [List.eq_nil_of_length_eq_zero h]; rfl
  unfold keyC keyV
  rw [if_neg]
  rw [Bool.and_eq_true]
  rintro ⟨a, b⟩
  rcases h with h | h | h | h
  · rw [hz n _ _ h] at a; cases a
  · rw [hz e _ _ h] at b; cases b
  · rw [oddV_zero n _ _ h] at a; cases a
  · rw [oddV_zero e _ _ h] at b; cases b
theorem dg_bvl (l : List UInt8) (k : Nat) (h : l.length ≤ k) : (dg Bs (bv l)).length ≤ k := by
  refine dg_len Bs_two _ _ (Nat.lt_of_lt_of_le (kbv_lt l) ?_)
  exact Nat.le_trans (Nat.pow_le_pow_right (by decide) h) (Nat.pow_le_pow_left (by decide) _)
theorem rbit0 (v : Value) (xs : List Nat) (w : World) (hv : Nm w v xs) (hl : xs.length ≤ 100000000) :
    Calls Tryz.prog 51 #[v, .int .i64 0] w fun e w' => e = .returned (.bool (decide (nv Bs xs % 2 = 1))) ∧ w' = w := by
  obtain ⟨ax, cx, rfl, hcx, hx, sx⟩ := hv
  have := rbit_any ax cx 0 xs w hx sx hl (by omega)
  rw [Nat.pow_zero, Nat.div_one] at this
  exact this
theorem nm_three (w : World) : Nm (w.alloc (.cells #[.int .u32 3] 46)) (.slice (some ⟨w.heap.size, 0, none⟩) 1 1) [3] := by
  refine ⟨_, 1, rfl, Nat.le_refl _, (alloc_bl w (([3] : List Nat).map U) 46).rn, ?_⟩
  intro x hx
  simp at hx
  subst hx
  decide

set_option maxHeartbeats 2000000 in
theorem rkey_any (a1 a2 : Option Addr) (c1 c2 : Nat) (n e : List UInt8) (w : World) (h1 : Rd w a1 n) (h2 : Rd w a2 e) (l1 : n.length ≤ 100000000) (l2 : e.length ≤ 100000000) :
    Calls Tryz.prog 20 #[.slice a1 n.length c1, .slice a2 e.length c2] w fun x w' => x = .returned (.int .i64 (keyC n e)) ∧ Below w.heap.size w w' := by
  by_cases hn : n.length = 0
  · have HK : Hid (keyC n e = 90) := keyC_none n e (.inl hn)
    have d1 : ((n.length : Int) == 0) = true := by rw [hn]; rfl
    clear h1 h2 hn
    go_enter Tryz.func20, Tryz.ntmps20
    go_wp2
    go_ret
    rw [HK.out]
    exact ⟨rfl, Below.refl _ _⟩
  by_cases he : e.length = 0
  · have HK : Hid (keyC n e = 90) := keyC_none n e (.inr (.inl he))
    have d1 : ((n.length : Int) == 0) = false := beq_eq_false_iff_ne.2 (by omega)
    have d2 : ((e.length : Int) == 0) = true := by rw [he]; rfl
    clear h1 h2 hn he
    go_enter Tryz.func20, Tryz.ntmps20
    go_wp2
    go_ret
    rw [HK.out]
    exact ⟨rfl, Below.refl _ _⟩
  have d1 : ((n.length : Int) == 0) = false := beq_eq_false_iff_ne.2 (by omega)
  have d2 : ((e.length : Int) == 0) = false := beq_eq_false_iff_ne.2 (by omega)
  obtain ⟨g1, o1, e1, _, hc1⟩ := h1.resolve_left (fun e => hn (by rw [e]; rfl))
  obtain ⟨g2, o2, e2, _, hc2⟩ := h2.resolve_left (fun e => he (by rw [e]; rfl))
  have k1 := hc1 0 (by omega)
  have k2 := hc2 0 (by omega)
  rw [Nat.add_zero] at k1 k2
  unfold B at k1 k2
  have hp1 : 0 < n.length := by omega
  have hp2 : 0 < e.length := by omega
  clear hc1 hc2
  by_cases z1 : n.getD 0 0 = 0
  · have HK : Hid (keyC n e = 90) := keyC_none n e (.inr (.inr (.inl z1)))
    rw [z1] at k1
    subst e1
    clear h1 h2 hn he z1 k2 e2
    go_enter Tryz.func20, Tryz.ntmps20
    go_wp2
    go_ret
    rw [HK.out]
    exact ⟨rfl, Below.refl _ _⟩
  have nz : ∀ c : UInt8, c ≠ 0 → ((c.toNat : Int) == 0) = false := fun c hc => by
    rw [beq_eq_false_iff_ne]
    intro h
    exact hc (UInt8.toNat_inj.1 (by have : c.toNat = 0 := by omega
                                    rw [this]; rfl))
  have f1 := nz _ z1
  by_cases z2 : e.getD 0 0 = 0
  · have HK : Hid (keyC n e = 90) := keyC_none n e (.inr (.inr (.inr z2)))
    rw [z2] at k2
    generalize (n.getD 0 0).toNat = x0 at *
    subst e1
    subst e2
    clear h1 h2 hn he z1 z2 nz
    go_enter Tryz.func20, Tryz.ntmps20
    go_wp2
    go_ret
    rw [HK.out]
    exact ⟨rfl, Below.refl _ _⟩
  have f2 := nz _ z2
  have HK : Hid (keyC n e = if bl (bv n) < 2048 ∨ 4096 < bl (bv n) ∨ ¬ bv n % 2 = 1 ∨ ¬ bv e % 2 = 1 ∨ bv e < 3 ∨ 32 < bl (bv e) then 90 else 0) := keyC_doc n e hp1 hp2 z1 z2
  have CN := rfromBytes_any a1 c1 n w h1 l1
  have HE : Hid (Rd w a2 e) := h2
  have LN : Hid ((dg Bs (bv n)).length ≤ 100000000) := dg_bvl n _ l1
  have LE : Hid ((dg Bs (bv e)).length ≤ 100000000) := dg_bvl e _ l2
  generalize (n.getD 0 0).toNat = x0 at *
  generalize (e.getD 0 0).toNat = y0 at *
  subst e1
  subst e2
  clear h1 h2 hn he nz z1 z2
  go_enter Tryz.func20, Tryz.ntmps20
  go_wp2_with fail
  refine CN.mono ?_
  rintro x w1 ⟨rn, rfl, ho1, hb1⟩
  clear CN
  have HN1 : Hid (Nm w1 rn (dg Bs (bv n))) := ho1.nm (dg_sm Bs_two _)
  have HB1 : Hid (Below w.heap.size w w1) := hb1
  have CE := rfromBytes_any (some ⟨g2, o2, none⟩) c2 e w1 (HE.out.below hb1 (Nat.le_refl _)) l2
  clear ho1 hb1 k1 k2 f1 f2
  go_wp2_with fail
  refine CE.mono ?_
  rintro x w2 ⟨re, rfl, ho2, hb2⟩
  clear CE
  have HN2 : Hid (Nm w2 rn (dg Bs (bv n))) := HN1.out.below hb2 (Nat.le_refl _)
  have HE2 : Hid (Nm w2 re (dg Bs (bv e))) := ho2.nm (dg_sm Bs_two _)
  have HB2 : Hid (Below w.heap.size w w2) := HB1.out.trans (hb2.mono HB1.out.size)
  have CB := rbits_nm rn _ w2 HN2.out LN.out
  rw [dg_nv Bs_two] at CB
  clear ho2 hb2 HN1 HB1
  go_wp2_with fail
  refine CB.mono ?_
  rintro x w3 ⟨rfl, hb3⟩
  clear CB
  have HN3 : Hid (Nm w3 rn (dg Bs (bv n))) := HN2.out.below hb3 (Nat.le_refl _)
  have HE3 : Hid (Nm w3 re (dg Bs (bv e))) := HE2.out.below hb3 (Nat.le_refl _)
  have HB3 : Hid (Below w.heap.size w w3) := HB2.out.trans (hb3.mono HB2.out.size)
  have C1 := rbit0 rn _ w3 HN3.out LN.out
  have C2 := rbit0 re _ w3 HE3.out LE.out
  have HE4 : Hid (Nm (w3.alloc (.cells #[.int .u32 3] 46)) re (dg Bs (bv e))) := HE3.out.below (alloc_below w3 _) (Nat.le_refl _)
  have HB4 : Hid (Below w.heap.size w (w3.alloc (.cells #[.int .u32 3] 46))) := HB3.out.trans ((alloc_below w3 _).mono HB3.out.size)
  have C3 := rcmp_nm re _ _ _ _ HE4.out (nm_three w3) (by have := LE.out; omega) (by simp)
  have C4 := rbits_nm re _ _ HE4.out LE.out
  rw [dg_nv Bs_two] at C1 C2 C3 C4
  rw [show nv Bs [3] = 3 by decide] at C3
  clear hb3 HN2 HE2 HB2 HN3 HE3 HB3 LN LE HE4
  go_wp2_with fail
  refine C1.mono ?_
  rintro x w' ⟨rfl, rfl⟩
  clear C1
  go_wp2_with fail
  refine C2.mono ?_
  rintro x w' ⟨rfl, rfl⟩
  clear C2
  go_wp2_with fail
  refine C3.mono ?_
  rintro x w' ⟨rfl, rfl⟩
  clear C3
  have hlow : decide (cmp3 ((bv e : Nat) : Int) ((3 : Nat) : Int) < 0) = decide (bv e < 3) := by
    unfold cmp3
    apply decide_eq_decide.2
    split
    · constructor <;> intro <;> omega
    · split <;> constructor <;> intro <;> omega
  generalize cmp3 ((bv e : Nat) : Int) ((3 : Nat) : Int) = low at *
  generalize bl (bv n) = bn at *
  generalize bl (bv e) = be at *
  generalize bv n = vn at *
  generalize bv e = ve at *
  obtain ⟨b1, hb1⟩ : ∃ b, decide (bn < 2048) = b := ⟨_, rfl⟩
  obtain ⟨b2, hb2⟩ : ∃ b, decide (4096 < bn) = b := ⟨_, rfl⟩
  obtain ⟨b3, hb3⟩ : ∃ b, decide (vn % 2 = 1) = b := ⟨_, rfl⟩
  obtain ⟨b4, hb4⟩ : ∃ b, decide (ve % 2 = 1) = b := ⟨_, rfl⟩
  obtain ⟨b5, hb5⟩ : ∃ b, decide (ve < 3) = b := ⟨_, rfl⟩
  obtain ⟨b6, hb6⟩ : ∃ b, decide (32 < be) = b := ⟨_, rfl⟩
  have HV : Hid (keyC n e = if b1 || b2 || !b3 || !b4 || b5 || b6 then 90 else 0) := by
    show _ = _
    rw [HK.out, ← hb1, ← hb2, ← hb3, ← hb4, ← hb5, ← hb6]
    simp only [Bool.or_eq_true, Bool.not_eq_true', decide_eq_true_eq, decide_eq_false_iff_not, or_assoc]
  have i1 : decide ((bn : Int) < 2048) = b1 := by rw [← hb1]; apply decide_eq_decide.2; omega
  have i2 : decide ((bn : Int) > 4096) = b2 := by rw [← hb2]; apply decide_eq_decide.2; omega
  have i6 : decide ((be : Int) > 32) = b6 := by rw [← hb6]; apply decide_eq_decide.2; omega
  rw [hb5] at hlow
  rw [hb3, hb4]
  clear HK
  cases b1
  · cases b2
    · cases b3
      · clear C4
        go_wp2
        go_ret
        rw [HV.out]
        exact ⟨rfl, HB4.out⟩
      · cases b4
        · clear C4
          go_wp2
          go_ret
          rw [HV.out]
          exact ⟨rfl, HB4.out⟩
        · cases b5
          · go_wp2_with fail
            refine C4.mono ?_
            rintro x w5 ⟨rfl, hb5'⟩
            clear C4
            have HB5 : Hid (Below w.heap.size w w5) := HB4.out.trans (hb5'.mono HB4.out.size)
            clear hb5' HB4
            cases b6 <;>
            · go_wp2
              go_ret
              rw [HV.out]
              exact ⟨rfl, HB5.out⟩
          · clear C4
            go_wp2
            go_ret
            rw [HV.out]
            exact ⟨rfl, HB4.out⟩
    · clear C4
      go_wp2
      go_ret
      rw [HV.out]
      exact ⟨rfl, HB4.out⟩
  · clear C4
    go_wp2
    go_ret
    rw [HV.out]
    exact ⟨rfl, HB4.out⟩

end Go.Proofs.YthnogdkkdekgpaaGreatDoor
