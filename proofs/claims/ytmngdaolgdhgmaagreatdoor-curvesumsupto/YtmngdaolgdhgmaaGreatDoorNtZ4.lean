import Derived.Test.YtmngdaolgdhgmaaGreatDoorNtZ3
import Derived.WalkMore
import Derived.Test.YtmngdaolgdhgmaaGreatDoorNtZ1
import Derived.Test.YtmngdaolgdhgmaaGreatDoorNtZ2
namespace Go.Proofs.YtmngdaolgdhgmaaGreatDoor
open Go.RowKit

theorem est_bound {top head g left : Nat} (h1 : g * top + left = head) (ht : head ≤ top * 4294967296 + 4294967295) (hl : 4294967296 ≤ left) : g < 4294967296 := by
  rcases Nat.lt_or_ge g 4294967296 with h | h
  · exact h
  · exfalso
    have : 4294967296 * top ≤ g * top := Nat.mul_le_mul_right _ h
    omega

set_option maxHeartbeats 2000000 in
theorem estimate_any (aw ad : Option Addr) (m cw cd : Nat) (W D : List Nat) (w : World) (hW : Rn w aw W) (hD : Rn w ad D) (sW : Sm Bs W) (sD : Sm Bs D) (lW : W.length = m + 2) (lD : D.length = m + 1) (ht : 2147483648 ≤ D.getD m 0) (hlt : nv Bs W < Bs * nv Bs D) (hm : m ≤ 1000000000) :
    Calls Tryz.prog 138 #[.slice aw (m + 2) cw, .slice ad (m + 1) cd] w fun e w' => ∃ d : Nat, e = .returned (.int .u64 (d : Int)) ∧ d ≤ 4294967295 ∧ nv Bs W < (d + 1) * nv Bs D ∧ d * nv Bs D ≤ nv Bs W + nv Bs D ∧ ∃ q, w' = w.drewN q := by
  obtain ⟨d', hd1, hd2⟩ := top_split Bs_pos D sD m lD
  obtain ⟨w'', hw1, hw2⟩ := win_split Bs_pos W sW m lW
  have htop := win_top Bs_pos W D sD m lW lD hlt
  obtain ⟨top, Htop⟩ : ∃ x, Hid (D.getD m 0 = x) := ⟨_, rfl⟩
  obtain ⟨next, Hnext⟩ : ∃ x, Hid ((if m = 0 then 0 else D.getD (m - 1) 0) = x) := ⟨_, rfl⟩
  obtain ⟨x1, Hx1⟩ : ∃ x, Hid (W.getD (m + 1) 0 = x) := ⟨_, rfl⟩
  obtain ⟨x0, Hx0⟩ : ∃ x, Hid (W.getD m 0 = x) := ⟨_, rfl⟩
  obtain ⟨x2, Hx2⟩ : ∃ x, Hid ((if m = 0 then 0 else W.getD (m - 1) 0) = x) := ⟨_, rfl⟩
  have b1 : top < 4294967296 := by rw [← Htop.out, ← Bs_eq]; exact sD.getD Bs_pos m
  have b2 : next < 4294967296 := by rw [← Hnext.out, ← Bs_eq]; split; exact Bs_pos; exact sD.getD Bs_pos _
  have b3 : x1 < 4294967296 := by rw [← Hx1.out, ← Bs_eq]; exact sW.getD Bs_pos _
  have b4 : x0 < 4294967296 := by rw [← Hx0.out, ← Bs_eq]; exact sW.getD Bs_pos _
  have b5 : x2 < 4294967296 := by rw [← Hx2.out, ← Bs_eq]; split; exact Bs_pos; exact sW.getD Bs_pos _
  rw [Htop.out, Hnext.out] at hd1
  rw [Hx1.out, Hx0.out, Hx2.out] at hw1
  rw [Htop.out] at ht htop
  rw [Hx1.out] at htop
  obtain ⟨head, Hhead⟩ : ∃ x, Hid (x1 * 4294967296 + x0 = x) := ⟨_, rfl⟩
  have HE : Hid (Es Bs (Bs ^ (m + 1)) (top * Bs + next) d' (head * Bs + x2) w'' (nv Bs D * (Bs * Bs)) (nv Bs W * (Bs * Bs))) := ⟨hd1, hd2, by rw [← Hhead.out, ← Bs_eq]; exact hw1, hw2⟩
  have hh : head ≤ top * 4294967296 + 4294967295 := by have := Hhead.out; omega
  have hh2 : head < 18446744073709551616 := by omega
  have Hlt : Hid (nv Bs W < Bs * nv Bs D) := hlt
  obtain ⟨gd, od, rfl, _, cD⟩ := hD.cell (by omega)
  obtain ⟨gw, ow, rfl, _, cW⟩ := hW.cell (by omega)
  have k1 := cD m (by omega)
  have k2 := cW (m + 1) (by omega)
  have k3 := cW m (by omega)
  rw [Htop.out] at k1
  rw [Hx1.out] at k2
  rw [Hx0.out] at k3
  have CD : Hid (∀ q, Calls Tryz.prog 110 #[.slice (some ⟨gd, od, none⟩) (m + 1) cd, .int .i64 ((m : Int) - 1)] (w.drewN q) fun e w' => e = .returned (.int .u32 (next : Int)) ∧ w' = w.drewN q) := fun q => by
    have := at_any (some ⟨gd, od, none⟩) (m + 1) cd ((m : Int) - 1) D (w.drewN q) (hD.drewN q) lD.symm
    rw [← Hnext.out]
    rcases m with _ | m
    · exact this
    · rw [if_neg (by omega), show (((m + 1 : Nat) : Int) - 1).toNat = m by omega] at this
      rw [if_neg (by omega), Nat.add_sub_cancel]
      exact this
  have CW : Hid (∀ q, Calls Tryz.prog 110 #[.slice (some ⟨gw, ow, none⟩) (m + 2) cw, .int .i64 ((m : Int) - 1)] (w.drewN q) fun e w' => e = .returned (.int .u32 (x2 : Int)) ∧ w' = w.drewN q) := fun q => by
    have := at_any (some ⟨gw, ow, none⟩) (m + 2) cw ((m : Int) - 1) W (w.drewN q) (hW.drewN q) lW.symm
    rw [← Hx2.out]
    rcases m with _ | m
    · exact this
    · rw [if_neg (by omega), show (((m + 1 : Nat) : Int) - 1).toNat = m by omega] at this
      rw [if_neg (by omega), Nat.add_sub_cancel]
      exact this
  have eor := or_pair x1 x0 b3 b4
  rw [Hhead.out] at eor
  clear hd1 hd2 hw1 hw2 hW hD sW sD lW lD hlt cD cW Htop Hnext Hx1 Hx0 Hx2
  have e1 : (m : Int) + 1 - 2 = (m : Int) - 1 := by omega
  have htp : (0 : Int) < (top : Int) := by omega
  have htn : ((top : Int) == 0) = false := by simp; omega
  go_enter Tryz.func138, Tryz.ntmps138
  go_wp2
  go_step3
  go_wp2
  go_quiet ((refine (CD.out _).mono ?_; rintro e w' ⟨rfl, rfl⟩; exact ⟨rfl, _, rfl⟩))
  go_wp2
  go_quiet (fail)
  go_wp2
  obtain ⟨g0, Hg0⟩ : ∃ g, Hid (head / top = g) := ⟨_, rfl⟩
  obtain ⟨l0, Hl0⟩ : ∃ g, Hid (head % top = g) := ⟨_, rfl⟩
  have q1 : Int.tdiv (head : Int) (top : Int) = (g0 : Int) := by rw [Int.tdiv_eq_ediv_of_nonneg (by omega), ← Hg0.out]; simp
  have q2 : Int.tmod (head : Int) (top : Int) = (l0 : Int) := by rw [Int.tmod_eq_emod_of_nonneg (by omega), ← Hl0.out]; simp
  have q3 : (head : Int) / (top : Int) = (g0 : Int) := by rw [← Hg0.out]; simp
  have q4 : (head : Int) % (top : Int) = (l0 : Int) := by rw [← Hl0.out]; simp
  have hl0 : l0 < top := by rw [← Hl0.out]; exact Nat.mod_lt _ (by omega)
  have HI0 : Hid (g0 * top + l0 = head) := by show _ = _; rw [← Hg0.out, ← Hl0.out, Nat.mul_comm]; exact Nat.div_add_mod _ _
  have hg0 : g0 ≤ 8589934592 := by
    have h := HI0.out
    rcases Nat.lt_or_ge 8589934592 g0 with h1 | h1
    · have : 8589934592 * top ≤ g0 * top := Nat.mul_le_mul_right _ (by omega)
      omega
    · exact h1
  have q5 : IntKind.u64.wrap (g0 : Int) = (g0 : Int) := by rw [IntKind.wrap_u64]; omega
  have q6 : IntKind.u64.wrap (l0 : Int) = (l0 : Int) := by rw [IntKind.wrap_u64]; omega
  have HS0 : Hid (nv Bs W < (g0 + 1) * nv Bs D) := (mul_sq_lt Bs_pos).1 (HE.out.start (by rw [Bs_eq]; exact b5) g0 (by rw [Nat.add_mul, Nat.one_mul]; have := HI0.out; omega))
  clear Hg0 Hl0
  go_quiet (fail)
  go_wp2
  go_step3
  go_wp2
  clear q1 q2 q3 q4 q5 q6
  go_loopw [9, 10] (fun s9 s10 wr => ∃ (g left : Nat) (gi li : Int), s9 = .int .u64 gi ∧ s10 = .int .u64 li ∧ Hid (gi = (g : Int) ∧ li = (left : Int)) ∧ 0 ≤ gi ∧ gi ≤ 8589934592 ∧ 0 ≤ li ∧ li < 8589934592 ∧ (∃ q, wr = w.drewN q) ∧ Hid (g * top + left = head ∧ nv Bs W < (g + 1) * nv Bs D)) (fun s _ _ => (intOf s).toNat)
  case atStart => exact ⟨g0, l0, _, _, rfl, rfl, ⟨rfl, rfl⟩, by omega, by omega, by omega, by omega, ⟨_, by rw [World.drewN_drewN, World.drewN_drewN]⟩, HI0.out, HS0.out⟩
  case round =>
    clear HI0 HS0 hg0 hl0
    obtain ⟨g, left, gi, li, rfl, rfl, HGL, hg0, hg, hle0, hle, ⟨q, rfl⟩, HI⟩ := hrel
    obtain ⟨hgi, hli⟩ := HGL.out
    by_cases h1 : 4294967296 ≤ left
    · have hB1 : decide (li ≥ 4294967296) = true := decide_eq_true (by omega)
      have HG : Hid (g < 4294967296) := est_bound HI.out.1 hh h1
      have HO : Hid (g * nv Bs D ≤ nv Bs W + nv Bs D) := mul_sq_le Bs_pos (HE.out.stop g left HI.out.1 (by
          have h3 : g * next ≤ 4294967296 * 4294967296 := Nat.mul_le_mul (Nat.le_of_lt HG.out) (by omega)
          have h4 : 4294967296 * 4294967296 ≤ left * Bs := Nat.mul_le_mul h1 (by rw [Bs_eq]; omega)
          omega) (by have := HG.out; rw [Bs_eq]; omega))
      clear h1 hgi hli
      go_wp2
      rw [Exit.noGoto_ret]
      go_ret
      exact ⟨g, by rw [HGL.out.1]; rfl, by have := HG.out; omega, HI.out.2, HO.out, q, rfl⟩
    · have hB1 : decide (li ≥ 4294967296) = false := decide_eq_false (by omega)
      by_cases h2 : 4294967296 ≤ g
      · have hB2 : decide (gi < 4294967296) = false := decide_eq_false (by omega)
        obtain ⟨g', rfl⟩ : ∃ g', g = g' + 1 := ⟨g - 1, by omega⟩
        have HN : Hid (g' * top + (left + top) = head ∧ nv Bs W < (g' + 1) * nv Bs D) := by
          have h3 := HI.out.1
          rw [Nat.add_mul, Nat.one_mul] at h3
          refine ⟨by omega, Nat.lt_of_lt_of_le Hlt.out (Nat.mul_le_mul_right _ (by rw [Bs_eq]; exact h2))⟩
        have HW1 : Hid ((IntKind.u64.wrap (gi - 1) = (g' : Int) ∧ gi - 1 = (g' : Int)) ∧ (li + (top : Int) = ((left + top : Nat) : Int) ∧ IntKind.u64.wrap (li + (top : Int)) = ((left + top : Nat) : Int)) ∧ g' ≤ 8589934592 ∧ left + top < 8589934592) := ⟨⟨by rw [IntKind.wrap_u64]; omega, by omega⟩, ⟨by omega, by rw [IntKind.wrap_u64]; omega⟩, by omega, by omega⟩
        clear HI h1 h2 hgi hli HGL
        go_wp2
        go_roundw
        case rel =>
          obtain ⟨⟨a1, a2⟩, ⟨a3, a4⟩, a5, a6⟩ := HW1.out
          exact ⟨g', left + top, _, _, rfl, rfl, ⟨by first | exact a1 | exact a2, by first | exact a3 | exact a4⟩, by first | (rw [a1]; omega) | omega, by first | (rw [a1]; omega) | omega, by omega, by omega, ⟨q, rfl⟩, HN⟩
        case measure =>
          have a0 := HW1.out
          simp only [intOf]
          omega
      · have hB2 : decide (gi < 4294967296) = true := decide_eq_true (by omega)
        obtain ⟨z, Hz⟩ : ∃ z, Hid (g * next = z) := ⟨_, rfl⟩
        have hz : z ≤ 18446744065119617025 := by rw [← Hz.out]; exact mul_lt_sq (by omega) (by omega)
        have ez : gi * (next : Int) = (z : Int) := by rw [hgi, ← Hz.out]; simp
        have ezw : IntKind.u64.wrap (z : Int) = (z : Int) := by rw [IntKind.wrap_u64]; omega
        have eo := or_pair left x2 (by omega) b5
        rw [← hli] at eo
        obtain ⟨t, Ht⟩ : ∃ t, Hid (left * 4294967296 + x2 = t) := ⟨_, rfl⟩
        rw [Ht.out] at eo
        have htt := Ht.out
        have elw : IntKind.u64.wrap (li * 4294967296) = li * 4294967296 := by rw [IntKind.wrap_u64]; omega
        by_cases h3 : z ≤ t
        · have hB3 : decide ((z : Int) ≤ (t : Int)) = true := decide_eq_true (by omega)
          have hB4 : decide (z ≤ t) = true := decide_eq_true h3
          have HO : Hid (g * nv Bs D ≤ nv Bs W + nv Bs D) := mul_sq_le Bs_pos (HE.out.stop g left HI.out.1 (by rw [Hz.out, Bs_eq, htt]; exact h3) (by rw [Bs_eq]; omega))
          have HG : Hid (g ≤ 4294967295) := by show _ ≤ _; omega
          clear h3 h2 h1 hgi hli htt
          go_wp2_with fail
          refine (CW.out q).mono ?_
          rintro e w1 ⟨rfl, rfl⟩
          go_wp2
          rw [Exit.noGoto_ret]
          go_ret
          exact ⟨g, by rw [HGL.out.1]; rfl, HG.out, HI.out.2, HO.out, q, rfl⟩
        · have hB3 : decide ((z : Int) ≤ (t : Int)) = false := decide_eq_false (by omega)
          have hB4 : decide (z ≤ t) = false := decide_eq_false h3
          have hg1 : g ≠ 0 := fun e => by have h4 := Hz.out; rw [e, Nat.zero_mul] at h4; omega
          obtain ⟨g', rfl⟩ : ∃ g', g = g' + 1 := ⟨g - 1, by omega⟩
          have HN : Hid (g' * top + (left + top) = head ∧ nv Bs W < (g' + 1) * nv Bs D) := by
            have h4 := HI.out.1
            rw [Nat.add_mul, Nat.one_mul] at h4
            refine ⟨by omega, (mul_sq_lt Bs_pos).1 (HE.out.step (g' + 1) left HI.out.1 (by rw [Hz.out, Bs_eq]; omega))⟩
          have HW1 : Hid ((IntKind.u64.wrap (gi - 1) = (g' : Int) ∧ gi - 1 = (g' : Int)) ∧ (li + (top : Int) = ((left + top : Nat) : Int) ∧ IntKind.u64.wrap (li + (top : Int)) = ((left + top : Nat) : Int)) ∧ g' ≤ 8589934592 ∧ left + top < 8589934592) := ⟨⟨by rw [IntKind.wrap_u64]; omega, by omega⟩, ⟨by omega, by rw [IntKind.wrap_u64]; omega⟩, by omega, by omega⟩
          clear HI h3 h2 h1 hg1 hgi hli HGL htt
          go_wp2_with fail
          refine (CW.out q).mono ?_
          rintro e w1 ⟨rfl, rfl⟩
          go_wp2
          go_roundw
          case rel =>
            obtain ⟨⟨a1, a2⟩, ⟨a3, a4⟩, a5, a6⟩ := HW1.out
            exact ⟨g', left + top, _, _, rfl, rfl, ⟨by first | exact a1 | exact a2, by first | exact a3 | exact a4⟩, by first | (rw [a1]; omega) | omega, by first | (rw [a1]; omega) | omega, by omega, by omega, ⟨q, rfl⟩, HN⟩
          case measure =>
            have a0 := HW1.out
            simp only [intOf]
            omega

end Go.Proofs.YtmngdaolgdhgmaaGreatDoor

namespace Go.Proofs.YtmngdaolgdhgmaaGreatDoor

theorem div_none {M d D W W' : Nat} (h : W' + d * D = W + M * 0) (hlt : W < (d + 1) * D) : W' < D ∧ W = W' + d * D := by
  rw [Nat.add_mul, Nat.one_mul] at hlt
  omega

theorem div_back {M d D W W' W'' cy c2 : Nat} (h : W' + d * D = W + M * cy) (hcy : cy ≠ 0) (hW' : W' < M) (hD : D < M) (he : d * D ≤ W + D) (h2 : W'' + M * c2 = W' + D) (hW'' : W'' < M) (hc2 : c2 ≤ 1) : ∃ d', d = d' + 1 ∧ W'' < D ∧ W = W'' + d' * D := by
  have h1 : cy = 1 := by
    rcases cy with _ | _ | cy
    · exact absurd rfl hcy
    · rfl
    · exfalso
      rw [Nat.mul_succ, Nat.mul_succ] at h
      omega
  subst h1
  rw [Nat.mul_one] at h
  rcases d with _ | d'
  · rw [Nat.zero_mul] at h; omega
  · rw [Nat.add_mul, Nat.one_mul] at h he
    refine ⟨d', rfl, ?_⟩
    rcases c2 with _ | _ | c2
    · omega
    · omega
    · omega

theorem rem_step {P lo W Wn g D Q A : Nat} (h : lo + P * W + Q * D = A) (hw : W = Wn + g * D) (hlo : lo < P) (hn : Wn < D) : lo + P * Wn + (Q + P * g) * D = A ∧ lo + P * Wn < P * D := by
  constructor
  · rw [← h, hw, Nat.mul_add, Nat.add_mul, Nat.mul_assoc]
    omega
  · have : P * (Wn + 1) ≤ P * D := Nat.mul_le_mul_left _ hn
    rw [Nat.mul_add, Nat.mul_one] at this
    omega

theorem two_32 (k : Nat) (h : k ≤ 32) : 2 ^ (32 - k) * 2 ^ k = 4294967296 := by rw [← Nat.pow_add, show 32 - k + k = 32 by omega]
theorem two_31 (k : Nat) (h : k ≤ 32) (h0 : 0 < k) : 2 ^ (32 - k) * 2 ^ (k - 1) = 2147483648 := by rw [← Nat.pow_add, show 32 - k + (k - 1) = 31 by omega]

/-- The divisor, raised so far that its top bit is set. -/
theorem norm_div (D0 : List Nat) (m : Nat) (hs : Sm Bs D0) (hl : D0.length = m + 1) (ht : D0.getD m 0 ≠ 0) :
    bl (D0.getD m 0) ≤ 32 ∧ (dg Bs (nv Bs D0 * 2 ^ (32 - bl (D0.getD m 0)))).length = m + 1 ∧ 2147483648 ≤ (dg Bs (nv Bs D0 * 2 ^ (32 - bl (D0.getD m 0)))).getD m 0 := by
  have e1 := nv_take_succ Bs D0 m
  rw [List.take_of_length_le (by omega)] at e1
  have h1 := nv_lt Bs_pos (hs.take m)
  rw [List.length_take, Nat.min_eq_left (by omega)] at h1
  have ht2 := hs.getD Bs_pos m
  generalize D0.getD m 0 = t at *
  have hb : bl t ≤ 32 := by
    have h2 : bl t ≤ bl 4294967295 := bl_mono (by rw [Bs_eq] at ht2; omega)
    exact Nat.le_trans h2 (by decide)
  have hb0 := bl_pos t ht
  have a1 := bl_le t ht
  have a2 := bl_lt t
  generalize nv Bs (D0.take m) = lo at *
  have f1 := two_32 (bl t) hb
  have f2 := two_31 (bl t) hb hb0
  generalize 32 - bl t = s at *
  have hp : 0 < 2 ^ s := Nat.pow_pos (by decide)
  have up : nv Bs D0 * 2 ^ s < Bs ^ (m + 1) := by
    have h3 : nv Bs D0 < Bs ^ m * (t + 1) := by rw [e1, Nat.mul_add]; omega
    have h4 : nv Bs D0 * 2 ^ s < Bs ^ m * (t + 1) * 2 ^ s := Nat.mul_lt_mul_of_pos_right h3 hp
    have h5 : Bs ^ m * (t + 1) * 2 ^ s ≤ Bs ^ m * Bs := by
      rw [Nat.mul_assoc]
      refine Nat.mul_le_mul_left _ ?_
      rw [Bs_eq, ← f1, Nat.mul_comm]
      exact Nat.mul_le_mul_left _ a2
    rw [Nat.pow_succ]
    exact Nat.lt_of_lt_of_le h4 h5
  have low : Bs ^ m * 2147483648 ≤ nv Bs D0 * 2 ^ s := by
    have h3 : Bs ^ m * t ≤ nv Bs D0 := by rw [e1]; exact Nat.le_add_left _ _
    have h4 : Bs ^ m * t * 2 ^ s ≤ nv Bs D0 * 2 ^ s := Nat.mul_le_mul_right _ h3
    refine Nat.le_trans ?_ h4
    rw [Nat.mul_assoc]
    refine Nat.mul_le_mul_left _ ?_
    rw [← f2, Nat.mul_comm]
    exact Nat.mul_le_mul_right _ a1
  generalize nv Bs D0 * 2 ^ s = V at *
  have hp2 : 0 < Bs ^ m := Nat.pow_pos Bs_pos
  have htop : V / Bs ^ m < Bs := by rw [Nat.pow_succ] at up; exact Nat.div_lt_of_lt_mul up
  have hlow : 2147483648 ≤ V / Bs ^ m := (Nat.le_div_iff_mul_le hp2).2 (by rw [Nat.mul_comm]; exact low)
  refine ⟨hb, ?_, ?_⟩
  · have l1 := dg_len Bs_two (m + 1) V up
    rcases Nat.lt_or_ge (dg Bs V).length (m + 1) with h6 | h6
    · exfalso
      have l2 := dg_up Bs_two V
      have l3 : Bs ^ (dg Bs V).length ≤ Bs ^ m := Nat.pow_le_pow_right Bs_pos (by omega)
      have l4 : Bs ^ m * 1 ≤ Bs ^ m * 2147483648 := Nat.mul_le_mul_left _ (by decide)
      rw [Nat.mul_one] at l4
      exact absurd (Nat.lt_of_lt_of_le l2 (Nat.le_trans l3 (Nat.le_trans l4 low))) (Nat.lt_irrefl _)
    · exact Nat.le_antisymm l1 h6
  · have := nv_getD Bs_pos (dg_sm Bs_two V) m
    rw [this, dg_nv Bs_two, Nat.mod_eq_of_lt htop]
    exact hlow

end Go.Proofs.YtmngdaolgdhgmaaGreatDoor

namespace Go.Proofs.YtmngdaolgdhgmaaGreatDoor
open Go.RowKit

theorem Ow.below {w w' : World} {base n : Nat} {v : Value} {xs : List Nat} (h : Ow w base v xs) (hb : Below n w w') (hn : w.heap.size ≤ n) : Ow w' base v xs := by
  rcases h.2 with h0 | ⟨g, cap, cur, e, hg, hh, r⟩
  · exact ⟨h.1, .inl h0⟩
  · exact ⟨h.1, .inr ⟨g, cap, cur, e, hg, by rw [hb.block g (Nat.lt_of_lt_of_le (Array.getElem?_eq_some_iff.1 hh).1 hn)]; exact hh, r⟩⟩
theorem Ow.drewN {w : World} {base : Nat} {v : Value} {xs : List Nat} (h : Ow w base v xs) (q : Nat) : Ow (w.drewN q) base v xs := h
theorem Ow.base {w : World} {base base' : Nat} {v : Value} {xs : List Nat} (h : Ow w base v xs) (hb : base' ≤ base) : Ow w base' v xs := by
  rcases h.2 with h0 | ⟨g, cap, cur, e, hg, r⟩
  · exact ⟨h.1, .inl h0⟩
  · exact ⟨h.1, .inr ⟨g, cap, cur, e, Nat.le_trans hb hg, r⟩⟩

theorem Bl.rn_mid {t : TypeId} {w : World} {g o : Nat} {lo W hi : List Nat} (h : Bl t w g ((lo ++ W ++ hi).map U)) (ho : o = lo.length) : Rn w (some ⟨g, o, none⟩) W := by
  subst ho
  refine .inr ⟨g, lo.length, rfl, h.lt, fun j hj => ?_⟩
  rw [h.cell (lo.length + j) (by simp; omega), List.getElem_map, List.getElem_append_left (by simp; omega), List.getElem_append_right (by omega), getD_eq _ _ hj]
  simp

/-- What stands while a quotient is made. -/
structure DS (w wr : World) (L Q D : List Nat) (m mq : Nat) : Prop where
  bl : Bl 51 wr w.heap.size (L.map U)
  len : L.length = mq + (m + 1)
  sm : Sm Bs L
  rd : Rn wr (some ⟨w.heap.size + 1, 0, none⟩) D
  qb : Bl 51 wr (w.heap.size + 2) (Q.map U)
  ql : Q.length = mq
  qs : Sm Bs Q
  bel : Below w.heap.size w wr
  size : wr.heap.size = w.heap.size + 3

theorem low_win {L : List Nat} {m p mq : Nat} (hl : L.length = mq + (m + 1)) (hp : p < mq) : ∃ lo W hi : List Nat, L = lo ++ W ++ hi ∧ lo.length = p ∧ W.length = m + 2 := by
  refine ⟨L.take p, (L.drop p).take (m + 2), (L.drop p).drop (m + 2), ?_, ?_, ?_⟩
  · rw [List.append_assoc, List.take_append_drop, List.take_append_drop]
  · rw [List.length_take]; omega
  · rw [List.length_take, List.length_drop]; omega

/-- The limbs above the window are noughts. -/
theorem win_value {B : Nat} (_hB : 0 < B) {lo W hi : List Nat} {m p D : Nat} (hlo : lo.length = p) (hW : W.length = m + 2) (hD : D < B ^ (m + 1)) (h : nv B (lo ++ W ++ hi) < B ^ (p + 1) * D) : nv B (lo ++ W ++ hi) = nv B lo + B ^ p * nv B W ∧ nv B hi = 0 ∧ nv B W < B * D := by
  rw [nv_append, nv_append, List.length_append, hlo, hW] at h ⊢
  have h1 : B ^ (p + 1) * D ≤ B ^ (p + 1) * B ^ (m + 1) := Nat.mul_le_mul_left _ (Nat.le_of_lt hD)
  rw [← Nat.pow_add, show p + 1 + (m + 1) = p + (m + 2) by omega] at h1
  have h2 : nv B hi = 0 := by
    rcases Nat.eq_zero_or_pos (nv B hi) with h3 | h3
    · exact h3
    · exfalso
      have : B ^ (p + (m + 2)) * 1 ≤ B ^ (p + (m + 2)) * nv B hi := Nat.mul_le_mul_left _ h3
      omega
  rw [h2, Nat.mul_zero, Nat.add_zero] at h ⊢
  refine ⟨rfl, rfl, ?_⟩
  have h4 : B ^ p * nv B W < B ^ p * (B * D) := by
    have e : B ^ p * (B * D) = B ^ (p + 1) * D := by rw [Nat.pow_succ, Nat.mul_assoc]
    omega
  exact Nat.lt_of_mul_lt_mul_left h4

theorem start_lt {B : Nat} (X s D la mq m : Nat) (hX : X < B ^ la) (hs : 2 ^ s ≤ 2147483648) (hD : B ^ m * 2147483648 ≤ D) (hla : la + 1 = mq + (m + 1)) : X * 2 ^ s < B ^ mq * D := by
  have h1 : X * 2 ^ s < B ^ la * 2147483648 := Nat.lt_of_le_of_lt (Nat.mul_le_mul_left _ hs) (Nat.mul_lt_mul_of_pos_right hX (by decide))
  have h2 : B ^ mq * (B ^ m * 2147483648) ≤ B ^ mq * D := Nat.mul_le_mul_left _ hD
  rw [← Nat.mul_assoc, ← Nat.pow_add, show mq + m = la by omega] at h2
  exact Nat.lt_of_lt_of_le h1 h2

theorem quot_end {X D Q R S : Nat} (hS : 0 < S) (h : R + Q * (D * S) = X * S) (hR : R < D * S) : Q = X / D ∧ R / S = X % D := by
  have h1 : R = (X - Q * D) * S := by
    rw [Nat.sub_mul, Nat.mul_assoc]
    omega
  have h2 : Q * D ≤ X := by
    have : Q * D * S ≤ X * S := by rw [Nat.mul_assoc]; omega
    exact Nat.le_of_mul_le_mul_right this hS
  have h3 : X - Q * D < D := by
    rw [h1] at hR
    exact Nat.lt_of_mul_lt_mul_right hR
  have h4 : X = Q * D + (X - Q * D) := by omega
  have h5 : 0 < D := by omega
  constructor
  · have h6 : (D * Q + (X - Q * D)) / D = Q + (X - Q * D) / D := Nat.mul_add_div h5 _ _
    rw [Nat.mul_comm D Q, ← h4, Nat.div_eq_of_lt h3] at h6
    omega
  · rw [h1, Nat.mul_div_cancel _ hS]
    have : X % D = (X - Q * D) % D := by
      rw [show X - Q * D = X - D * Q by rw [Nat.mul_comm]]
      exact (Nat.sub_mul_mod (by rw [Nat.mul_comm]; exact h2)).symm
    rw [this, Nat.mod_eq_of_lt h3]

theorem DS.turn {w w0 w1 : World} {lo W W1 hi Q D : List Nat} {m mq : Nat} (h : DS w w0 (lo ++ W ++ hi) Q D m mq) (hb : Bl 51 w1 w.heap.size ((lo ++ W1 ++ hi).map U)) (hl : W1.length = W.length) (hs : Sm Bs W1) (hbut : But w0 w1 w.heap.size) (hsz : w1.heap.size = w0.heap.size) : DS w w1 (lo ++ W1 ++ hi) Q D m mq :=
  ⟨hb, by have := h.len; simp only [List.length_append] at this ⊢; omega, (h.sm.left.left.append hs).append h.sm.right, h.rd.but hbut (fun a _ e => by cases e; show w.heap.size + 1 ≠ w.heap.size; omega), h.qb.but hbut (show w.heap.size + 2 ≠ w.heap.size by omega), h.ql, h.qs, h.bel.trans (hbut.below h.bel.size (Nat.le_refl _)), by rw [hsz]; exact h.size⟩
theorem DS.put {w w1 : World} {L Q D : List Nat} {m mq : Nat} (h : DS w w1 L Q D m mq) (p v : Nat) (hv : v < 4294967296) : DS w (w1.setCell ⟨w.heap.size + 2, p, none⟩ (.int .u32 (v : Int))) L (Q.set p v) D m mq := by
  have hb : But w1 (w1.setCell ⟨w.heap.size + 2, p, none⟩ (.int .u32 (v : Int))) (w.heap.size + 2) := (But.refl _ _).set _ _
  exact ⟨h.bl.but hb (show w.heap.size ≠ w.heap.size + 2 by omega), h.len, h.sm, h.rd.but hb (fun a _ e => by cases e; show w.heap.size + 1 ≠ w.heap.size + 2; omega), h.qb.setU p v, by rw [List.length_set]; exact h.ql, h.qs.set p v hv, h.bel.setCell (show w.heap.size ≤ w.heap.size + 2 by omega) _, by rw [World.size_setCell]; exact h.size⟩
theorem But.undrew {w w' : World} {q b : Nat} (h : But (w.drewN q) w' b) : But w w' b := ⟨h.os, h.tape, h.output, h.size, h.block⟩

theorem turn_value {B : Nat} (hB : 0 < B) {lo W W1 hi Q : List Nat} {p g D A : Nat} (slo : Sm B lo) (hlo : lo.length = p) (_hl : W1.length = W.length) (hv : nv B (lo ++ W ++ hi) = nv B lo + B ^ p * nv B W) (hh : nv B hi = 0) (hw : nv B W = nv B W1 + g * D) (hlt : nv B W1 < D) (hA : nv B (lo ++ W ++ hi) + nv B Q * D = A) (hq : Q.getD p 0 = 0) (hp : p < Q.length) :
    nv B (lo ++ W1 ++ hi) + nv B (Q.set p g) * D = A ∧ nv B (lo ++ W1 ++ hi) < B ^ p * D := by
  have e1 : nv B (lo ++ W1 ++ hi) = nv B lo + B ^ p * nv B W1 := by rw [nv_append, nv_append, hh, hlo]; omega
  have e2 := nv_set' B Q p g 0 hp hq
  rw [Nat.mul_zero, Nat.add_zero] at e2
  rw [hv] at hA
  have h1 := nv_lt hB slo
  rw [hlo] at h1
  rw [e1, e2]
  exact rem_step hA hw h1 hlt

set_option maxHeartbeats 4000000 in
theorem divide_any (ax ad : Option Addr) (cx cd m mq n : Nat) (X D0 : List Nat) (w : World) (hX : Rn w ax X) (hD : Rn w ad D0) (sX : Sm Bs X) (sD : Sm Bs D0) (lD : D0.length = m + 1) (hn : n = m + 1) (lX : X.length + 1 = mq + (m + 1)) (hmq : 0 < mq) (ht : D0.getD m 0 ≠ 0) (hl : X.length ≤ 100000000) :
    Calls Tryz.prog 122 #[.slice ax X.length cx, .slice ad n cd] w fun e w' => ∃ q r b2, e = .returned (.tuple #[q, r]) ∧ Ow w' w.heap.size q (dg Bs (nv Bs X / nv Bs D0)) ∧ Ow w' b2 r (dg Bs (nv Bs X % nv Bs D0)) ∧ w.heap.size ≤ b2 ∧ (∀ g, q.ownBlock = some g → g < b2) ∧ Below w.heap.size w w' := by
  obtain ⟨nb, nl, nt⟩ := norm_div D0 m sD lD ht
  obtain ⟨t, Ht⟩ : ∃ t, Hid (D0.getD m 0 = t) := ⟨_, rfl⟩
  rw [Ht.out] at nb nl nt ht
  have ht32 : t < 4294967296 := by rw [← Ht.out, ← Bs_eq]; exact sD.getD Bs_pos m
  have hb0 := bl_pos t ht
  obtain ⟨s, Hs⟩ : ∃ s, Hid (32 - bl t = s) := ⟨_, rfl⟩
  rw [Hs.out] at nl nt
  have hs : s ≤ 31 := by rw [← Hs.out]; omega
  have CL := lead_any t w ht32
  rw [Hs.out] at CL
  obtain ⟨gd, od, rfl, _, cD⟩ := hD.cell (by omega)
  have k1 := cD m (by omega)
  rw [Ht.out] at k1
  have CR1 := raised_any ax X.length cx s X w hX sX rfl hl (by omega)
  obtain ⟨D, HD⟩ : ∃ D, Hid (D = dg Bs (nv Bs D0 * 2 ^ s)) := ⟨_, rfl⟩
  rw [← HD.out] at nl nt
  have HDv : Hid (nv Bs D = nv Bs D0 * 2 ^ s) := by show _ = _; rw [HD.out, dg_nv Bs_two]
  have HDs : Hid (Sm Bs D) := by show Sm _ _; rw [HD.out]; exact dg_sm Bs_two _
  have HDl : Hid (D.length = m + 1) := nl
  have HDt : Hid (2147483648 ≤ D.getD m 0) := nt
  have HRD : Hid (Rn w (some ⟨gd, od, none⟩) D0) := hD
  have HSD : Hid (Sm Bs D0) := sD
  have HlD : Hid (D0.length = m + 1) := lD
  have HlX : Hid (X.length + 1 = mq + (m + 1)) := lX
  have HSX : Hid (Sm Bs X) := sX
  have hmqb : mq ≤ 100000000 := by omega
  have hmb : m ≤ 100000000 := by omega
  have e1 : (X.length : Int) - ((m : Int) + 1) + 1 = (mq : Int) := by omega
  have em : ((m + 1 : Nat) : Int) - 1 = (m : Int) := by omega
  have emc : (m : Int) < ((m + 1 : Nat) : Int) := by omega
  subst hn
  clear hX hD sX sD lD lX nb nl nt ht ht32 hb0 cD Ht Hs
  go_enter Tryz.func122, Tryz.ntmps122
  go_wp2_with fail
  refine CL.mono ?_
  clear CL
  rintro e w ⟨rfl, rfl⟩
  go_wp2_with fail
  refine CR1.mono ?_
  clear CR1
  rintro e w1 ⟨L, N, hN, rfl, hbL, lL, sL, vL, bel1, sz1⟩
  rw [Nat.div_eq_of_lt (show s < 32 by omega), Nat.zero_add] at hN
  subst hN
  have CR2 := raised_any (some ⟨gd, od, none⟩) (m + 1) cd s D0 w1 (HRD.out.below bel1 (Nat.le_refl _)) HSD.out HlD.out.symm (by omega) (by omega)
  rw [sz1] at CR2
  have HL : Hid (Bl 51 w1 w.heap.size (L.map U) ∧ L.length = X.length + 1 ∧ Sm Bs L ∧ nv Bs L = nv Bs X * 2 ^ s ∧ Below w.heap.size w w1 ∧ w1.heap.size = w.heap.size + 1) := ⟨hbL, lL, sL, vL, bel1, sz1⟩
  clear hbL lL sL vL bel1 sz1
  go_wp2_with fail
  refine CR2.mono ?_
  clear CR2
  rintro e w2 ⟨L2, N2, hN2, rfl, hbL2, lL2, sL2, vL2, bel2, sz2⟩
  rw [Nat.div_eq_of_lt (show s < 32 by omega), Nat.zero_add] at hN2
  subst hN2
  have CP := proper_any (some ⟨w.heap.size + 1, 0, none⟩) (m + 1 + 1) (m + 1 + 1) L2 w2 hbL2.rn lL2.symm (Nat.le_refl _) (by omega)
  have etl : tl L2 = m + 1 := by rw [← dg_length Bs_two sL2, vL2, ← HD.out]; exact HDl.out
  rw [etl] at CP
  have HR2 : Hid (Rn w2 (some ⟨w.heap.size + 1, 0, none⟩) D) := by
    have := hbL2.rn.take (tl L2)
    rw [trim_dg Bs_two sL2, vL2, ← HD.out] at this
    exact this
  have HL2 : Hid (Bl 51 w2 w.heap.size (L.map U) ∧ Below w.heap.size w w2 ∧ w2.heap.size = w.heap.size + 2) := ⟨HL.out.1.below bel2 (by omega), HL.out.2.2.2.2.1.trans (bel2.mono (by omega)), by omega⟩
  clear hbL2 lL2 sL2 vL2 bel2 sz2 etl
  go_wp2_with fail
  refine CP.mono ?_
  clear CP
  rintro e w2 ⟨rfl, rfl⟩
  obtain ⟨w3, hmk, hbm, hbel, hsz⟩ := madeU w2 mq (by omega)
  have HDS : Hid (DS w w3 L (List.replicate mq 0) D m mq) := by
    have a := HL2.out
    rw [a.2.2] at hbm
    exact ⟨a.1.below hbel (by omega), by rw [HL.out.2.1]; exact HlX.out, HL.out.2.2.1, HR2.out.below hbel (by omega), hbm, by simp, Sm.zeros _ Bs_pos, a.2.1.trans (hbel.mono (by omega)), by omega⟩
  have HV0 : Hid (nv Bs L + nv Bs (List.replicate mq 0) * nv Bs D = nv Bs X * 2 ^ s ∧ nv Bs L < Bs ^ mq * nv Bs D) := by
    refine ⟨by rw [nv_zeros, Nat.zero_mul, Nat.add_zero]; exact HL.out.2.2.2.1, ?_⟩
    rw [HL.out.2.2.2.1]
    refine start_lt (B := Bs) (nv Bs X) s (nv Bs D) X.length mq m (nv_lt Bs_pos HSX.out) (Nat.pow_le_pow_right (n := 2) (by decide) (show s ≤ 31 by omega)) ?_ HlX.out
    have e2 := nv_take_succ Bs D m
    rw [List.take_of_length_le (by rw [HDl.out]; exact Nat.le_refl _)] at e2
    rw [e2]
    exact Nat.le_trans (Nat.mul_le_mul_left _ HDt.out) (Nat.le_add_left _ _)
  rw [HL2.out.2.2] at hmk
  clear hbm hbel hsz HR2 HL HL2 HRD HSD HlD HSX
  go_wp2
  clear hmk
  go_loopw [36] (fun s36 wr => ∃ (i k q : Nat) (L Q : List Nat) (w0 : World), s36 = .int .i64 (i : Int) ∧ i ≤ mq ∧ wr = w0.drewN q ∧ Hid (i + k = mq ∧ DS w w0 L Q D m mq ∧ (∀ j, j < k → Q.getD j 0 = 0) ∧ nv Bs L + nv Bs Q * nv Bs D = nv Bs X * 2 ^ s ∧ nv Bs L < Bs ^ k * nv Bs D)) (fun s _ => mq - (intOf s).toNat)
  case atStart => exact ⟨0, mq, 0, L, _, w3, rfl, Nat.zero_le _, rfl, by omega, HDS.out, fun j _ => getD_zeros _ j, HV0.out⟩
  case round =>
    clear HDS HV0
    obtain ⟨i, k, q, L, Q, w0, rfl, hi, rfl, HI⟩ := hrel
    by_cases hlt : i < mq
    · obtain ⟨p, hp⟩ : ∃ p, k = p + 1 := ⟨k - 1, by have := HI.out.1; omega⟩
      subst hp
      obtain ⟨hk, ds, hq0, hval, hlow⟩ := HI.out
      obtain ⟨lo, W, hi', rfl, llo, lW⟩ := low_win ds.len (show p < mq by omega)
      have hDlt : nv Bs D < Bs ^ (m + 1) := by have := nv_lt Bs_pos HDs.out; rw [HDl.out] at this; exact this
      obtain ⟨v1, v2, v3⟩ := win_value Bs_pos llo lW hDlt hlow
      have hsW : Sm Bs W := ds.sm.left.right
      have CE := estimate_any (some ⟨w.heap.size, p, none⟩) (some ⟨w.heap.size + 1, 0, none⟩) m (X.length + 1 - p) (m + 1 + 1) W D (w0.drewN q) ((ds.bl.rn_mid llo.symm).drewN q) (ds.rd.drewN q) hsW HDs.out lW HDl.out HDt.out v3 (by omega)
      have HP : Hid (DS w w0 (lo ++ W ++ hi') Q D m mq ∧ lo.length = p ∧ W.length = m + 2 ∧ nv Bs D < Bs ^ (m + 1) ∧ nv Bs (lo ++ W ++ hi') = nv Bs lo + Bs ^ p * nv Bs W ∧ nv Bs hi' = 0 ∧ Sm Bs W ∧ i + (p + 1) = mq) := ⟨ds, llo, lW, hDlt, v1, v2, hsW, hk⟩
      have ep : (mq : Int) - 1 - (i : Int) = (p : Int) := by omega
      have hpb : p + (m + 1) + 1 ≤ X.length + 1 := by have := HlX.out; omega
      have hpm : p < mq := by omega
      clear hk ds hq0 hval hlow llo lW hDlt v1 v2 v3 hsW
      go_wp2_with fail
      rw [show p + (m + 1) + 1 - p = m + 2 by omega]
      refine CE.mono ?_
      clear CE
      rintro e w1 ⟨d, rfl, hd, hd1, hd2, q', rfl⟩
      rw [World.drewN_drewN]
      generalize q + q' = q
      have HE : Hid (nv Bs W < (d + 1) * nv Bs D ∧ d * nv Bs D ≤ nv Bs W + nv Bs D) := ⟨hd1, hd2⟩
      clear hd1 hd2
      have CT := takeFrom_any w.heap.size p (m + 2) (X.length + 1 - p) (m + 1) (m + 1 + 1) d (some ⟨w.heap.size + 1, 0, none⟩) lo W hi' D (w0.drewN q) (HP.out.1.bl.drewN q) HP.out.2.1.symm HP.out.2.2.1.symm HDl.out.symm (HP.out.1.rd.drewN q) (fun a _ e => by cases e; show w.heap.size + 1 ≠ w.heap.size; omega) HP.out.2.2.2.2.2.2.1 HDs.out (by omega) hd
      go_wp2_with fail
      refine CT.mono ?_
      clear CT
      rintro e w1 ⟨W1, cy, rfl, hb1, hl1, hs1, he1, hbut1, hsz1⟩
      have etk : D.take (m + 2) = D := List.take_of_length_le (by rw [HDl.out]; omega)
      rw [etk] at he1
      by_cases hcy : cy = 0
      · subst hcy
        have HN : Hid (nv Bs W1 < nv Bs D ∧ nv Bs W = nv Bs W1 + d * nv Bs D) := div_none he1 HE.out.1
        have HF : Hid (DS w w1 (lo ++ W1 ++ hi') Q D m mq ∧ W1.length = W.length) := ⟨HP.out.1.turn hb1 (by rw [hl1]; exact HP.out.2.2.1.symm) hs1 hbut1.undrew hsz1, by rw [hl1]; exact HP.out.2.2.1.symm⟩
        have hdc : decide ((0 : Nat) ≠ 0) = false := rfl
        rw [hdc]
        have gq := HF.out.1.qb.limb p 0 (by rw [HP.out.1.ql]; omega) (HI.out.2.2.1 p (by omega))
        have gf := HF.out.1.qb.frozen p
        have e3 : IntKind.u32.wrap (d : Int) = (d : Int) := by rw [IntKind.wrap_u32]; omega
        clear hb1 hl1 hs1 he1 hbut1 hsz1 hdc
        go_wp2
        go_roundw
        case rel =>
          refine ⟨i + 1, p, 0, lo ++ W1 ++ hi', Q.set p d, _, by go_num, by omega, rfl, by have := HP.out.2.2.2.2.2.2.2; omega, HF.out.1.put p d (by omega), fun j hj => by rw [getD_set_ne _ _ _ _ (by omega)]; exact HI.out.2.2.1 j (by omega), ?_⟩
          exact turn_value Bs_pos HP.out.1.sm.left.left HP.out.2.1 HF.out.2 HP.out.2.2.2.2.1 HP.out.2.2.2.2.2.1 HN.out.2 HN.out.1 HI.out.2.2.2.1 (HI.out.2.2.1 p (by omega)) (by rw [HP.out.1.ql]; exact hpm)
        case measure => simp [intOf]; omega
      · have hdc : decide (cy ≠ 0) = true := decide_eq_true hcy
        rw [hdc]
        have HF : Hid (DS w w1 (lo ++ W1 ++ hi') Q D m mq ∧ W1.length = m + 2 ∧ Sm Bs W1 ∧ nv Bs W1 + d * nv Bs D = nv Bs W + Bs ^ (m + 2) * cy ∧ cy ≠ 0) := ⟨HP.out.1.turn hb1 (by rw [hl1]; exact HP.out.2.2.1.symm) hs1 hbut1.undrew hsz1, hl1, hs1, he1, hcy⟩
        have hd0 : d ≠ 0 := fun e => by
          subst e
          rw [Nat.zero_mul, Nat.add_zero] at he1
          have h8 := nv_lt Bs_pos hs1
          rw [hl1] at h8
          have h9 : Bs ^ (m + 2) * 1 ≤ Bs ^ (m + 2) * cy := Nat.mul_le_mul_left _ (by omega)
          rw [Nat.mul_one] at h9
          exact absurd (Nat.lt_of_lt_of_le h8 (Nat.le_trans h9 (by rw [he1]; exact Nat.le_add_left _ _))) (Nat.lt_irrefl _)
        obtain ⟨d', rfl⟩ : ∃ d', d = d' + 1 := ⟨d - 1, by omega⟩
        have e2 : ((d' + 1 : Nat) : Int) - 1 = (d' : Int) := by omega
        have e3 : IntKind.u64.wrap (d' : Int) = (d' : Int) := by rw [IntKind.wrap_u64]; omega
        have CPu := putTo_any w.heap.size p (m + 2) (X.length + 1 - p) (m + 1) (m + 1 + 1) (some ⟨w.heap.size + 1, 0, none⟩) lo W1 hi' D w1 HF.out.1.bl HP.out.2.1.symm HF.out.2.1.symm HDl.out.symm HF.out.1.rd (fun a _ e => by cases e; show w.heap.size + 1 ≠ w.heap.size; omega) HF.out.2.2.1 HDs.out (by omega)
        rw [etk] at CPu
        clear hb1 hl1 hs1 he1 hbut1 hsz1 hdc hcy hd0 etk
        go_wp2_with fail
        refine CPu.mono ?_
        clear CPu
        rintro e w2 ⟨rfl, W2, c2, hb2, hl2, hs2, he2, hc2, hbut2, hsz2⟩
        have HN : Hid (nv Bs W2 < nv Bs D ∧ nv Bs W = nv Bs W2 + d' * nv Bs D) := by
          have h8 := nv_lt Bs_pos HF.out.2.2.1
          rw [HF.out.2.1] at h8
          have h9 := nv_lt Bs_pos hs2
          rw [hl2] at h9
          obtain ⟨d2, hd2, hr⟩ := div_back HF.out.2.2.2.1 HF.out.2.2.2.2 h8 (Nat.lt_of_lt_of_le HP.out.2.2.2.1 (Nat.pow_le_pow_right Bs_pos (by omega))) HE.out.2 he2 h9 hc2
          obtain rfl : d' = d2 := by omega
          exact hr
        have HF2 : Hid (DS w w2 (lo ++ W2 ++ hi') Q D m mq ∧ W2.length = W.length) := ⟨HF.out.1.turn hb2 (by rw [hl2]; exact HF.out.2.1.symm) hs2 hbut2 hsz2, by rw [hl2]; exact HP.out.2.2.1.symm⟩
        have gq := HF2.out.1.qb.limb p 0 (by rw [HP.out.1.ql]; omega) (HI.out.2.2.1 p (by omega))
        have gf := HF2.out.1.qb.frozen p
        have e4 : IntKind.u32.wrap (d' : Int) = (d' : Int) := by rw [IntKind.wrap_u32]; omega
        clear hb2 hl2 hs2 he2 hc2 hbut2 hsz2
        go_wp2
        go_roundw
        case rel =>
          refine ⟨i + 1, p, 0, lo ++ W2 ++ hi', Q.set p d', _, by go_num, by omega, rfl, by have := HP.out.2.2.2.2.2.2.2; omega, HF2.out.1.put p d' (by omega), fun j hj => by rw [getD_set_ne _ _ _ _ (by omega)]; exact HI.out.2.2.1 j (by omega), ?_⟩
          exact turn_value Bs_pos HP.out.1.sm.left.left HP.out.2.1 HF2.out.2 HP.out.2.2.2.2.1 HP.out.2.2.2.2.2.1 HN.out.2 HN.out.1 HI.out.2.2.2.1 (HI.out.2.2.1 p (by omega)) (by rw [HP.out.1.ql]; exact hpm)
        case measure => simp [intOf]; omega
    · obtain ⟨hk, ds, _, hval, hlow⟩ := HI.out
      obtain rfl : k = 0 := by omega
      rw [Nat.pow_zero, Nat.one_mul] at hlow
      have hDlt : nv Bs D < Bs ^ (m + 1) := by have := nv_lt Bs_pos HDs.out; rw [HDl.out] at this; exact this
      have hrem : nv Bs (L.take (m + 1)) = nv Bs L := by
        have h1 := nv_split Bs L (m + 1) (by rw [ds.len]; omega)
        rcases Nat.eq_zero_or_pos (nv Bs (L.drop (m + 1))) with h2 | h2
        · rw [h2, Nat.mul_zero, Nat.add_zero] at h1; exact h1.symm
        · exfalso
          have h3 : Bs ^ (m + 1) * 1 ≤ Bs ^ (m + 1) * nv Bs (L.drop (m + 1)) := Nat.mul_le_mul_left _ h2
          rw [Nat.mul_one] at h3
          have h4 : Bs ^ (m + 1) ≤ nv Bs L := by rw [h1]; exact Nat.le_trans h3 (Nat.le_add_left _ _)
          exact absurd (Nat.lt_of_le_of_lt h4 (Nat.lt_trans hlow hDlt)) (Nat.lt_irrefl _)
      rw [HDv.out] at hval hlow
      have HQ : Hid (nv Bs Q = nv Bs X / nv Bs D0 ∧ nv Bs (L.take (m + 1)) / 2 ^ s = nv Bs X % nv Bs D0) := by
        show _ ∧ _
        rw [hrem]
        exact quot_end (Nat.pow_pos (by decide)) hval hlow
      have HDSn : Hid (DS w w0 L Q D m mq) := ds
      have CQ : Hid (∀ r, Calls Tryz.prog 88 #[.slice (some ⟨w.heap.size + 2, 0, none⟩) mq mq] (w0.drewN r) fun e w' => e = .returned (.slice (some ⟨w.heap.size + 2, 0, none⟩) (tl Q) mq) ∧ w' = w0.drewN r) := fun r =>
        proper_any (some ⟨w.heap.size + 2, 0, none⟩) mq mq Q (w0.drewN r) (ds.qb.rn.drewN r) ds.ql.symm (Nat.le_refl _) (by omega)
      have HNL : Hid (Nm w0 (.slice (some ⟨w.heap.size, 0, none⟩) (m + 1) (X.length + 1)) (L.take (m + 1))) := by
        have el : (L.take (m + 1)).length = m + 1 := by rw [List.length_take, ds.len]; omega
        refine ⟨_, X.length + 1, by rw [el], by rw [el]; have := HlX.out; omega, ds.bl.rn.take _, ds.sm.take _⟩
      have HOQ : Hid (Ow w0 w.heap.size (.slice (some ⟨w.heap.size + 2, 0, none⟩) (tl Q) mq) (dg Bs (nv Bs Q))) := by
        have := Bl.proper (w := w0) (base := w.heap.size) (g := w.heap.size + 2) (L := Q) ds.qb ds.qs (by omega) (by rw [ds.ql]; omega)
        rw [ds.ql] at this
        exact this
      have hmX : m + 1 ≤ X.length + 1 := by have := HlX.out; omega
      clear hk ds hval hlow hDlt hrem
      go_wp2
      refine wp_region_tail 7 (by kernel_rfl) (by kernel_rfl) ?_
      simp only [List.take_succ_cons, List.take_zero, List.drop_succ_cons, List.drop_zero]
      repeat (first | go_big_quiet_skip | (go_big_quiet_want; go_big_quiet_op; first | go_big_quiet_on | (apply Exists.intro; refine ⟨CQ.out _, ?_⟩; go_big_quiet_on)))
      refine wpQuiet_nil ?_
      rw [World.drewN_drewN]
      generalize q + 1 = q
      go_wp2_with fail
      refine (shr_pos s (by omega) _ (L.take (m + 1)) (w0.drewN q) (HNL.out.drewN q) (by rw [List.length_take]; omega)).mono ?_
      rintro e w1 ⟨r, rfl, hr, hbr⟩
      have HR : Hid (Ow w1 w0.heap.size r (dg Bs (nv Bs X % nv Bs D0)) ∧ Ow w1 w.heap.size (.slice (some ⟨w.heap.size + 2, 0, none⟩) (tl Q) mq) (dg Bs (nv Bs X / nv Bs D0)) ∧ Below w.heap.size w w1) := by
        rw [HQ.out.2] at hr
        have h8 : Below w0.heap.size w0 w1 := ⟨hbr.os, hbr.tape, hbr.output, hbr.size, hbr.block⟩
        have h9 := HOQ.out.below h8 (Nat.le_refl _)
        rw [HQ.out.1] at h9
        exact ⟨hr, h9, HDSn.out.bel.trans (h8.mono HDSn.out.bel.size)⟩
      clear hr hbr
      go_wp2
      go_ret2
      exact ⟨_, r, w0.heap.size, rfl, HR.out.2.1, HR.out.1, HDSn.out.bel.size, fun g hg => by cases hg; have := HDSn.out.size; show w.heap.size + 2 < _; omega, HR.out.2.2⟩

end Go.Proofs.YtmngdaolgdhgmaaGreatDoor

namespace Go.Proofs.YtmngdaolgdhgmaaGreatDoor
open Go.RowKit

set_option maxHeartbeats 1000000 in
theorem divmod_pos (v u : Value) (xs ys : List Nat) (w : World) (hv : Nm w v xs) (hu : Nm w u ys) (h1 : xs.length ≤ 100000000) (h2 : ys.length ≤ 100000000) (h0 : nv Bs ys ≠ 0) :
    Calls Tryz.prog 93 #[v, u] w fun e w' => ∃ q r b2, e = .returned (.tuple #[q, r, .int .i64 0]) ∧ Ow w' w.heap.size q (dg Bs (nv Bs xs / nv Bs ys)) ∧ Ow w' b2 r (dg Bs (nv Bs xs % nv Bs ys)) ∧ w.heap.size ≤ b2 ∧ (∀ g, q.ownBlock = some g → g < b2) ∧ Below w.heap.size w w' := by
  obtain ⟨ax, cx, X, P1, lx1, lx2, RX, SX, EX⟩ := proper_nm v xs w hv (by omega)
  obtain ⟨ay, cy, Y, P2, ly1, ly2, RY, SY, EY⟩ := proper_nm u ys w hu (by omega)
  have EX' : nv Bs X = nv Bs xs := by rw [EX, dg_nv Bs_two]
  have EY' : nv Bs Y = nv Bs ys := by rw [EY, dg_nv Bs_two]
  have hX : X.length ≤ 100000000 := by omega
  have hY : Y.length ≤ 100000000 := by omega
  have hY0 : Y.length ≠ 0 := fun e => by
    have := List.eq_nil_of_length_eq_zero e
    rw [this] at EY'
    exact h0 EY'.symm
  have HLE : Hid (nv Bs Y ≤ nv Bs X → Y.length ≤ X.length) := fun h => by
    rcases Nat.lt_or_ge X.length Y.length with h3 | h3
    · rw [EX, EY] at h3
      have := dg_mono Bs_two h3
      omega
    · exact h3
  have HXe : Hid (X = dg Bs (nv Bs X)) := by show _ = _; rw [EX']; exact EX
  obtain ⟨m, hm⟩ : ∃ m, Y.length = m + 1 := ⟨Y.length - 1, by omega⟩
  have Htop : Hid (Y.getD m 0 ≠ 0) := by
    show _ ≠ _
    intro e
    have h3 := dg_low Bs_two m (nv Bs ys) (by rw [← EY]; exact hm)
    have e2 := nv_take_succ Bs Y m
    rw [List.take_of_length_le (by omega), e, Nat.mul_zero, Nat.add_zero, EY'] at e2
    have h4 := nv_lt Bs_pos (SY.take m)
    rw [List.length_take, Nat.min_eq_left (by omega), ← e2] at h4
    exact absurd (Nat.lt_of_lt_of_le h4 h3) (Nat.lt_irrefl _)
  rw [← EX', ← EY']
  rw [hm] at P2
  have HRX : Hid (Rn w ax X) := RX
  have HRY : Hid (Rn w ay Y) := RY
  have HSX : Hid (Sm Bs X) := SX
  have HSY : Hid (Sm Bs Y) := SY
  have C := cmp_any ax ay X.length (m + 1) cx cy X Y w RX rfl lx1 RY hm.symm (by omega) SX SY (by omega) (by omega)
  have Hm : Hid (Y.length = m + 1) := hm
  clear EX EY EX' EY' RX RY SX SY hv hu h1 h2 lx1 lx2 ly1 ly2 hY0 hm h0
  by_cases hlt : nv Bs X < nv Bs Y
  · rw [cmp3_lt (by omega)] at C
    have HT : Hid (dg Bs (nv Bs X / nv Bs Y) = [] ∧ nv Bs X % nv Bs Y = nv Bs X) := ⟨by rw [Nat.div_eq_of_lt hlt, dg_zero], Nat.mod_eq_of_lt hlt⟩
    clear hlt
    go_enter Tryz.func93, Tryz.ntmps93
    go_wp2_with fail
    refine P1.mono ?_
    clear P1
    rintro e w ⟨rfl, rfl⟩
    go_wp2_with fail
    refine P2.mono ?_
    clear P2
    rintro e w ⟨rfl, rfl⟩
    go_wp2_with fail
    refine C.mono ?_
    clear C
    rintro e w1 ⟨rfl, q, hq⟩
    have HQ : Hid (w1 = w.drewN q) := hq
    have hws : w1.heap.size = w.heap.size := by rw [hq]; rfl
    have C := copied_any ax X.length cx X.length X w1 (by rw [hq]; exact HRX.out.drewN q) rfl (Nat.le_refl _) (by omega)
    rw [hws] at C
    clear hq hws
    go_wp2_with fail
    refine C.mono ?_
    clear C
    rintro e w2 ⟨rfl, hb, hbel, hsz⟩
    have HB1 : Hid (Below w.heap.size w w2) := (by rw [HQ.out]; exact below_drewN (Below.refl _ _) q : Below w.heap.size w w1).trans hbel
    have HO : Hid (Ow w2 w.heap.size (.slice (some ⟨w.heap.size, 0, none⟩) X.length X.length) X) := by
      rw [Nat.sub_self, List.replicate_zero, List.append_nil] at hb
      have := hb.ow X.length (Nat.le_refl _) (Nat.le_refl w.heap.size) (by omega)
      rw [List.take_of_length_le (Nat.le_refl _)] at this
      exact this
    clear hb hbel hsz
    go_wp2
    go_ret3
    rw [HT.out.1, HT.out.2]
    exact ⟨_, _, w.heap.size, rfl, Ow.nil _ _, by rw [← HXe.out]; exact HO.out, Nat.le_refl _, (fun g hg => by cases hg), HB1.out⟩
  · have hc : cmp3 (nv Bs X) (nv Bs Y) = 0 ∨ cmp3 (nv Bs X) (nv Bs Y) = 1 := by
      rcases Nat.lt_or_ge (nv Bs Y) (nv Bs X) with h | h
      · exact .inr (cmp3_gt (by omega))
      · exact .inl (cmp3_eq (by omega))
    obtain ⟨o, ho, hob⟩ : ∃ o : Int, cmp3 (nv Bs X) (nv Bs Y) = o ∧ decide (o < 0) = false := by
      rcases hc with h | h
      · exact ⟨0, h, by decide⟩
      · exact ⟨1, h, by decide⟩
    rw [ho] at C
    have hle := HLE.out (by omega)
    rw [Hm.out] at hle
    clear ho hc hlt
    go_enter Tryz.func93, Tryz.ntmps93
    go_wp2_with fail
    refine P1.mono ?_
    clear P1
    rintro e w ⟨rfl, rfl⟩
    go_wp2_with fail
    refine P2.mono ?_
    clear P2
    rintro e w ⟨rfl, rfl⟩
    go_wp2_with fail
    refine C.mono ?_
    clear C
    rintro e w1 ⟨rfl, q, hq⟩
    have HQ : Hid (w1 = w.drewN q) := hq
    have C := divide_any ax ay cx cy m (X.length + 1 - (m + 1)) (m + 1) X Y w1 (by rw [hq]; exact HRX.out.drewN q) (by rw [hq]; exact HRY.out.drewN q) HSX.out HSY.out Hm.out rfl (by omega) (by omega) Htop.out hX
    clear hq
    go_wp2_with fail
    refine C.mono ?_
    clear C
    rintro e w2 ⟨qv, rv, b2, rfl, h3, h4, h5, h6, h7⟩
    have hws : w1.heap.size = w.heap.size := by rw [HQ.out]; rfl
    rw [hws] at h3 h5 h7
    have HR : Hid (Ow w2 w.heap.size qv (dg Bs (nv Bs X / nv Bs Y)) ∧ Ow w2 b2 rv (dg Bs (nv Bs X % nv Bs Y)) ∧ w.heap.size ≤ b2 ∧ (∀ g, qv.ownBlock = some g → g < b2) ∧ Below w.heap.size w w2) := ⟨h3, h4, h5, h6, (by rw [HQ.out]; exact below_drewN (Below.refl _ _) q : Below w.heap.size w w1).trans h7⟩
    clear h3 h4 h5 h6 h7 hws
    go_wp2
    go_ret3
    exact ⟨qv, rv, b2, rfl, HR.out⟩

end Go.Proofs.YtmngdaolgdhgmaaGreatDoor

namespace Go.Proofs.YtmngdaolgdhgmaaGreatDoor
open Go.RowKit

theorem bl_limbs (X : List Nat) (m : Nat) (sX : Sm Bs X) (hl : X.length = m + 1) (ht : X.getD m 0 ≠ 0) : bl (nv Bs X) = m * 32 + bl (X.getD m 0) := by
  have e2 := nv_take_succ Bs X m
  rw [List.take_of_length_le (by omega)] at e2
  have h4 := nv_lt Bs_pos (sX.take m)
  rw [List.length_take, Nat.min_eq_left (by omega)] at h4
  have hB : Bs ^ m = 2 ^ (32 * m) := by rw [Nat.pow_mul]; rfl
  have hq : nv Bs X / 2 ^ (32 * m) = X.getD m 0 := by
    rw [← hB, e2, Nat.add_mul_div_left _ _ (Nat.pow_pos Bs_pos), Nat.div_eq_of_lt h4, Nat.zero_add]
  rw [bl_shift (nv Bs X) (32 * m) (by rw [hq]; exact ht), hq]
  omega

theorem dg_top {B : Nat} (hB : 2 ≤ B) (v m : Nat) (h : (dg B v).length = m + 1) : (dg B v).getD m 0 ≠ 0 := by
  intro e
  have h3 := dg_low hB m v h
  have e2 := nv_take_succ B (dg B v) m
  rw [List.take_of_length_le (by omega), e, Nat.mul_zero, Nat.add_zero, dg_nv hB] at e2
  have h4 := nv_lt (by omega) ((dg_sm hB v).take m)
  rw [List.length_take, Nat.min_eq_left (by omega), ← e2] at h4
  omega

set_option maxHeartbeats 400000 in
theorem bits_nm (v : Value) (xs : List Nat) (w : World) (hv : Nm w v xs) (h1 : xs.length ≤ 1000000000) :
    Calls Tryz.prog 67 #[v] w fun e w' => e = .returned (.int .i64 ((bl (nv Bs xs) : Nat) : Int)) ∧ w' = w := by
  obtain ⟨ax, cx, X, P1, lx1, lx2, RX, SX, EX⟩ := proper_nm v xs w hv h1
  have EX' : nv Bs X = nv Bs xs := by rw [EX, dg_nv Bs_two]
  rw [← EX']
  rcases Nat.eq_zero_or_pos X.length with h0 | h0
  · have := List.eq_nil_of_length_eq_zero h0
    subst this
    clear hv h1 lx1 lx2 RX SX EX EX' h0
    rw [List.length_nil] at P1
    go_enter Tryz.func67, Tryz.ntmps67
    go_wp2_with fail
    refine P1.mono ?_
    clear P1
    rintro e w ⟨rfl, rfl⟩
    go_wp2
    go_ret
    exact ⟨rfl, rfl⟩
  · obtain ⟨m, hm⟩ : ∃ m, X.length = m + 1 := ⟨X.length - 1, by omega⟩
    have ht : X.getD m 0 ≠ 0 := by
      rw [EX]
      exact dg_top Bs_two _ m (by rw [← EX]; exact hm)
    have HV : Hid (bl (nv Bs X) = m * 32 + bl (X.getD m 0)) := bl_limbs X m SX hm ht
    obtain ⟨g, off, rfl, _, cc⟩ := RX.cell h0
    have c1 := cc m (by omega)
    obtain ⟨t, Ht⟩ : ∃ t, Hid (X.getD m 0 = t) := ⟨_, rfl⟩
    rw [Ht.out] at c1
    have htb : t < 4294967296 := by rw [← Ht.out, ← Bs_eq]; exact SX.getD Bs_pos m
    have hb : bl t ≤ 32 := by
      have h2 : bl t ≤ bl 4294967295 := bl_mono (by omega)
      exact Nat.le_trans h2 (by decide)
    have C := len_any t w htb
    rw [hm] at P1
    have hmb : m ≤ 1000000000 := by omega
    have HVt : Hid (bl (nv Bs X) = m * 32 + bl t) := by show _ = _; rw [HV.out, Ht.out]
    have e1 : ((m + 1 : Nat) : Int) - 1 = (m : Int) := by omega
    obtain ⟨B, HB⟩ : ∃ B, Hid (bl t = B) := ⟨_, rfl⟩
    rw [HB.out] at C hb HVt
    clear hv h1 lx1 lx2 RX SX EX EX' h0 hm ht HV cc
    go_enter Tryz.func67, Tryz.ntmps67
    go_wp2_with fail
    refine P1.mono ?_
    clear P1
    rintro e w ⟨rfl, rfl⟩
    go_wp2_with fail
    refine C.mono ?_
    clear C
    rintro e w ⟨rfl, rfl⟩
    go_wp2
    go_ret
    rw [HVt.out]
    refine ⟨?_, rfl⟩
    simp

end Go.Proofs.YtmngdaolgdhgmaaGreatDoor
