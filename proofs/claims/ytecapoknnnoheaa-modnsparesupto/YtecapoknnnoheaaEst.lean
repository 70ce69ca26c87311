import Derived.Test.YtecapoknnnoheaaShr
import Derived.Test.YtecapoknnnoheaaEstM
import Derived.WalkMore
namespace Go.Proofs.Ytecapoknnnoheaa
open Go.RowKit

theorem est_bound {top head g left : Nat} (h1 : g * top + left = head) (ht : head ≤ top * 4294967296 + 4294967295) (hl : 4294967296 ≤ left) : g < 4294967296 := by
  rcases Nat.lt_or_ge g 4294967296 with h | h
  · exact h
  · exfalso
    have : 4294967296 * top ≤ g * top := Nat.mul_le_mul_right _ h
    omega

set_option maxHeartbeats 2000000 in
theorem estimate_any (aw ad : Option Addr) (m cw cd : Nat) (W D : List Nat) (w : World) (hW : Rn w aw W) (hD : Rn w ad D) (sW : Sm Bs W) (sD : Sm Bs D) (lW : W.length = m + 2) (lD : D.length = m + 1) (ht : 2147483648 ≤ D.getD m 0) (hlt : nv Bs W < Bs * nv Bs D) (hm : m ≤ 1000000000) :
    Calls Try.prog 72 #[.slice aw (m + 2) cw, .slice ad (m + 1) cd] w fun e w' => ∃ d : Nat, e = .returned (.int .u64 (d : Int)) ∧ d ≤ 4294967295 ∧ nv Bs W < (d + 1) * nv Bs D ∧ d * nv Bs D ≤ nv Bs W + nv Bs D ∧ ∃ q, w' = w.drewN q := by
  obtain ⟨d', hd1, hd2⟩ := top_split Bs_pos D sD m lD
  obtain ⟨w'', hw1, hw2⟩ := win_split Bs_pos W sW m lW
  have htop := win_top Bs_pos W D sD m lW lD hlt
  obtain ⟨top, Htop⟩ : ∃ x, Hid (D.getD m 0 = x) := ⟨_, rfl⟩
  obtain ⟨next, Hnext⟩ : ∃ x, Hid ((if m = 0 then 0 else D.getD (m - 1) 0) = x) := ⟨_, rfl⟩
  obtain ⟨x1, Hx1⟩ : ∃ x, Hid (W.getD (m + 1) 0 = x) := ⟨_, rfl⟩
  obtain ⟨x0, Hx0⟩ : ∃ x, Hid (W.getD m 0 = x) := ⟨_, rfl⟩
  obtain ⟨x2, Hx2⟩ : ∃ x, Hid ((if m = 0 then 0 else W.getD (m - 1) 0) = x) := ⟨_, rfl⟩
  have b1 : top < 4294967296 := by rw [← Htop.out, ← Bs_eq]; exact sD.getD Bs_pos m
  have b2 : next < 4294967296 := by rw [← Hnext.out, ← Bs_eq]; split; exact Bs_pos; exact sD.getD Bs_pos _
  have b3 : x1 < 4294967296 := by rw [← Hx1.out, ← Bs_eq]; exact sW.getD Bs_pos _
  have b4 : x0 < 4294967296 := by rw [← Hx0.out, ← Bs_eq]; exact sW.getD Bs_pos _
  have b5 : x2 < 4294967296 := by rw [← Hx2.out, ← Bs_eq]; split; exact Bs_pos; exact sW.getD Bs_pos _
  rw [Htop.out, Hnext.out] at hd1
  rw [Hx1.out, Hx0.out, Hx2.out] at hw1
  rw [Htop.out] at ht htop
  rw [Hx1.out] at htop
  obtain ⟨head, Hhead⟩ : ∃ x, Hid (x1 * 4294967296 + x0 = x) := ⟨_, rfl⟩
  have HE : Hid (Es Bs (Bs ^ (m + 1)) (top * Bs + next) d' (head * Bs + x2) w'' (nv Bs D * (Bs * Bs)) (nv Bs W * (Bs * Bs))) := ⟨hd1, hd2, by rw [← Hhead.out, ← Bs_eq]; exact hw1, hw2⟩
  have hh : head ≤ top * 4294967296 + 4294967295 := by have := Hhead.out; omega
  have hh2 : head < 18446744073709551616 := by omega
  have Hlt : Hid (nv Bs W < Bs * nv Bs D) := hlt
  obtain ⟨gd, od, rfl, _, cD⟩ := hD.cell (by omega)
  obtain ⟨gw, ow, rfl, _, cW⟩ := hW.cell (by omega)
  have k1 := cD m (by omega)
  have k2 := cW (m + 1) (by omega)
  have k3 := cW m (by omega)
  rw [Htop.out] at k1
  rw [Hx1.out] at k2
  rw [Hx0.out] at k3
  have CD : Hid (∀ q, Calls Try.prog 63 #[.slice (some ⟨gd, od, none⟩) (m + 1) cd, .int .i64 ((m : Int) - 1)] (w.drewN q) fun e w' => e = .returned (.int .u32 (next : Int)) ∧ w' = w.drewN q) := fun q => by
    have := at_any (some ⟨gd, od, none⟩) (m + 1) cd ((m : Int) - 1) D (w.drewN q) (hD.drewN q) lD.symm
    rw [← Hnext.out]
    rcases m with _ | m
    · exact this
    · rw [if_neg (by omega), show (((m + 1 : Nat) : Int) - 1).toNat = m by omega] at this
      rw [if_neg (by omega), Nat.add_sub_cancel]
      exact this
  have CW : Hid (∀ q, Calls Try.prog 63 #[.slice (some ⟨gw, ow, none⟩) (m + 2) cw, .int .i64 ((m : Int) - 1)] (w.drewN q) fun e w' => e = .returned (.int .u32 (x2 : Int)) ∧ w' = w.drewN q) := fun q => by
    have := at_any (some ⟨gw, ow, none⟩) (m + 2) cw ((m : Int) - 1) W (w.drewN q) (hW.drewN q) lW.symm
    rw [← Hx2.out]
    rcases m with _ | m
    · exact this
    · rw [if_neg (by omega), show (((m + 1 : Nat) : Int) - 1).toNat = m by omega] at this
      rw [if_neg (by omega), Nat.add_sub_cancel]
      exact this
  have eor := or_pair x1 x0 b3 b4
  rw [Hhead.out] at eor
  clear hd1 hd2 hw1 hw2 hW hD sW sD lW lD hlt cD cW Htop Hnext Hx1 Hx0 Hx2
  have e1 : (m : Int) + 1 - 2 = (m : Int) - 1 := by omega
  have htp : (0 : Int) < (top : Int) := by omega
  have htn : ((top : Int) == 0) = false := by simp; omega
  go_enter Try.func72, Try.ntmps72
  go_wp2
  go_step3
  go_wp2
  go_quiet ((refine (CD.out _).mono ?_; rintro e w' ⟨rfl, rfl⟩; exact ⟨rfl, _, rfl⟩))
  go_wp2
  go_quiet (fail)
  go_wp2
  obtain ⟨g0, Hg0⟩ : ∃ g, Hid (head / top = g) := ⟨_, rfl⟩
  obtain ⟨l0, Hl0⟩ : ∃ g, Hid (head % top = g) := ⟨_, rfl⟩
  have q1 : Int.tdiv (head : Int) (top : Int) = (g0 : Int) := by rw [Int.tdiv_eq_ediv_of_nonneg (by omega), ← Hg0.out]; simp
  have q2 : Int.tmod (head : Int) (top : Int) = (l0 : Int) := by rw [Int.tmod_eq_emod_of_nonneg (by omega), ← Hl0.out]; simp
  have q3 : (head : Int) / (top : Int) = (g0 : Int) := by rw [← Hg0.out]; simp
  have q4 : (head : Int) % (top : Int) = (l0 : Int) := by rw [← Hl0.out]; simp
  have hl0 : l0 < top := by rw [← Hl0.out]; exact Nat.mod_lt _ (by omega)
  have HI0 : Hid (g0 * top + l0 = head) := by show _ = _; rw [← Hg0.out, ← Hl0.out, Nat.mul_comm]; exact Nat.div_add_mod _ _
  have hg0 : g0 ≤ 8589934592 := by
    have h := HI0.out
    rcases Nat.lt_or_ge 8589934592 g0 with h1 | h1
    · have : 8589934592 * top ≤ g0 * top := Nat.mul_le_mul_right _ (by omega)
      omega
    · exact h1
  have q5 : IntKind.u64.wrap (g0 : Int) = (g0 : Int) := by rw [IntKind.wrap_u64]; omega
  have q6 : IntKind.u64.wrap (l0 : Int) = (l0 : Int) := by rw [IntKind.wrap_u64]; omega
  have HS0 : Hid (nv Bs W < (g0 + 1) * nv Bs D) := (mul_sq_lt Bs_pos).1 (HE.out.start (by rw [Bs_eq]; exact b5) g0 (by rw [Nat.add_mul, Nat.one_mul]; have := HI0.out; omega))
  clear Hg0 Hl0
  go_quiet (fail)
  go_wp2
  go_step3
  go_wp2
  clear q1 q2 q3 q4 q5 q6
  go_loopw [9, 10] (fun s9 s10 wr => ∃ (g left : Nat) (gi li : Int), s9 = .int .u64 gi ∧ s10 = .int .u64 li ∧ Hid (gi = (g : Int) ∧ li = (left : Int)) ∧ 0 ≤ gi ∧ gi ≤ 8589934592 ∧ 0 ≤ li ∧ li < 8589934592 ∧ (∃ q, wr = w.drewN q) ∧ Hid (g * top + left = head ∧ nv Bs W < (g + 1) * nv Bs D)) (fun s _ _ => (intOf s).toNat)
  case atStart => exact ⟨g0, l0, _, _, rfl, rfl, ⟨rfl, rfl⟩, by omega, by omega, by omega, by omega, ⟨_, by rw [World.drewN_drewN, World.drewN_drewN]⟩, HI0.out, HS0.out⟩
  case round =>
    clear HI0 HS0 hg0 hl0
    obtain ⟨g, left, gi, li, rfl, rfl, HGL, hg0, hg, hle0, hle, ⟨q, rfl⟩, HI⟩ := hrel
    obtain ⟨hgi, hli⟩ := HGL.out
    by_cases h1 : 4294967296 ≤ left
    · have hB1 : decide (li ≥ 4294967296) = true := decide_eq_true (by omega)
      have HG : Hid (g < 4294967296) := est_bound HI.out.1 hh h1
      have HO : Hid (g * nv Bs D ≤ nv Bs W + nv Bs D) := mul_sq_le Bs_pos (HE.out.stop g left HI.out.1 (by
          have h3 : g * next ≤ 4294967296 * 4294967296 := Nat.mul_le_mul (Nat.le_of_lt HG.out) (by omega)
          have h4 : 4294967296 * 4294967296 ≤ left * Bs := Nat.mul_le_mul h1 (by rw [Bs_eq]; omega)
          omega) (by have := HG.out; rw [Bs_eq]; omega))
      clear h1 hgi hli
      go_wp2
      rw [Exit.noGoto_ret]
      go_ret
      exact ⟨g, by rw [HGL.out.1]; rfl, by have := HG.out; omega, HI.out.2, HO.out, q, rfl⟩
    · have hB1 : decide (li ≥ 4294967296) = false := decide_eq_false (by omega)
      by_cases h2 : 4294967296 ≤ g
      · have hB2 : decide (gi < 4294967296) = false := decide_eq_false (by omega)
        obtain ⟨g', rfl⟩ : ∃ g', g = g' + 1 := ⟨g - 1, by omega⟩
        have HN : Hid (g' * top + (left + top) = head ∧ nv Bs W < (g' + 1) * nv Bs D) := by
          have h3 := HI.out.1
          rw [Nat.add_mul, Nat.one_mul] at h3
          refine ⟨by omega, Nat.lt_of_lt_of_le Hlt.out (Nat.mul_le_mul_right _ (by rw [Bs_eq]; exact h2))⟩
        have HW1 : Hid ((IntKind.u64.wrap (gi - 1) = (g' : Int) ∧ gi - 1 = (g' : Int)) ∧ (li + (top : Int) = ((left + top : Nat) : Int) ∧ IntKind.u64.wrap (li + (top : Int)) = ((left + top : Nat) : Int)) ∧ g' ≤ 8589934592 ∧ left + top < 8589934592) := ⟨⟨by rw [IntKind.wrap_u64]; omega, by omega⟩, ⟨by omega, by rw [IntKind.wrap_u64]; omega⟩, by omega, by omega⟩
        clear HI h1 h2 hgi hli HGL
        go_wp2
        go_roundw
        case rel =>
          obtain ⟨⟨a1, a2⟩, ⟨a3, a4⟩, a5, a6⟩ := HW1.out
          exact ⟨g', left + top, _, _, rfl, rfl, ⟨by first | exact a1 | exact a2, by first | exact a3 | exact a4⟩, by first | (rw [a1]; omega) | omega, by first | (rw [a1]; omega) | omega, by omega, by omega, ⟨q, rfl⟩, HN⟩
        case measure =>
          have a0 := HW1.out
          simp only [intOf]
          omega
      · have hB2 : decide (gi < 4294967296) = true := decide_eq_true (by omega)
        obtain ⟨z, Hz⟩ : ∃ z, Hid (g * next = z) := ⟨_, rfl⟩
        have hz : z ≤ 18446744065119617025 := by rw [← Hz.out]; exact mul_lt_sq (by omega) (by omega)
        have ez : gi * (next : Int) = (z : Int) := by rw [hgi, ← Hz.out]; simp
        have ezw : IntKind.u64.wrap (z : Int) = (z : Int) := by rw [IntKind.wrap_u64]; omega
        have eo := or_pair left x2 (by omega) b5
        rw [← hli] at eo
        obtain ⟨t, Ht⟩ : ∃ t, Hid (left * 4294967296 + x2 = t) := ⟨_, rfl⟩
        rw [Ht.out] at eo
        have htt := Ht.out
        have elw : IntKind.u64.wrap (li * 4294967296) = li * 4294967296 := by rw [IntKind.wrap_u64]; omega
        by_cases h3 : z ≤ t
        · have hB3 : decide ((z : Int) ≤ (t : Int)) = true := decide_eq_true (by omega)
          have hB4 : decide (z ≤ t) = true := decide_eq_true h3
          have HO : Hid (g * nv Bs D ≤ nv Bs W + nv Bs D) := mul_sq_le Bs_pos (HE.out.stop g left HI.out.1 (by rw [Hz.out, Bs_eq, htt]; exact h3) (by rw [Bs_eq]; omega))
          have HG : Hid (g ≤ 4294967295) := by show _ ≤ _; omega
          clear h3 h2 h1 hgi hli htt
          go_wp2_with fail
          refine (CW.out q).mono ?_
          rintro e w1 ⟨rfl, rfl⟩
          go_wp2
          rw [Exit.noGoto_ret]
          go_ret
          exact ⟨g, by rw [HGL.out.1]; rfl, HG.out, HI.out.2, HO.out, q, rfl⟩
        · have hB3 : decide ((z : Int) ≤ (t : Int)) = false := decide_eq_false (by omega)
          have hB4 : decide (z ≤ t) = false := decide_eq_false h3
          have hg1 : g ≠ 0 := fun e => by have h4 := Hz.out; rw [e, Nat.zero_mul] at h4; omega
          obtain ⟨g', rfl⟩ : ∃ g', g = g' + 1 := ⟨g - 1, by omega⟩
          have HN : Hid (g' * top + (left + top) = head ∧ nv Bs W < (g' + 1) * nv Bs D) := by
            have h4 := HI.out.1
            rw [Nat.add_mul, Nat.one_mul] at h4
            refine ⟨by omega, (mul_sq_lt Bs_pos).1 (HE.out.step (g' + 1) left HI.out.1 (by rw [Hz.out, Bs_eq]; omega))⟩
          have HW1 : Hid ((IntKind.u64.wrap (gi - 1) = (g' : Int) ∧ gi - 1 = (g' : Int)) ∧ (li + (top : Int) = ((left + top : Nat) : Int) ∧ IntKind.u64.wrap (li + (top : Int)) = ((left + top : Nat) : Int)) ∧ g' ≤ 8589934592 ∧ left + top < 8589934592) := ⟨⟨by rw [IntKind.wrap_u64]; omega, by omega⟩, ⟨by omega, by rw [IntKind.wrap_u64]; omega⟩, by omega, by omega⟩
          clear HI h3 h2 h1 hg1 hgi hli HGL htt
          go_wp2_with fail
          refine (CW.out q).mono ?_
          rintro e w1 ⟨rfl, rfl⟩
          go_wp2
          go_roundw
          case rel =>
            obtain ⟨⟨a1, a2⟩, ⟨a3, a4⟩, a5, a6⟩ := HW1.out
            exact ⟨g', left + top, _, _, rfl, rfl, ⟨by first | exact a1 | exact a2, by first | exact a3 | exact a4⟩, by first | (rw [a1]; omega) | omega, by first | (rw [a1]; omega) | omega, by omega, by omega, ⟨q, rfl⟩, HN⟩
          case measure =>
            have a0 := HW1.out
            simp only [intOf]
            omega

end Go.Proofs.Ytecapoknnnoheaa
