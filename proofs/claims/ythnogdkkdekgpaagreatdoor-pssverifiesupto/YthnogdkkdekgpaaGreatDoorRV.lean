import Derived.Test.YthnogdkkdekgpaaGreatDoorRD
import Derived.Test.YthnogdkkdekgpaaGreatDoorRsRKey
import Derived.Test.YthnogdkkdekgpaaGreatDoorNtY5
namespace Go.Proofs.YthnogdkkdekgpaaGreatDoor
open Go.RowKit

/-- What the last i bytes say. -/
def sufV (l : List UInt8) (i : Nat) : Nat := bv (l.drop (l.length - i))
theorem sufV_zero (l : List UInt8) : sufV l 0 = 0 := by unfold sufV; simp [bv]
theorem sufV_full (l : List UInt8) : sufV l l.length = bv l := by unfold sufV; simp
theorem sufV_lt (l : List UInt8) (i : Nat) (hi : i ≤ l.length) : sufV l i < 256 ^ i := by
  unfold sufV
  have := kbv_lt (l.drop (l.length - i))
  rwa [List.length_drop, show l.length - (l.length - i) = i by omega] at this
theorem sufV_succ (l : List UInt8) (i : Nat) (hi : i < l.length) : sufV l (i + 1) = sufV l i + (l[l.length - 1 - i]).toNat * 256 ^ i := by
  unfold sufV
  have e : l.drop (l.length - (i + 1)) = l[l.length - 1 - i] :: l.drop (l.length - i) := by
    rw [List.drop_eq_getElem_cons (by omega)]
    congr 1
    · congr 1; omega
    · congr 1; omega
  rw [e, kbv_cons, List.length_drop, show l.length - (l.length - i) = i by omega, Nat.add_comm]
theorem pow_split4 (p : Nat) : 256 ^ p = Bs ^ (p / 4) * 2 ^ (8 * (p % 4)) := by
  rw [show (2 : Nat) ^ (8 * (p % 4)) = 256 ^ (p % 4) by rw [Nat.pow_mul], Bs_256, ← Nat.pow_mul, ← Nat.pow_add]
  congr 1
  omega
/-- The limb that is filled next has only what stands below. -/
theorem limb_low (P : List Nat) (sP : Sm Bs P) (i : Nat) (h : nv Bs P < 256 ^ i) : P.getD (i / 4) 0 < 2 ^ (8 * (i % 4)) := by
  have h1 : nv Bs P / Bs ^ (i / 4) < 2 ^ (8 * (i % 4)) := by
    apply Nat.div_lt_of_lt_mul
    rw [← pow_split4]
    exact h
  rw [nv_getD Bs_pos sP]
  exact Nat.lt_of_le_of_lt (Nat.mod_le _ _) h1
theorem place_add (P : List Nat) (i c x : Nat) (hp : i / 4 < P.length) (hx : P.getD (i / 4) 0 = x) : nv Bs (P.set (i / 4) (x + c * 2 ^ (8 * (i % 4)))) = nv Bs P + c * 256 ^ i := by
  have h1 := nv_set' Bs P (i / 4) (x + c * 2 ^ (8 * (i % 4))) x hp hx
  have e2 : Bs ^ (i / 4) * (c * 2 ^ (8 * (i % 4))) = c * 256 ^ i := by rw [pow_split4, Nat.mul_left_comm]
  rw [Nat.mul_add, e2] at h1
  generalize Bs ^ (i / 4) * x = t at *
  omega

set_option maxHeartbeats 2000000 in
theorem rnumber_any (ao : Option Addr) (c : Nat) (l : List UInt8) (w : World) (hl : Rd w ao l) (h1 : l.length ≤ 3000000) :
    Calls Tryz.prog 21 #[.slice ao l.length c] w fun e w' => ∃ r, e = .returned r ∧ Re w w' r (bv l) := by
  obtain ⟨N, HN⟩ : ∃ N, Hid ((l.length + 3) / 4 = N) := ⟨_, rfl⟩
  have hN : N ≤ 1000000 := by rw [← HN.out]; omega
  obtain ⟨t3, Ht3⟩ : ∃ t, Hid (l.length + 3 = t) := ⟨_, rfl⟩
  have ht3 : t3 ≤ 3000003 := by rw [← Ht3.out]; omega
  have e1 : (l.length : Int) + 3 = (t3 : Int) := by rw [← Ht3.out]; omega
  have e2 : Int.tdiv (t3 : Int) 4 = (N : Int) := by rw [Int.tdiv_eq_ediv_of_nonneg (by omega), ← HN.out, ← Ht3.out]; omega
  have e3 : (t3 : Int) / 4 = (N : Int) := by rw [← HN.out, ← Ht3.out]; omega
  obtain ⟨wm, hmk, hb, hbel, hsz⟩ := madeU w N (by omega)
  have HMS : Hid (MS w wm w.heap.size N (List.replicate N 0)) := ⟨hb, by simp, Sm.zeros _ Bs_pos, hbel⟩
  have HL : Hid (Rd w ao l) := hl
  clear hb hbel hsz hl
  go_enter Tryz.func21, Tryz.ntmps21
  go_wp2
  clear hmk e1 e2 e3
  go_loopw [4, 5] (fun s _ wr => ∃ (i q : Nat) (P : List Nat) (w0 : World), s = .int .i64 (i : Int) ∧ i ≤ l.length ∧ wr = w0.drewN q ∧ Hid (MS w w0 w.heap.size N P ∧ nv Bs P = sufV l i)) (fun s _ _ => l.length - (intOf s).toNat)
  case atStart => exact ⟨0, 0, _, wm, rfl, Nat.zero_le _, rfl, HMS.out, by rw [nv_zeros, sufV_zero]⟩
  case round =>
    clear HMS
    obtain ⟨i, q, P, w0, rfl, hi, rfl, HI⟩ := hrel
    by_cases hlt : i < l.length
    · obtain ⟨p, hp⟩ : ∃ p, l.length - 1 - i = p := ⟨_, rfl⟩
      have hpl : p < l.length := by omega
      have hll : l ≠ [] := fun e => by rw [e] at hlt; simp at hlt
      obtain ⟨gl, ol, rfl, _, cl⟩ : ∃ g off : Nat, ao = some ⟨g, off, none⟩ ∧ g < w0.heap.size ∧ ∀ j, j < l.length → w0.cell? ⟨g, off + j, none⟩ = some (B (l.getD j 0)) := by
        rcases HL.out.below HI.out.1.bel (Nat.le_refl _) with h | h
        · exact absurd h hll
        · exact h
      have c1 := cl p hpl
      obtain ⟨x, Hx⟩ : ∃ x, Hid (l[p] = x) := ⟨l[p], (rfl : l[p] = l[p])⟩
      rw [List.getD_eq_getElem?_getD, List.getElem?_eq_getElem hpl, Hx.out, Option.getD_some] at c1
      unfold B at c1
      have hxb := x.toNat_lt
      obtain ⟨y, Hy⟩ : ∃ y, Hid (x.toNat = y) := ⟨_, rfl⟩
      rw [Hy.out] at c1 hxb
      obtain ⟨qt, Hqt⟩ : ∃ a, Hid (i / 4 = a) := ⟨_, rfl⟩
      obtain ⟨s0, Hs0⟩ : ∃ a, Hid (i % 4 = a) := ⟨_, rfl⟩
      obtain ⟨s, Hs⟩ : ∃ a, Hid (8 * (i % 4) = a) := ⟨_, rfl⟩
      have hqN : qt < N := by rw [← Hqt.out, ← HN.out]; omega
      have hs4 : s0 < 4 := by rw [← Hs0.out]; omega
      have hs32 : s ≤ 24 := by rw [← Hs.out]; omega
      obtain ⟨z, Hz⟩ : ∃ a, Hid (P.getD qt 0 = a) := ⟨_, rfl⟩
      have hz : z < 4294967296 := by rw [← Hz.out, ← Bs_eq]; exact HI.out.1.sm.getD Bs_pos qt
      have gc := HI.out.1.bl.limb qt z (by rw [HI.out.1.len]; exact hqN) Hz.out
      have gf := HI.out.1.bl.frozen qt
      have ep : (l.length : Int) - 1 - (i : Int) = (p : Int) := by omega
      have eq1 : Int.tdiv (i : Int) 4 = (qt : Int) := by rw [Int.tdiv_eq_ediv_of_nonneg (by omega), ← Hqt.out]; omega
      have eq2 : (i : Int) / 4 = (qt : Int) := by rw [← Hqt.out]; omega
      have er1 : Int.tmod (i : Int) 4 = (s0 : Int) := by rw [Int.tmod_eq_emod_of_nonneg (by omega), ← Hs0.out]; omega
      have er2 : (i : Int) % 4 = (s0 : Int) := by rw [← Hs0.out]; omega
      have er3 : 8 * (s0 : Int) = (s : Int) := by rw [← Hs0.out, ← Hs.out]; omega
      have hP2 : 2 ^ s ≤ 16777216 := Nat.pow_le_pow_right (n := 2) (by decide) hs32
      have hval := HI.out.2
      have hlow := limb_low P HI.out.1.sm i (by rw [hval]; exact sufV_lt l i hi)
      rw [Hqt.out, Hz.out, Hs.out] at hlow
      have hjoin := nat_join s (y * 2 ^ s) z (Nat.mul_mod_left _ _) hlow
      obtain ⟨u, Hu⟩ : ∃ a, Hid (y * 2 ^ s = a) := ⟨_, rfl⟩
      have hu : u < 4294967296 := by
        have : y * 2 ^ s ≤ 255 * 16777216 := Nat.mul_le_mul (by omega) hP2
        rw [← Hu.out]; omega
      rw [Hu.out] at hjoin
      have hor : bits .or .u32 (z : Int) (u : Int) = ((z + u : Nat) : Int) := by rw [u32_or_nat z u hz hu, Nat.or_comm, hjoin, Nat.add_comm]
      have hzu : z + u < 4294967296 := by rw [Nat.add_comm, ← hjoin]; exact Nat.or_lt_two_pow (n := 32) hu hz
      have HV : Hid (nv Bs (P.set qt (z + u)) = sufV l (i + 1)) := by
        have h3 := place_add P i y z (by rw [Hqt.out, HI.out.1.len]; exact hqN) (by rw [Hqt.out]; exact Hz.out)
        rw [Hqt.out, Hs.out, Hu.out] at h3
        show _ = _
        rw [h3, sufV_succ l i hlt, hval]
        simp only [hp]
        rw [Hx.out, Hy.out]
      have eu : (y : Int) * 2 ^ s = (u : Int) := by rw [← Hu.out]; simp
      have euw : IntKind.u32.wrap (u : Int) = (u : Int) := by rw [IntKind.wrap_u32]; omega
      obtain ⟨t, Ht⟩ : ∃ a, Hid (z + u = a) := ⟨_, rfl⟩
      rw [Ht.out] at hor hzu HV
      have hpI : (p : Int) < (l.length : Int) := by omega
      clear cl hP2 hval hlow hjoin hll hp
      go_wp2
      refine wp_region_tail 20 (by kernel_rfl) (by kernel_rfl) ?_
      simp only [List.take_succ_cons, List.take_zero, List.drop_succ_cons, List.drop_zero]
      repeat (first | go_big_quiet_skip | (go_big_quiet_want; go_big_quiet_op; go_big_quiet_on))
      refine wpQuiet_nil ?_
      go_wp2
      go_roundw
      case rel => exact ⟨i + 1, 0, P.set qt t, _, by go_num, by omega, rfl, (HI.out.1.drewN (q + 1)).set qt t hzu, HV.out⟩
      case measure => simp [intOf]; omega
    · obtain rfl : i = l.length := by omega
      have hval := HI.out.2
      rw [sufV_full] at hval
      have MSq := HI.out.1.drewN q
      have hnd : Nd (w0.drewN q) (.slice (some ⟨w.heap.size, 0, none⟩) N N) (bv l) 3000000 := by
        refine ⟨⟨P, ⟨_, N, by rw [MSq.len], by rw [MSq.len]; exact Nat.le_refl _, MSq.bl.rn, MSq.sm⟩, hval, by rw [MSq.len]; omega⟩, fun a n c e e2 => ?_, fun a n c e => ?_⟩
        · cases e; cases e2
        · cases e; omega
      have C3 := dtrim _ (bv l) 3000000 (w0.drewN q) hnd (by decide)
      have HB : Hid (Below w.heap.size w (w0.drewN q)) := MSq.bel
      clear hval MSq hnd
      go_wp2_with fail
      refine C3.mono ?_
      clear C3
      rintro e w1 ⟨r, rfl, hr⟩
      have HR : Hid (Re w w1 r (bv l)) := Re.later HB.out hr
      clear hr
      go_wp2
      go_ret
      exact ⟨r, rfl, HR.out⟩

set_option maxHeartbeats 2000000 in
theorem rpbits_any (v : Value) (V : Nat) (w : World) (hv : Nd w v V 3000000) :
    Calls Tryz.prog 24 #[v] w fun e w' => e = .returned (.int .i64 ((bl V : Nat) : Int)) ∧ w' = w := by
  obtain ⟨⟨xs, ⟨ax, cx, rfl, hcx, hx, sx⟩, hV, hk⟩, hz, hc⟩ := hv
  obtain ⟨n, Hn⟩ : ∃ n, Hid (xs.length = n) := ⟨_, rfl⟩
  rw [Hn.out] at hk
  obtain ⟨F, eF⟩ : ∃ F : Nat, 32 * (n : Int) = (F : Int) := ⟨32 * n, by omega⟩
  have hF : F = 32 * n := by omega
  have hV0 : V < 2 ^ F := by
    have h2 := nv_lt Bs_pos sx
    rw [hV, Hn.out, show Bs ^ n = 2 ^ (32 * n) by rw [Nat.pow_mul]; rfl] at h2
    rw [hF]; exact h2
  have HBit : Hid (∀ k : Nat, k ≤ 100000000 → Calls Tryz.prog 59 #[.slice ax n cx, .int .i64 (k : Int)] w fun e w' => e = .returned (.bool (decide (V / 2 ^ k % 2 = 1))) ∧ w' = w) := fun k hk => by
    have := s7_rbit_any k ax cx xs w hx sx (by omega)
    rwa [Hn.out, hV] at this
  have HV0 : Hid (V < 2 ^ F) := hV0
  have hF2 : F ≤ 96000000 := by omega
  obtain ⟨bV, HbV⟩ : ∃ b, Hid (bl V = b) := ⟨_, rfl⟩
  rw [HbV.out, Hn.out]
  clear hx sx hV hz hc hV0 hF
  go_enter Tryz.func24, Tryz.ntmps24
  go_wp2
  go_loop [3] (fun s => ∃ k : Nat, s = .int .i64 (k : Int) ∧ k ≤ F ∧ Hid (V < 2 ^ k)) (fun s => (intOf s).toNat)
  case atStart => exact ⟨F, rfl, Nat.le_refl _, HV0⟩
  case round =>
    obtain ⟨k, rfl, hk, HK⟩ := hrel
    by_cases h0 : k = 0
    · subst h0
      have hb0 : bV = 0 := by
        rw [← HbV.out]
        have := HK.out
        rw [Nat.pow_zero] at this
        rw [show V = 0 by omega]
        exact bl_zero
      have Hb0 : Hid (bV = 0) := hb0
      clear hb0
      go_wp2
      go_ret
      rw [Hb0.out]
      exact ⟨rfl, rfl⟩
    · obtain ⟨j, rfl⟩ : ∃ j, k = j + 1 := ⟨k - 1, by omega⟩
      have CB := HBit.out j (by omega)
      have ej : ((j + 1 : Nat) : Int) - 1 = (j : Int) := by omega
      have dk : decide (((j + 1 : Nat) : Int) > 0) = true := decide_eq_true (by omega)
      by_cases hb : V / 2 ^ j % 2 = 1
      · rw [decide_eq_true hb] at CB
        have Hbl : Hid (bV = j + 1) := by
          show _ = _
          rw [← HbV.out]
          refine bl_of V (j + 1) HK.out (.inr ?_)
          rw [Nat.add_sub_cancel]
          rcases Nat.lt_or_ge V (2 ^ j) with h2 | h2
          · rw [Nat.div_eq_of_lt h2] at hb; exact absurd hb (by decide)
          · exact h2
        clear hb h0
        go_wp2_with fail
        refine CB.mono ?_
        rintro e w' ⟨rfl, rfl⟩
        clear CB
        go_wp2
        go_ret
        rw [Hbl.out]
        exact ⟨rfl, rfl⟩
      · rw [decide_eq_false hb] at CB
        have HJ : Hid (V < 2 ^ j) := by
          show _ < _
          have h1 := HK.out
          rw [Nat.pow_succ] at h1
          have h2 : V / 2 ^ j < 2 := Nat.div_lt_of_lt_mul h1
          rcases Nat.lt_or_ge V (2 ^ j) with h4 | h4
          · exact h4
          · exfalso
            have h5 := Nat.div_pos h4 (Nat.pow_pos (by decide))
            generalize V / 2 ^ j = zz at *
            omega
        clear hb h0
        go_wp2_with fail
        refine CB.mono ?_
        rintro e w' ⟨rfl, hw'⟩
        clear CB
        subst hw'
        go_wp2
        go_round
        case rel => exact ⟨j, by go_num, by omega, HJ⟩
        case measure => simp [intOf]

end Go.Proofs.YthnogdkkdekgpaaGreatDoor
