import Derived.Test.YtefpjjonmoofpaaNtRef2
import Derived.Test.YtefpjjonmoofpaaNtBits
namespace Go.Proofs.Ytefpjjonmoofpaa
open Go.RowKit

theorem proper_of_ge {B : Nat} (hB : 2 ≤ B) {L : List Nat} (hs : Sm B L) (m : Nat) (hl : L.length = m + 1) (h : B ^ m ≤ nv B L) : L = dg B (nv B L) := by
  have h1 := trim_dg hB hs
  have h2 := tl_le L
  have h3 := dg_up hB (nv B L)
  rw [← h1, List.length_take, Nat.min_eq_left h2] at h3
  rcases Nat.lt_or_ge (tl L) (m + 1) with h4 | h4
  · exfalso
    have : B ^ tl L ≤ B ^ m := Nat.pow_le_pow_right (by omega) (by omega)
    omega
  · rw [List.take_of_length_le (by omega)] at h1
    exact h1

theorem bl_half (u : Nat) (h : u ≠ 0) : bl u = bl (u / 2) + 1 := by
  by_cases h1 : u / 2 = 0
  · obtain rfl : u = 1 := by omega
    rfl
  · have := bl_shift u 1 (by rw [Nat.pow_one]; exact h1)
    rw [Nat.pow_one] at this
    exact this

set_option maxHeartbeats 1000000 in
theorem rbits_nm (v : Value) (xs : List Nat) (w : World) (hv : Nm w v xs) (h1 : xs.length ≤ 100000000) :
    Calls Try.prog 12 #[v] w fun e w' => e = .returned (.int .i64 ((bl (nv Bs xs) : Nat) : Int)) ∧ Below w.heap.size w w' := by
  have C := rproper_nm v xs w hv (by omega)
  have L1 : Hid ((dg Bs (nv Bs xs)).length ≤ 100000000) := dgl_arg xs _ hv.sm h1
  clear hv
  go_enter Try.func12, Try.ntmps12
  go_wp2_with fail
  refine C.mono ?_
  clear C
  rintro e w1 ⟨r, rfl, h2, h3⟩
  have HB : Hid (Below w.heap.size w w1) := h3
  obtain ⟨ao, c, rfl, _, hr, hs⟩ := h2.nm (dg_sm Bs_two _)
  rcases Nat.eq_zero_or_pos (dg Bs (nv Bs xs)).length with h0 | h0
  · have HV : Hid (bl (nv Bs xs) = 0) := by
      have h5 := dg_nv Bs_two (nv Bs xs)
      rw [List.eq_nil_of_length_eq_zero h0] at h5
      show _ = _
      rw [← h5]
      rfl
    rw [h0]
    clear h2 h3 hr hs h0
    go_wp2
    go_ret
    rw [HV.out]
    exact ⟨rfl, HB.out⟩
  · obtain ⟨m, hm⟩ : ∃ m, (dg Bs (nv Bs xs)).length = m + 1 := ⟨(dg Bs (nv Bs xs)).length - 1, by omega⟩
    have ht := dg_top Bs_two (nv Bs xs) m hm
    have HV := bl_limbs (dg Bs (nv Bs xs)) m (dg_sm Bs_two _) hm ht
    rw [dg_nv Bs_two] at HV
    obtain ⟨g, off, rfl, _, cc⟩ := hr.cell h0
    have c1 := cc m (by omega)
    have htb : (dg Bs (nv Bs xs)).getD m 0 < 4294967296 := by rw [← Bs_eq]; exact (dg_sm Bs_two _).getD Bs_pos m
    generalize (dg Bs (nv Bs xs)).getD m 0 = t at c1 HV htb ht
    have hmb : m ≤ 100000000 := by have := L1.out; omega
    have HVV : Hid (bl (nv Bs xs) = m * 32 + bl t) := HV
    have hbt : bl t ≤ 32 := by
      have h5 : bl t ≤ bl 4294967295 := bl_mono (by omega)
      exact Nat.le_trans h5 (by decide)
    rw [hm]
    have e1 : ((m + 1 : Nat) : Int) - 1 = (m : Int) := by omega
    clear h2 h3 hr hs h0 cc HV ht hm
    go_wp2
    clear c1
    go_loop [4, 5] (fun s4 s5 => ∃ (o u : Nat), s4 = .int .i64 (o : Int) ∧ s5 = .int .u32 (u : Int) ∧ u ≤ t ∧ o ≤ 10000000000 ∧ Hid (o + bl u = m * 32 + bl t)) (fun _ s => (intOf s).toNat)
    case atStart => exact ⟨m * 32, t, by first | rfl | (congr 1; omega), rfl, Nat.le_refl _, by omega, rfl⟩
    case round =>
      obtain ⟨o, u, rfl, rfl, hu, ho, HI⟩ := hrel
      by_cases h0 : u = 0
      · subst h0
        rw [show ((0 : Nat) : Int) = 0 from rfl]
        go_wp2
        go_ret
        have := HI.out
        rw [bl_zero, Nat.add_zero] at this
        rw [HVV.out, ← this]
        exact ⟨rfl, HB.out⟩
      · have hb1 : decide ((u : Int) > 0) = true := decide_eq_true (by omega)
        have hb2 : decide ((0 : Int) < (u : Int)) = true := decide_eq_true (by omega)
        have hb3 : decide (0 < u) = true := decide_eq_true (by omega)
        have HN : Hid (o + 1 + bl (u / 2) = m * 32 + bl t) := by
          have := HI.out
          rw [bl_half u h0] at this
          show _ = _
          omega
        have hob : o + 1 ≤ 10000000000 := by have := HN.out; omega
        have ed : Int.tdiv (u : Int) 2 = ((u / 2 : Nat) : Int) := by rw [Int.tdiv_eq_ediv_of_nonneg (by omega)]; omega
        go_wp2
        go_round
        case rel =>
          have e2 : (u : Int) / 2 = ((u / 2 : Nat) : Int) := by omega
          exact ⟨o + 1, u / 2, by go_num, by first | rfl | (rw [e2]), by omega, hob, HN⟩
        case measure => simp [intOf]; omega

theorem bit_div (xs : List Nat) (hs : Sm Bs xs) (q s : Nat) : nv Bs xs / 2 ^ (32 * q + s) % 2 = xs.getD q 0 / 2 ^ s % 2 ∨ 32 ≤ s := by
  rcases Nat.lt_or_ge s 32 with h | h
  · left
    rw [nv_getD Bs_pos hs q, Nat.pow_add, Nat.pow_mul, show (2 : Nat) ^ 32 = Bs from rfl, ← Nat.div_div_eq_div_mul]
    generalize nv Bs xs / Bs ^ q = N
    have e : Bs = 2 ^ s * 2 ^ (32 - s) := by rw [← Nat.pow_add, show s + (32 - s) = 32 by omega]; rfl
    rw [e, Nat.mod_mul_right_div_self, Nat.mod_mod_of_dvd]
    exact ⟨2 ^ (32 - s - 1), by rw [← Nat.pow_succ', show (32 - s - 1).succ = 32 - s by omega]⟩
  · exact .inr h

set_option maxHeartbeats 1000000 in
theorem rbit_any (ao : Option Addr) (c k : Nat) (xs : List Nat) (w : World) (hx : Rn w ao xs) (sx : Sm Bs xs) (hl : xs.length ≤ 100000000) (hk : k ≤ 9223372036854775807) :
    Calls Try.prog 13 #[.slice ao xs.length c, .int .i64 (k : Int)] w fun e w' => e = .returned (.bool (decide (nv Bs xs / 2 ^ k % 2 = 1))) ∧ w' = w := by
  obtain ⟨q, hq⟩ : ∃ q, k / 32 = q := ⟨_, rfl⟩
  obtain ⟨s, hs⟩ : ∃ s, k % 32 = s := ⟨_, rfl⟩
  have hs32 : s < 32 := by omega
  have eq1 : Int.tdiv (k : Int) 32 = (q : Int) := by rw [Int.tdiv_eq_ediv_of_nonneg (by omega)]; omega
  have eq2 : (k : Int) / 32 = (q : Int) := by omega
  have es1 : Int.tmod (k : Int) 32 = (s : Int) := by rw [Int.tmod_eq_emod_of_nonneg (by omega)]; omega
  have es2 : (k : Int) % 32 = (s : Int) := by omega
  have hq64 : q ≤ 288230376151711744 := by omega
  have eqw : wrap64 (q : Int) = (q : Int) := by unfold wrap64; omega
  have hk0 : decide ((k : Int) < 0) = false := decide_eq_false (by omega)
  have HV : Hid (nv Bs xs / 2 ^ k % 2 = xs.getD q 0 / 2 ^ s % 2) := by
    have := bit_div xs sx q s
    rw [show 32 * q + s = k by omega] at this
    rcases this with h | h
    · exact h
    · omega
  clear hq hs
  by_cases hlt : q < xs.length
  · obtain ⟨g, off, rfl, _, cc⟩ := hx.cell (by omega)
    have c1 := cc q hlt
    obtain ⟨x, Hx⟩ : ∃ x, Hid (xs.getD q 0 = x) := ⟨_, rfl⟩
    rw [Hx.out] at c1 HV
    have hxb : x < 4294967296 := by rw [← Hx.out, ← Bs_eq]; exact sx.getD Bs_pos q
    have hge : decide ((q : Int) ≥ (xs.length : Int)) = false := decide_eq_false (by omega)
    have hge2 : decide (xs.length ≤ q) = false := decide_eq_false (by omega)
    clear cc hx sx
    go_enter Try.func13, Try.ntmps13
    go_wp2
    clear c1
    go_loop [5, 6] (fun s5 s6 => ∃ (j u : Nat), s5 = .int .u32 (u : Int) ∧ s6 = .int .i64 (j : Int) ∧ j ≤ s ∧ u < 4294967296 ∧ Hid (u = x / 2 ^ j)) (fun _ t => s - (intOf t).toNat)
    case atStart => exact ⟨0, x, rfl, rfl, Nat.zero_le _, hxb, by rw [Nat.pow_zero, Nat.div_one]; rfl⟩
    case round =>
      obtain ⟨j, u, rfl, rfl, hj, hu, HI⟩ := hrel
      by_cases hjs : j < s
      · have HN : Hid (u / 2 = x / 2 ^ (j + 1)) := by show _ = _; rw [HI.out, Nat.div_div_eq_div_mul, Nat.pow_succ]
        have ed : Int.tdiv (u : Int) 2 = ((u / 2 : Nat) : Int) := by rw [Int.tdiv_eq_ediv_of_nonneg (by omega)]; omega
        have hjI : (j : Int) < (s : Int) := by omega
        go_wp2
        go_round
        case rel =>
          have e2 : (u : Int) / 2 = ((u / 2 : Nat) : Int) := by omega
          exact ⟨j + 1, u / 2, by first | rfl | (rw [e2]), by go_num, by omega, by omega, HN⟩
        case measure => simp [intOf]; omega
      · obtain rfl : j = s := by omega
        have HU : Hid (nv Bs xs / 2 ^ k % 2 = u % 2) := by show _ = _; rw [HV.out, HI.out]
        have hjI : ¬ (j : Int) < (j : Int) := by omega
        have em : Int.tmod (u : Int) 2 = ((u % 2 : Nat) : Int) := by rw [Int.tmod_eq_emod_of_nonneg (by omega)]; omega
        go_wp2
        go_ret
        refine ⟨?_, rfl⟩
        rw [HU.out]
        congr 2
        rcases Nat.mod_two_eq_zero_or_one u with h | h
        · have e2 : (u : Int) % 2 = 0 := by omega
          simp [h, e2]
        · have e2 : (u : Int) % 2 = 1 := by omega
          simp [h, e2]
  · have HF : Hid (nv Bs xs / 2 ^ k % 2 = 0) := by show _ = _; rw [HV.out, getD_none _ _ (by omega), Nat.zero_div]
    have hge : decide ((q : Int) ≥ (xs.length : Int)) = true := decide_eq_true (by omega)
    have hge2 : decide (xs.length ≤ q) = true := decide_eq_true (by omega)
    clear hx sx HV
    go_enter Try.func13, Try.ntmps13
    go_wp2
    go_ret
    rw [HF.out]
    exact ⟨rfl, rfl⟩

end Go.Proofs.Ytefpjjonmoofpaa
