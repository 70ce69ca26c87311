import Derived.Test.YtgkbbcoagnilgabDoorLay
import Derived.Test.YtgkbbcoagnilgabDoorShelfL
import Derived.Deep.QuietTactic
import Derived.BigQuiet
import Derived.Lib.ItoaNum
namespace Go.Proofs.YtgkbbcoagnilgabDoor
open Go.RowKit Go.Shelf

theorem or64w (a x : Nat) (ha : a < 4294967296) (hx : x < 4294967296) : bits .or .u64 ((a : Int) * 4294967296) (x : Int) = ((a * 4294967296 + x : Nat) : Int) := by
  have e : ((a : Int) * 4294967296) = ((a * 4294967296 : Nat) : Int) := by omega
  rw [e, u64_or_nat _ _ (by omega) (by omega), nat_join 32 (a * 4294967296) x (by omega) (by omega)]

theorem infoU : (Tryd.prog.info? 23).map (fun i => (i.zero, i.size, i.bytes)) = some (some (.int .u32 0), 1, 4) := by kernel_rfl

theorem Fx.drewN {W : World} {b : Nat} {xs : List Nat} (h : Fx W b xs) (n : Nat) : Fx (W.drewN n) b xs := h

theorem low_slice (bF t : Nat) (w : World) (h : t ≤ 10) :
    (Instr.sliceAt 69 (.pointer (some ⟨bF, 0, none⟩)) none (some (.int .i64 (t : Int))) none).run Tryd.prog w = .ok (.slice (some ⟨bF, 0, none⟩) t 10) w := by
  rw [run_sliceAt_array_h w 69 ⟨bF, 0, none⟩ (by kernel_rfl) .i64 (t : Int) (by omega) (by rw [show Tryd.prog.arrayLen 69 = 10 from by kernel_rfl]; omega)]
  have e : Tryd.prog.arrayLen 69 = 10 := by kernel_rfl
  have e0 : Tryd.prog.elem 69 = 23 := by kernel_rfl
  obtain ⟨i0, hi, _⟩ := info_parts infoU
  rw [e, e0, run_sizeOf w hi, show Tryd.prog.cellsOf 23 = 1 from by kernel_rfl]
  show Result.ok (slicedAt _ _ _ _ 1) w = _
  unfold slicedAt
  simp [Addr.add]

theorem u32_eq (a b : Int) (h : a = b) : Ending.returned (.int .u32 a) = Ending.returned (.int .u32 b) := by rw [h]
theorem min_cast (a : Int) (b : Nat) (h : a = (b : Int)) : min a 2139095040 = ((min b 2139095040 : Nat) : Int) := by rw [h]; omega
theorem fin_one (k s1 q : Nat) (h : 11 ≤ 32 * k + (s1 + 1)) : min (((k : Int) * 32 + ((s1 : Int) + 1) - 11) * 8388608 + ((q : Int) + 1)) 2139095040 = ((min ((32 * k + (s1 + 1) - 11) * 8388608 + q + 1) 2139095040 : Nat) : Int) := min_cast _ _ (by omega)
theorem fin_nul (k s1 q : Nat) (h : 11 ≤ 32 * k + (s1 + 1)) : min (((k : Int) * 32 + ((s1 : Int) + 1) - 11) * 8388608 + (q : Int)) 2139095040 = ((min ((32 * k + (s1 + 1) - 11) * 8388608 + q + 0) 2139095040 : Nat) : Int) := min_cast _ _ (by omega)

theorem bl_bounds (x : Nat) (h : x < 18446744073709551616) (h0 : x ≠ 0) : 1 ≤ Lib.bitLen x ∧ 2 ^ (Lib.bitLen x - 1) ≤ x ∧ x < 2 ^ Lib.bitLen x := Lib.bitLenAux_bounds 64 x h h0

/-- Where the window is cut. -/
theorem shift_ok (Wd Ln k s1 : Nat) (hW : Wd < 18446744073709551616) (hL : Ln = Lib.bitLen Wd) (hk : 1 ≤ k → 4294967296 ≤ Wd) (hs : (s1 : Int) + 1 = max ((Ln : Int) - 23 - 1) (11 - (k : Int) * 32)) :
    8 ≤ s1 ∧ s1 ≤ 39 ∧ 11 ≤ 32 * k + (s1 + 1) ∧ Wd / 2 ^ (s1 + 1) < 16777216 ∧ (8388608 ≤ Wd / 2 ^ (s1 + 1) ∨ 32 * k + (s1 + 1) = 11) := by
  have hL64 : Ln ≤ 64 := by rw [hL]; exact Lib.bitLen_le Wd 64 (by decide) hW
  have hup : Wd < 2 ^ Ln := by
    by_cases h0 : Wd = 0
    · rw [h0]; exact Nat.pow_pos (by decide)
    · rw [hL]; exact (bl_bounds Wd hW h0).2.2
  have hlo : Wd ≠ 0 → 2 ^ (Ln - 1) ≤ Wd := fun h0 => by rw [hL]; exact (bl_bounds Wd hW h0).2.1
  have h33 : 1 ≤ k → 33 ≤ Ln := fun h1 => by
    have h2 := hk h1
    apply Nat.le_of_not_lt
    intro h3
    have h4 : 2 ^ Ln ≤ 2 ^ 32 := Nat.pow_le_pow_right (by decide) (by omega)
    omega
  have h24 : Ln ≤ s1 + 1 + 24 := by omega
  have hq : Wd / 2 ^ (s1 + 1) < 16777216 := by
    apply Nat.div_lt_of_lt_mul
    have h4 : 2 ^ Ln ≤ 2 ^ (s1 + 1 + 24) := Nat.pow_le_pow_right (by decide) h24
    rw [Nat.pow_add _ (s1 + 1)] at h4
    exact Nat.lt_of_lt_of_le hup h4
  refine ⟨?_, ?_, ?_, hq, ?_⟩
  · by_cases h1 : 1 ≤ k
    · have := h33 h1; omega
    · omega
  · omega
  · omega
  · by_cases h1 : 32 * k + (s1 + 1) = 11
    · exact .inr h1
    · left
      have e : Ln = s1 + 1 + 24 := by
        by_cases h1 : 1 ≤ k
        · have := h33 h1; omega
        · omega
      have h0 : Wd ≠ 0 := by
        intro h0
        rw [h0] at hL
        have : Ln = 0 := by rw [hL]; decide
        omega
      have h5 := hlo h0
      rw [e, show s1 + 1 + 24 - 1 = (s1 + 1) + 23 by omega, Nat.pow_add] at h5
      exact (Nat.le_div_iff_mul_le (Nat.pow_pos (by decide))).2 (by rw [Nat.mul_comm]; exact h5)

theorem wrap_pow (s : Nat) (h : s < 64) : IntKind.u64.wrap (2 ^ s) = ((2 ^ s : Nat) : Int) := by
  have h1 : 2 ^ s ≤ 2 ^ 63 := Nat.pow_le_pow_right (by decide) (by omega)
  have e : (2 : Int) ^ s = ((2 ^ s : Nat) : Int) := by rw [Int.natCast_pow]; rfl
  rw [e, IntKind.wrap_u64]
  generalize 2 ^ s = X at h1
  omega

theorem div_pow (A s : Nat) : (A : Int) / 2 ^ s = ((A / 2 ^ s : Nat) : Int) := by
  have e : (2 : Int) ^ s = ((2 ^ s : Nat) : Int) := by rw [Int.natCast_pow]; rfl
  rw [e]; rfl

theorem and_pow (A s : Nat) (hA : A < 18446744073709551616) (hs : s < 64) : bits .and .u64 (A : Int) (((2 ^ s : Nat) : Int) - 1) = ((A % 2 ^ s : Nat) : Int) := by
  have h0 : 0 < 2 ^ s := Nat.pow_pos (by decide)
  have h1 : 2 ^ s ≤ 2 ^ 63 := Nat.pow_le_pow_right (by decide) (by omega)
  have e : (((2 ^ s : Nat) : Int) - 1) = ((2 ^ s - 1 : Nat) : Int) := by omega
  rw [e, u64_and_nat A (2 ^ s - 1) hA (by omega), Nat.and_two_pow_sub_one_eq_mod]

/-- The number, by its two top limbs and what is below. -/
theorem top_two (xs : List Nat) (k x y Wn : Nat) (hx : xs.getD (k + 1) 0 = x) (hy : xs.getD k 0 = y) (hW : Wn = x * 4294967296 + y) : wv 4294967296 0 xs (k + 1 + 1) = Wn * 2 ^ (32 * k) + wv 4294967296 0 xs k := by
  show xs.getD (0 + (k + 1)) 0 * 4294967296 ^ (k + 1) + (xs.getD (0 + k) 0 * 4294967296 ^ k + wv 4294967296 0 xs k) = _
  rw [Nat.zero_add, Nat.zero_add, hx, hy, hW, Nat.pow_mul, show (2 : Nat) ^ 32 = 4294967296 from rfl, Nat.pow_succ, Nat.add_mul, ← Nat.add_assoc, Nat.mul_assoc x, Nat.mul_comm 4294967296]

theorem low_lt (xs : List Nat) (hs : smallL xs) (k : Nat) (hk : k ≤ xs.length) : wv 4294967296 0 xs k < 2 ^ (32 * k) := by
  rw [Nat.pow_mul, show (2 : Nat) ^ 32 = 4294967296 from rfl]
  exact wv_lt 4294967296 0 xs hs (by decide) k (by omega)

set_option maxRecDepth 10000 in
set_option maxHeartbeats 4000000 in
theorem round_any (bF : Nat) (xs : List Nat) (w : World) (hF : Fx w bF xs) (hl : xs.length = 10) (hs : smallL xs) :
    Calls Tryd.prog 38 #[.pointer (some ⟨bF, 0, none⟩)] w fun e w' => ∃ b : Nat, e = .returned (.int .u32 (b : Int)) ∧ Rnd (wv 4294967296 0 xs 10) 1 b ∧ ∃ q, w' = w.drewN q := by
  have HF : Hid (Fx w bF xs) := hF
  have Hs : Hid (smallL xs) := hs
  have hl1 : xs.length ≤ 10 := by omega
  have hl2 : 10 ≤ xs.length := by omega
  clear hF hs hl
  go_enter Tryd.func38, Tryd.ntmps38
  go_wp2
  go_loop [3] (fun s3 => ∃ t : Nat, s3 = .int .i64 (t : Int) ∧ 1 ≤ t ∧ t ≤ 9 ∧ Hid (wv 4294967296 0 xs 10 = wv 4294967296 0 xs (t + 1))) (fun s => (intOf s).toNat)
  case atStart => exact ⟨9, rfl, by decide, by decide, rfl⟩
  case round =>
    obtain ⟨t, rfl, ht1, ht9, Hv⟩ := hrel
    have hjt : t < xs.length := by omega
    obtain ⟨x, hx⟩ : ∃ x, xs[t] = x := ⟨_, rfl⟩
    have gt := HF.out.cell t hjt
    rw [hx] at gt
    have hxs : x < 4294967296 := by rw [← hx]; exact smallL_get Hs.out t hjt
    have Hxg : Hid (xs.getD t 0 = x) := by show _ = _; rw [List.getD_eq_getElem?_getD, List.getElem?_eq_getElem hjt, Option.getD_some, hx]
    clear hx
    by_cases hgo : 1 < t ∧ x = 0
    · obtain ⟨h1, h2⟩ := hgo
      subst h2
      have Hv2 : Hid (wv 4294967296 0 xs 10 = wv 4294967296 0 xs (t - 1 + 1)) := by
        show _ = _
        rw [Hv.out, Nat.sub_add_cancel ht1]
        show xs.getD (0 + t) 0 * _ + _ = _
        rw [Nat.zero_add, Hxg.out, Nat.zero_mul, Nat.zero_add]
      go_wp2
      go_round
      case rel => exact ⟨t - 1, by go_num, by omega, by omega, Hv2⟩
      case measure => simp [intOf]; omega
    · have hend : t = 1 ∨ x ≠ 0 := by omega
      obtain ⟨k, hk⟩ : ∃ k, t = k + 1 := ⟨t - 1, by omega⟩
      subst hk
      have hjk : k < xs.length := by omega
      obtain ⟨y, hy⟩ : ∃ y, xs[k] = y := ⟨_, rfl⟩
      have gk := HF.out.cell k hjk
      rw [hy] at gk
      have hys : y < 4294967296 := by rw [← hy]; exact smallL_get Hs.out k hjk
      have Hyg : Hid (xs.getD k 0 = y) := by show _ = _; rw [List.getD_eq_getElem?_getD, List.getElem?_eq_getElem hjk, Option.getD_some, hy]
      clear hy
      have hor := or64w x y hxs hys
      have hWl : x * 4294967296 + y < 18446744073709551616 := by omega
      obtain ⟨Wn, hWn⟩ : ∃ Wn, Wn = x * 4294967296 + y := ⟨_, rfl⟩
      have HWn : Hid (Wn = x * 4294967296 + y) := hWn
      rw [← hWn] at hor hWl
      have Hlow : Hid (zeros ((xs.drop 0).take k) = true ↔ wv 4294967296 0 xs k = 0) := zeros_iff 4294967296 0 (by decide) xs k (by omega)
      obtain ⟨zb, hzb⟩ : ∃ zb, zeros ((xs.drop 0).take k) = zb := ⟨_, rfl⟩
      have Hiz : Hid (∀ W, Fx W bF xs → Calls Tryd.prog 56 #[.slice (some ⟨bF, 0, none⟩) k 10] W fun e w' => e = .returned (.bool zb) ∧ w' = W) := fun W h => by rw [← hzb]; exact isZero_any bF 0 k 10 xs W h (by omega) (by omega) Hs.out
      have hz0 : k = 0 → zb = true := fun h => by rw [← hzb, h]; rfl
      rw [hzb] at Hlow
      have hor1 := u64_or_nat Wn 1 hWl (by decide)
      clear hzb
      by_cases h1 : k = 0
      · obtain rfl : zb = true := hz0 h1
        have hk0 : k ≤ 0 := by omega
        obtain ⟨Wd, hWd⟩ : ∃ Wd, Wd = Wn := ⟨_, rfl⟩
        subst hWd
        have hWk : 1 ≤ k → 4294967296 ≤ Wd := fun h => by omega
        clear hgo hend hWn hz0 hor1 h1
        have Hstk : Hid (stk Wd (wv 4294967296 0 xs k) = Wd) := by show _ = _; unfold stk; rw [if_pos (Hlow.out.1 rfl)]
        have hWd2 : Wd < 18446744073709551616 := hWl
        have hk1 : ¬ 1 < k + 1 := by omega
        have hk2 : decide ((k : Int) + 1 > 1) = false := decide_eq_false (by omega)
        have hk3 : decide ((1 : Int) < (k : Int) + 1) = false := decide_eq_false (by omega)
        go_wp2
        go_quiet (fail)
        go_wp2_with fail
        rw [low_slice bF k _ (by omega)]
        go_wp2_with fail
        refine (Hiz.out _ (HF.out.drewN _)).mono ?_
        rintro e w4 ⟨rfl, rfl⟩
        obtain ⟨Ln, hLn⟩ : ∃ Ln, Ln = Lib.bitLen Wd := ⟨_, rfl⟩
        have HLc : Hid (∀ W, Calls Tryd.prog 70 #[.int .u64 (Wd : Int)] W fun e w' => e = .returned (.int .i64 (Ln : Int)) ∧ w' = W) := fun W => by
          have h := Any.bits_Len64 Tryd.laysLen64 (Wd : Int) W (by omega) (by omega)
          rw [Int.toNat_natCast, ← hLn] at h
          exact h
        have hL64 : Ln ≤ 64 := by rw [hLn]; exact Lib.bitLen_le Wd 64 (by decide) hWd2
        have hL33 : 1 ≤ k → 33 ≤ Ln := fun h1 => by
          have h2 := hWk h1
          have h5 := (bl_bounds Wd hWd2 (by omega)).2.2
          rw [← hLn] at h5
          apply Nat.le_of_not_lt
          intro h3
          have h4 : 2 ^ Ln ≤ 2 ^ 32 := Nat.pow_le_pow_right (by decide) (by omega)
          omega
        obtain ⟨s1, hs1⟩ : ∃ s1 : Nat, (s1 : Int) + 1 = max ((Ln : Int) - 23 - 1) (11 - (k : Int) * 32) := ⟨(max ((Ln : Int) - 23 - 1) (11 - (k : Int) * 32) - 1).toNat, by (by_cases hh : 1 ≤ k; have h8 := hL33 hh; omega; omega)⟩
        obtain ⟨o1, o2, o3, o4, o5⟩ := shift_ok Wd Ln k s1 hWd2 hLn hWk hs1
        have hmx : max ((Ln : Int) - 23 - 1) (11 - (k : Int) * 32) = (s1 : Int) + 1 := hs1.symm
        obtain ⟨q, hq⟩ : ∃ q, q = Wd / 2 ^ (s1 + 1) := ⟨_, rfl⟩
        obtain ⟨rest, hrest⟩ : ∃ rest, rest = Wd % 2 ^ (s1 + 1) := ⟨_, rfl⟩
        obtain ⟨PP, hPP⟩ : ∃ PP, PP = 2 ^ (s1 + 1) := ⟨_, rfl⟩
        obtain ⟨HH, hHH⟩ : ∃ HH, HH = 2 ^ s1 := ⟨_, rfl⟩
        have n1 : (Wd : Int) / 2 ^ (s1 + 1) = (q : Int) := by rw [hq]; exact div_pow Wd (s1 + 1)
        have n2 : IntKind.u64.wrap (2 ^ (s1 + 1)) = (PP : Int) := by rw [hPP]; exact wrap_pow (s1 + 1) (by omega)
        have n3 : IntKind.u64.wrap (2 ^ s1) = (HH : Int) := by rw [hHH]; exact wrap_pow s1 (by omega)
        have n4 : bits .and .u64 (Wd : Int) ((PP : Int) - 1) = (rest : Int) := by rw [hPP, hrest]; exact and_pow Wd (s1 + 1) hWd2 (by omega)
        have nP : 1 ≤ PP := by rw [hPP]; exact Nat.pow_pos (by decide)
        have nP2 : PP ≤ 9223372036854775808 := by rw [hPP]; exact Nat.le_trans (Nat.pow_le_pow_right (n := 2) (by decide) (show s1 + 1 ≤ 63 by omega)) (by decide)
        have nH2 : HH ≤ 9223372036854775808 := by rw [hHH]; exact Nat.le_trans (Nat.pow_le_pow_right (n := 2) (by decide) (show s1 ≤ 63 by omega)) (by decide)
        have nR : rest < PP := by rw [hrest, hPP]; exact Nat.mod_lt _ (Nat.pow_pos (by decide))
        rw [← hq] at o4 o5
        have n5 : bits .and .u32 (q : Int) 1 = ((q % 2 : Nat) : Int) := by
          have h := u32_and_nat q 1 (by omega) (by decide)
          rw [Nat.and_one_is_mod] at h
          exact h
        have Hok : Hid (∀ up : Nat, ((up = 1 ∧ (HH < rest ∨ rest = HH ∧ q % 2 = 1)) ∨ (up = 0 ∧ (rest < HH ∨ rest = HH ∧ q % 2 = 0))) → Rnd (wv 4294967296 0 xs 10) 1 (min ((32 * k + (s1 + 1) - 11) * 8388608 + q + up) 2139095040)) := fun up hup => by
          rw [Hv.out]
          refine window_ok _ Wd (wv 4294967296 0 xs k) (32 * k) (s1 + 1) q rest up (top_two xs k x y Wd Hxg.out Hyg.out HWn.out) (low_lt xs Hs.out k (by omega)) (by omega) ?_ ?_ o3 o4 o5 ?_
          · rw [Hstk.out]; exact hq
          · rw [Hstk.out]; exact hrest
          · rw [show s1 + 1 - 1 = s1 by omega, ← hHH]; exact hup
        clear hq hrest hPP hHH hLn hs1 o5 hWk hL33
        go_wp2_with fail
        refine (HLc.out _).mono ?_
        rintro e w4 ⟨rfl, rfl⟩
        go_wp2_with fail
        (try rw [hmx])
        go_wp2
        go_quiet (fail)
        by_cases c1 : HH < rest
        · have d1 : decide ((rest : Int) > (HH : Int)) = true := decide_eq_true (by omega)
          have d1' : decide ((HH : Int) < (rest : Int)) = true := decide_eq_true (by omega)
          go_wp2
          go_ret
          refine ⟨_, ?_, Hok.out 1 (.inl ⟨rfl, .inl c1⟩), _, rfl⟩
          exact u32_eq _ _ (fin_one k s1 q o3)
        · have d1 : decide ((rest : Int) > (HH : Int)) = false := decide_eq_false (by omega)
          have d1' : decide ((HH : Int) < (rest : Int)) = false := decide_eq_false (by omega)
          by_cases c2 : rest = HH
          · have d2 : ((rest : Int) == (HH : Int)) = true := by simp; omega
            by_cases c3 : q % 2 = 1
            · have d3 : (((q % 2 : Nat) : Int) == 1) = true := by simp; omega
              have Hr : Hid (Rnd (wv 4294967296 0 xs 10) 1 (min ((32 * k + (s1 + 1) - 11) * 8388608 + q + 1) 2139095040)) := Hok.out 1 (.inl ⟨rfl, .inr ⟨c2, c3⟩⟩)
              generalize q % 2 = q2 at n5 d3 c3
              clear c2
              go_wp2
              go_ret
              refine ⟨_, ?_, Hr.out, _, rfl⟩
              exact u32_eq _ _ (fin_one k s1 q o3)
            · have d3 : (((q % 2 : Nat) : Int) == 1) = false := by simp; omega
              have Hr : Hid (Rnd (wv 4294967296 0 xs 10) 1 (min ((32 * k + (s1 + 1) - 11) * 8388608 + q + 0) 2139095040)) := Hok.out 0 (.inr ⟨rfl, .inr ⟨c2, by omega⟩⟩)
              generalize q % 2 = q2 at n5 d3 c3
              clear c2
              go_wp2
              go_ret
              refine ⟨_, ?_, Hr.out, _, rfl⟩
              exact u32_eq _ _ (fin_nul k s1 q o3)
          · have d2 : ((rest : Int) == (HH : Int)) = false := by simp; omega
            go_wp2
            go_ret
            refine ⟨_, ?_, Hok.out 0 (.inr ⟨rfl, .inl (by omega)⟩), _, rfl⟩
            exact u32_eq _ _ (fin_nul k s1 q o3)
      · have hx0 : x ≠ 0 := by omega
        have hq0 : ((x : Int) == 0) = false := by simp; omega
        have hk1 : 1 < k + 1 := by omega
        have hWk0 : 4294967296 ≤ Wn := by omega
        clear hgo hend hWn hz0 hx0 h1
        go_wp2
        go_quiet (fail)
        go_wp2_with fail
        rw [low_slice bF k _ (by omega)]
        go_wp2_with fail
        refine (Hiz.out _ (HF.out.drewN _)).mono ?_
        rintro e w4 ⟨rfl, rfl⟩
        cases zb
        · obtain ⟨Wd, hWd⟩ : ∃ Wd, Wd = Wn ||| 1 := ⟨_, rfl⟩
          have hWd2 : Wd < 18446744073709551616 := by rw [hWd]; exact Nat.or_lt_two_pow (n := 64) hWl (by decide)
          have hWk : 1 ≤ k → 4294967296 ≤ Wd := fun _ => by rw [hWd, or_one]; omega
          have Hstk : Hid (stk Wn (wv 4294967296 0 xs k) = Wd) := by
            show _ = _
            unfold stk
            rw [if_neg (fun h => by have := Hlow.out.2 h; cases this), hWd, or_one]
          rw [← hWd] at hor1
          have hor1' : bits .or .u64 (Wn : Int) 1 = (Wd : Int) := hor1
          clear hWd hor1
          obtain ⟨Ln, hLn⟩ : ∃ Ln, Ln = Lib.bitLen Wd := ⟨_, rfl⟩
          have HLc : Hid (∀ W, Calls Tryd.prog 70 #[.int .u64 (Wd : Int)] W fun e w' => e = .returned (.int .i64 (Ln : Int)) ∧ w' = W) := fun W => by
            have h := Any.bits_Len64 Tryd.laysLen64 (Wd : Int) W (by omega) (by omega)
            rw [Int.toNat_natCast, ← hLn] at h
            exact h
          have hL64 : Ln ≤ 64 := by rw [hLn]; exact Lib.bitLen_le Wd 64 (by decide) hWd2
          have hL33 : 1 ≤ k → 33 ≤ Ln := fun h1 => by
            have h2 := hWk h1
            have h5 := (bl_bounds Wd hWd2 (by omega)).2.2
            rw [← hLn] at h5
            apply Nat.le_of_not_lt
            intro h3
            have h4 : 2 ^ Ln ≤ 2 ^ 32 := Nat.pow_le_pow_right (by decide) (by omega)
            omega
          obtain ⟨s1, hs1⟩ : ∃ s1 : Nat, (s1 : Int) + 1 = max ((Ln : Int) - 23 - 1) (11 - (k : Int) * 32) := ⟨(max ((Ln : Int) - 23 - 1) (11 - (k : Int) * 32) - 1).toNat, by (by_cases hh : 1 ≤ k; have h8 := hL33 hh; omega; omega)⟩
          obtain ⟨o1, o2, o3, o4, o5⟩ := shift_ok Wd Ln k s1 hWd2 hLn hWk hs1
          have hmx : max ((Ln : Int) - 23 - 1) (11 - (k : Int) * 32) = (s1 : Int) + 1 := hs1.symm
          obtain ⟨q, hq⟩ : ∃ q, q = Wd / 2 ^ (s1 + 1) := ⟨_, rfl⟩
          obtain ⟨rest, hrest⟩ : ∃ rest, rest = Wd % 2 ^ (s1 + 1) := ⟨_, rfl⟩
          obtain ⟨PP, hPP⟩ : ∃ PP, PP = 2 ^ (s1 + 1) := ⟨_, rfl⟩
          obtain ⟨HH, hHH⟩ : ∃ HH, HH = 2 ^ s1 := ⟨_, rfl⟩
          have n1 : (Wd : Int) / 2 ^ (s1 + 1) = (q : Int) := by rw [hq]; exact div_pow Wd (s1 + 1)
          have n2 : IntKind.u64.wrap (2 ^ (s1 + 1)) = (PP : Int) := by rw [hPP]; exact wrap_pow (s1 + 1) (by omega)
          have n3 : IntKind.u64.wrap (2 ^ s1) = (HH : Int) := by rw [hHH]; exact wrap_pow s1 (by omega)
          have n4 : bits .and .u64 (Wd : Int) ((PP : Int) - 1) = (rest : Int) := by rw [hPP, hrest]; exact and_pow Wd (s1 + 1) hWd2 (by omega)
          have nP : 1 ≤ PP := by rw [hPP]; exact Nat.pow_pos (by decide)
          have nP2 : PP ≤ 9223372036854775808 := by rw [hPP]; exact Nat.le_trans (Nat.pow_le_pow_right (n := 2) (by decide) (show s1 + 1 ≤ 63 by omega)) (by decide)
          have nH2 : HH ≤ 9223372036854775808 := by rw [hHH]; exact Nat.le_trans (Nat.pow_le_pow_right (n := 2) (by decide) (show s1 ≤ 63 by omega)) (by decide)
          have nR : rest < PP := by rw [hrest, hPP]; exact Nat.mod_lt _ (Nat.pow_pos (by decide))
          rw [← hq] at o4 o5
          have n5 : bits .and .u32 (q : Int) 1 = ((q % 2 : Nat) : Int) := by
            have h := u32_and_nat q 1 (by omega) (by decide)
            rw [Nat.and_one_is_mod] at h
            exact h
          have Hok : Hid (∀ up : Nat, ((up = 1 ∧ (HH < rest ∨ rest = HH ∧ q % 2 = 1)) ∨ (up = 0 ∧ (rest < HH ∨ rest = HH ∧ q % 2 = 0))) → Rnd (wv 4294967296 0 xs 10) 1 (min ((32 * k + (s1 + 1) - 11) * 8388608 + q + up) 2139095040)) := fun up hup => by
            rw [Hv.out]
            refine window_ok _ Wn (wv 4294967296 0 xs k) (32 * k) (s1 + 1) q rest up (top_two xs k x y Wn Hxg.out Hyg.out HWn.out) (low_lt xs Hs.out k (by omega)) (by omega) ?_ ?_ o3 o4 o5 ?_
            · rw [Hstk.out]; exact hq
            · rw [Hstk.out]; exact hrest
            · rw [show s1 + 1 - 1 = s1 by omega, ← hHH]; exact hup
          clear hq hrest hPP hHH hLn hs1 o5 hWk hL33
          go_wp2_with fail
          refine (HLc.out _).mono ?_
          rintro e w4 ⟨rfl, rfl⟩
          go_wp2_with fail
          (try rw [hmx])
          go_wp2
          go_quiet (fail)
          by_cases c1 : HH < rest
          · have d1 : decide ((rest : Int) > (HH : Int)) = true := decide_eq_true (by omega)
            have d1' : decide ((HH : Int) < (rest : Int)) = true := decide_eq_true (by omega)
            go_wp2
            go_ret
            refine ⟨_, ?_, Hok.out 1 (.inl ⟨rfl, .inl c1⟩), _, rfl⟩
            exact u32_eq _ _ (fin_one k s1 q o3)
          · have d1 : decide ((rest : Int) > (HH : Int)) = false := decide_eq_false (by omega)
            have d1' : decide ((HH : Int) < (rest : Int)) = false := decide_eq_false (by omega)
            by_cases c2 : rest = HH
            · have d2 : ((rest : Int) == (HH : Int)) = true := by simp; omega
              by_cases c3 : q % 2 = 1
              · have d3 : (((q % 2 : Nat) : Int) == 1) = true := by simp; omega
                have Hr : Hid (Rnd (wv 4294967296 0 xs 10) 1 (min ((32 * k + (s1 + 1) - 11) * 8388608 + q + 1) 2139095040)) := Hok.out 1 (.inl ⟨rfl, .inr ⟨c2, c3⟩⟩)
                generalize q % 2 = q2 at n5 d3 c3
                clear c2
                go_wp2
                go_ret
                refine ⟨_, ?_, Hr.out, _, rfl⟩
                exact u32_eq _ _ (fin_one k s1 q o3)
              · have d3 : (((q % 2 : Nat) : Int) == 1) = false := by simp; omega
                have Hr : Hid (Rnd (wv 4294967296 0 xs 10) 1 (min ((32 * k + (s1 + 1) - 11) * 8388608 + q + 0) 2139095040)) := Hok.out 0 (.inr ⟨rfl, .inr ⟨c2, by omega⟩⟩)
                generalize q % 2 = q2 at n5 d3 c3
                clear c2
                go_wp2
                go_ret
                refine ⟨_, ?_, Hr.out, _, rfl⟩
                exact u32_eq _ _ (fin_nul k s1 q o3)
            · have d2 : ((rest : Int) == (HH : Int)) = false := by simp; omega
              go_wp2
              go_ret
              refine ⟨_, ?_, Hok.out 0 (.inr ⟨rfl, .inl (by omega)⟩), _, rfl⟩
              exact u32_eq _ _ (fin_nul k s1 q o3)
        · obtain ⟨Wd, hWd⟩ : ∃ Wd, Wd = Wn := ⟨_, rfl⟩
          subst hWd
          have hWd2 : Wd < 18446744073709551616 := hWl
          have hWk : 1 ≤ k → 4294967296 ≤ Wd := fun _ => hWk0
          have Hstk : Hid (stk Wd (wv 4294967296 0 xs k) = Wd) := by
            show _ = _
            unfold stk
            rw [if_pos (Hlow.out.1 rfl)]
          clear hor1
          obtain ⟨Ln, hLn⟩ : ∃ Ln, Ln = Lib.bitLen Wd := ⟨_, rfl⟩
          have HLc : Hid (∀ W, Calls Tryd.prog 70 #[.int .u64 (Wd : Int)] W fun e w' => e = .returned (.int .i64 (Ln : Int)) ∧ w' = W) := fun W => by
            have h := Any.bits_Len64 Tryd.laysLen64 (Wd : Int) W (by omega) (by omega)
            rw [Int.toNat_natCast, ← hLn] at h
            exact h
          have hL64 : Ln ≤ 64 := by rw [hLn]; exact Lib.bitLen_le Wd 64 (by decide) hWd2
          have hL33 : 1 ≤ k → 33 ≤ Ln := fun h1 => by
            have h2 := hWk h1
            have h5 := (bl_bounds Wd hWd2 (by omega)).2.2
            rw [← hLn] at h5
            apply Nat.le_of_not_lt
            intro h3
            have h4 : 2 ^ Ln ≤ 2 ^ 32 := Nat.pow_le_pow_right (by decide) (by omega)
            omega
          obtain ⟨s1, hs1⟩ : ∃ s1 : Nat, (s1 : Int) + 1 = max ((Ln : Int) - 23 - 1) (11 - (k : Int) * 32) := ⟨(max ((Ln : Int) - 23 - 1) (11 - (k : Int) * 32) - 1).toNat, by (by_cases hh : 1 ≤ k; have h8 := hL33 hh; omega; omega)⟩
          obtain ⟨o1, o2, o3, o4, o5⟩ := shift_ok Wd Ln k s1 hWd2 hLn hWk hs1
          have hmx : max ((Ln : Int) - 23 - 1) (11 - (k : Int) * 32) = (s1 : Int) + 1 := hs1.symm
          obtain ⟨q, hq⟩ : ∃ q, q = Wd / 2 ^ (s1 + 1) := ⟨_, rfl⟩
          obtain ⟨rest, hrest⟩ : ∃ rest, rest = Wd % 2 ^ (s1 + 1) := ⟨_, rfl⟩
          obtain ⟨PP, hPP⟩ : ∃ PP, PP = 2 ^ (s1 + 1) := ⟨_, rfl⟩
          obtain ⟨HH, hHH⟩ : ∃ HH, HH = 2 ^ s1 := ⟨_, rfl⟩
          have n1 : (Wd : Int) / 2 ^ (s1 + 1) = (q : Int) := by rw [hq]; exact div_pow Wd (s1 + 1)
          have n2 : IntKind.u64.wrap (2 ^ (s1 + 1)) = (PP : Int) := by rw [hPP]; exact wrap_pow (s1 + 1) (by omega)
          have n3 : IntKind.u64.wrap (2 ^ s1) = (HH : Int) := by rw [hHH]; exact wrap_pow s1 (by omega)
          have n4 : bits .and .u64 (Wd : Int) ((PP : Int) - 1) = (rest : Int) := by rw [hPP, hrest]; exact and_pow Wd (s1 + 1) hWd2 (by omega)
          have nP : 1 ≤ PP := by rw [hPP]; exact Nat.pow_pos (by decide)
          have nP2 : PP ≤ 9223372036854775808 := by rw [hPP]; exact Nat.le_trans (Nat.pow_le_pow_right (n := 2) (by decide) (show s1 + 1 ≤ 63 by omega)) (by decide)
          have nH2 : HH ≤ 9223372036854775808 := by rw [hHH]; exact Nat.le_trans (Nat.pow_le_pow_right (n := 2) (by decide) (show s1 ≤ 63 by omega)) (by decide)
          have nR : rest < PP := by rw [hrest, hPP]; exact Nat.mod_lt _ (Nat.pow_pos (by decide))
          rw [← hq] at o4 o5
          have n5 : bits .and .u32 (q : Int) 1 = ((q % 2 : Nat) : Int) := by
            have h := u32_and_nat q 1 (by omega) (by decide)
            rw [Nat.and_one_is_mod] at h
            exact h
          have Hok : Hid (∀ up : Nat, ((up = 1 ∧ (HH < rest ∨ rest = HH ∧ q % 2 = 1)) ∨ (up = 0 ∧ (rest < HH ∨ rest = HH ∧ q % 2 = 0))) → Rnd (wv 4294967296 0 xs 10) 1 (min ((32 * k + (s1 + 1) - 11) * 8388608 + q + up) 2139095040)) := fun up hup => by
            rw [Hv.out]
            refine window_ok _ Wd (wv 4294967296 0 xs k) (32 * k) (s1 + 1) q rest up (top_two xs k x y Wd Hxg.out Hyg.out HWn.out) (low_lt xs Hs.out k (by omega)) (by omega) ?_ ?_ o3 o4 o5 ?_
            · rw [Hstk.out]; exact hq
            · rw [Hstk.out]; exact hrest
            · rw [show s1 + 1 - 1 = s1 by omega, ← hHH]; exact hup
          clear hq hrest hPP hHH hLn hs1 o5 hWk hL33
          go_wp2_with fail
          refine (HLc.out _).mono ?_
          rintro e w4 ⟨rfl, rfl⟩
          go_wp2_with fail
          (try rw [hmx])
          go_wp2
          go_quiet (fail)
          by_cases c1 : HH < rest
          · have d1 : decide ((rest : Int) > (HH : Int)) = true := decide_eq_true (by omega)
            have d1' : decide ((HH : Int) < (rest : Int)) = true := decide_eq_true (by omega)
            go_wp2
            go_ret
            refine ⟨_, ?_, Hok.out 1 (.inl ⟨rfl, .inl c1⟩), _, rfl⟩
            exact u32_eq _ _ (fin_one k s1 q o3)
          · have d1 : decide ((rest : Int) > (HH : Int)) = false := decide_eq_false (by omega)
            have d1' : decide ((HH : Int) < (rest : Int)) = false := decide_eq_false (by omega)
            by_cases c2 : rest = HH
            · have d2 : ((rest : Int) == (HH : Int)) = true := by simp; omega
              by_cases c3 : q % 2 = 1
              · have d3 : (((q % 2 : Nat) : Int) == 1) = true := by simp; omega
                have Hr : Hid (Rnd (wv 4294967296 0 xs 10) 1 (min ((32 * k + (s1 + 1) - 11) * 8388608 + q + 1) 2139095040)) := Hok.out 1 (.inl ⟨rfl, .inr ⟨c2, c3⟩⟩)
                generalize q % 2 = q2 at n5 d3 c3
                clear c2
                go_wp2
                go_ret
                refine ⟨_, ?_, Hr.out, _, rfl⟩
                exact u32_eq _ _ (fin_one k s1 q o3)
              · have d3 : (((q % 2 : Nat) : Int) == 1) = false := by simp; omega
                have Hr : Hid (Rnd (wv 4294967296 0 xs 10) 1 (min ((32 * k + (s1 + 1) - 11) * 8388608 + q + 0) 2139095040)) := Hok.out 0 (.inr ⟨rfl, .inr ⟨c2, by omega⟩⟩)
                generalize q % 2 = q2 at n5 d3 c3
                clear c2
                go_wp2
                go_ret
                refine ⟨_, ?_, Hr.out, _, rfl⟩
                exact u32_eq _ _ (fin_nul k s1 q o3)
            · have d2 : ((rest : Int) == (HH : Int)) = false := by simp; omega
              go_wp2
              go_ret
              refine ⟨_, ?_, Hok.out 0 (.inr ⟨rfl, .inl (by omega)⟩), _, rfl⟩
              exact u32_eq _ _ (fin_nul k s1 q o3)

end Go.Proofs.YtgkbbcoagnilgabDoor
