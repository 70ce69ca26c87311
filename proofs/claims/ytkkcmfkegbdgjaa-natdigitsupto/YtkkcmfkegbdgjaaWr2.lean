import Derived.Test.YtkkcmfkegbdgjaaWr
namespace Go.Proofs.Ytkkcmfkegbdgjaa
open Go.RowKit

set_option maxHeartbeats 1000000 in
theorem bit_pos (k : Nat) (v : Value) (xs : List Nat) (w : World) (hv : Nm w v xs) (hk : k ≤ 9223372036854775807) :
    Calls Try.prog 33 #[v, .int .i64 (k : Int)] w fun e w' => e = .returned (.bool (decide (nv Bs xs / 2 ^ k % 2 = 1))) ∧ w' = w := by
  obtain ⟨ax, cx, rfl, hcx, hx, sx⟩ := hv
  obtain ⟨q, hq⟩ : ∃ q, k / 32 = q := ⟨_, rfl⟩
  obtain ⟨s, hs⟩ : ∃ s, k % 32 = s := ⟨_, rfl⟩
  have hs32 : s < 32 := by omega
  have eq1 : Int.tdiv (k : Int) 32 = (q : Int) := by rw [Int.tdiv_eq_ediv_of_nonneg (by omega)]; omega
  have eq2 : (k : Int) / 32 = (q : Int) := by omega
  have es1 : Int.tmod (k : Int) 32 = (s : Int) := by rw [Int.tmod_eq_emod_of_nonneg (by omega)]; omega
  have es2 : (k : Int) % 32 = (s : Int) := by omega
  have hq64 : q ≤ 288230376151711744 := by omega
  have eqw : wrap64 (q : Int) = (q : Int) := by unfold wrap64; omega
  have hk0 : decide ((k : Int) ≥ 0) = true := decide_eq_true (by omega)
  have HV : Hid (nv Bs xs / 2 ^ k % 2 = xs.getD q 0 / 2 ^ s % 2) := by
    have := bit_div xs sx q s
    rw [show 32 * q + s = k by omega] at this
    rcases this with h | h
    · exact h
    · omega
  have C := at_nat ax xs.length cx q xs w hx rfl
  obtain ⟨x, Hx⟩ : ∃ x, Hid (xs.getD q 0 = x) := ⟨_, rfl⟩
  have hxb : x < 4294967296 := by rw [← Hx.out, ← Bs_eq]; exact sx.getD Bs_pos q
  rw [Hx.out] at C HV
  obtain ⟨y, Hy⟩ : ∃ y, Hid (x / 2 ^ s = y) := ⟨_, rfl⟩
  have hy : y < 4294967296 := by rw [← Hy.out]; exact Nat.lt_of_le_of_lt (Nat.div_le_self _ _) hxb
  have ey : (x : Int) / 2 ^ s = (y : Int) := by rw [← Hy.out]; simp
  rw [Hy.out] at HV
  have hand : bits .and .u32 (y : Int) 1 = ((y % 2 : Nat) : Int) := by
    have := u32_and_nat y 1 hy (by decide)
    rw [Nat.and_one_is_mod] at this
    exact this
  obtain ⟨z, Hz⟩ : ∃ z, Hid (y % 2 = z) := ⟨_, rfl⟩
  rw [Hz.out] at hand HV
  have hz : z ≤ 1 := by rw [← Hz.out]; omega
  clear hx sx hcx hq hs Hy Hz
  go_enter Try.func33, Try.ntmps33
  go_wp2_with fail
  refine C.mono ?_
  clear C
  rintro e w ⟨rfl, rfl⟩
  go_wp2
  go_ret
  refine ⟨?_, rfl⟩
  rw [HV.out]
  congr 2
  rcases Nat.eq_zero_or_pos z with h | h
  · subst h; rfl
  · obtain rfl : z = 1 := by omega
    rfl

theorem bit_neg (k : Int) (v : Value) (w : World) (hk : k < 0) : Calls Try.prog 33 #[v, .int .i64 k] w fun e w' => e = .returned (.bool false) ∧ w' = w := by
  have hk0 : decide (k ≥ 0) = false := decide_eq_false (by omega)
  go_enter Try.func33, Try.ntmps33
  go_wp2
  go_ret
  exact ⟨rfl, rfl⟩

/-- So many bits Shl takes. -/
def shk (k : Int) : Nat := if k < 0 then 0 else if k ≤ 131072 then k.toNat else 131072

set_option maxRecDepth 100000 in
set_option maxHeartbeats 1000000 in
theorem shl_neg (k : Int) (hk : k < 0) (v : Value) (xs : List Nat) (w : World) (hv : Nm w v xs) (h1 : xs.length ≤ 10000000) :
    Calls Try.prog 30 #[v, .int .i64 k] w fun e w' => ∃ r, e = .returned r ∧ Ow w' w.heap.size r (dg Bs (nv Bs xs * 2 ^ 0)) ∧ Below w.heap.size w w' := by
  obtain ⟨ax, cx, X, P1, lx1, lx2, RX, SX, EX⟩ := proper_nm v xs w hv (by omega)
  have EX' : nv Bs X = nv Bs xs := by rw [EX, dg_nv Bs_two]
  rw [← EX']
  have CR := raised_any ax X.length cx 0 X w RX SX rfl (by omega) (by decide)
  rw [show ((0 : Nat) : Int) = 0 from rfl] at CR
  generalize (2 : Nat) ^ 0 = kk at CR ⊢
  have hX : X.length ≤ 10000000 := by omega
  have hf : True := trivial
  clear hv h1 lx1 lx2 RX SX EX EX'
  go_enter Try.func30, Try.ntmps30
  go_wp2_with fail
  refine P1.mono ?_
  clear P1
  rintro e w ⟨rfl, rfl⟩
  go_wp2_with fail
  refine CR.mono ?_
  clear CR
  rintro e w1 ⟨L, N, hN, rfl, hbL, lL, sL, vL, bel1, sz1⟩
  have hNb : N ≤ 1000000000 := by rw [hN]; omega
  have CP := proper_any (some ⟨w.heap.size, 0, none⟩) N N L w1 hbL.rn lL.symm (Nat.le_refl _) hNb
  have HO : Hid (Ow w1 w.heap.size (.slice (some ⟨w.heap.size, 0, none⟩) (tl L) N) (dg Bs (nv Bs X * kk)) ∧ Below w.heap.size w w1) := by
    have := Bl.proper (w := w1) (base := w.heap.size) (g := w.heap.size) (L := L) hbL sL (Nat.le_refl _) (by omega)
    rw [lL, vL] at this
    exact ⟨this, bel1⟩
  clear hN hbL lL sL vL bel1 sz1
  go_wp2_with fail
  refine CP.mono ?_
  clear CP
  rintro e w1 ⟨rfl, rfl⟩
  go_wp2
  go_ret
  exact ⟨_, rfl, HO.out⟩

set_option maxRecDepth 100000 in
set_option maxHeartbeats 1000000 in
theorem shl_mid (K : Nat) (hk : K < 131072) (v : Value) (xs : List Nat) (w : World) (hv : Nm w v xs) (h1 : xs.length ≤ 10000000) :
    Calls Try.prog 30 #[v, .int .i64 (K : Int)] w fun e w' => ∃ r, e = .returned r ∧ Ow w' w.heap.size r (dg Bs (nv Bs xs * 2 ^ K)) ∧ Below w.heap.size w w' := by
  obtain ⟨ax, cx, X, P1, lx1, lx2, RX, SX, EX⟩ := proper_nm v xs w hv (by omega)
  have EX' : nv Bs X = nv Bs xs := by rw [EX, dg_nv Bs_two]
  rw [← EX']
  have CR := raised_any ax X.length cx K X w RX SX rfl (by omega) (by omega)
  skip
  generalize (2 : Nat) ^ K = kk at CR ⊢
  have hX : X.length ≤ 10000000 := by omega
  have hf1 : decide ((K : Int) < 0) = false := decide_eq_false (by omega)
  have hf2 : decide ((K : Int) < 131072) = true := decide_eq_true (by omega)
  have hf3 : decide ((131072 : Int) < (K : Int)) = false := decide_eq_false (by omega)
  clear hv h1 lx1 lx2 RX SX EX EX'
  go_enter Try.func30, Try.ntmps30
  go_wp2_with fail
  refine P1.mono ?_
  clear P1
  rintro e w ⟨rfl, rfl⟩
  go_wp2_with fail
  refine CR.mono ?_
  clear CR
  rintro e w1 ⟨L, N, hN, rfl, hbL, lL, sL, vL, bel1, sz1⟩
  have hNb : N ≤ 1000000000 := by rw [hN]; omega
  have CP := proper_any (some ⟨w.heap.size, 0, none⟩) N N L w1 hbL.rn lL.symm (Nat.le_refl _) hNb
  have HO : Hid (Ow w1 w.heap.size (.slice (some ⟨w.heap.size, 0, none⟩) (tl L) N) (dg Bs (nv Bs X * kk)) ∧ Below w.heap.size w w1) := by
    have := Bl.proper (w := w1) (base := w.heap.size) (g := w.heap.size) (L := L) hbL sL (Nat.le_refl _) (by omega)
    rw [lL, vL] at this
    exact ⟨this, bel1⟩
  clear hN hbL lL sL vL bel1 sz1
  go_wp2_with fail
  refine CP.mono ?_
  clear CP
  rintro e w1 ⟨rfl, rfl⟩
  go_wp2
  go_ret
  exact ⟨_, rfl, HO.out⟩

set_option maxRecDepth 100000 in
set_option maxHeartbeats 1000000 in
theorem shl_eq  (v : Value) (xs : List Nat) (w : World) (hv : Nm w v xs) (h1 : xs.length ≤ 10000000) :
    Calls Try.prog 30 #[v, .int .i64 131072] w fun e w' => ∃ r, e = .returned r ∧ Ow w' w.heap.size r (dg Bs (nv Bs xs * 2 ^ 131072)) ∧ Below w.heap.size w w' := by
  obtain ⟨ax, cx, X, P1, lx1, lx2, RX, SX, EX⟩ := proper_nm v xs w hv (by omega)
  have EX' : nv Bs X = nv Bs xs := by rw [EX, dg_nv Bs_two]
  rw [← EX']
  have CR := raised_any ax X.length cx 131072 X w RX SX rfl (by omega) (by decide)
  rw [show ((131072 : Nat) : Int) = 131072 from rfl] at CR
  generalize (2 : Nat) ^ 131072 = kk at CR ⊢
  have hX : X.length ≤ 10000000 := by omega
  have hf : True := trivial
  clear hv h1 lx1 lx2 RX SX EX EX'
  go_enter Try.func30, Try.ntmps30
  go_wp2_with fail
  refine P1.mono ?_
  clear P1
  rintro e w ⟨rfl, rfl⟩
  go_wp2_with fail
  refine CR.mono ?_
  clear CR
  rintro e w1 ⟨L, N, hN, rfl, hbL, lL, sL, vL, bel1, sz1⟩
  have hNb : N ≤ 1000000000 := by rw [hN]; omega
  have CP := proper_any (some ⟨w.heap.size, 0, none⟩) N N L w1 hbL.rn lL.symm (Nat.le_refl _) hNb
  have HO : Hid (Ow w1 w.heap.size (.slice (some ⟨w.heap.size, 0, none⟩) (tl L) N) (dg Bs (nv Bs X * kk)) ∧ Below w.heap.size w w1) := by
    have := Bl.proper (w := w1) (base := w.heap.size) (g := w.heap.size) (L := L) hbL sL (Nat.le_refl _) (by omega)
    rw [lL, vL] at this
    exact ⟨this, bel1⟩
  clear hN hbL lL sL vL bel1 sz1
  go_wp2_with fail
  refine CP.mono ?_
  clear CP
  rintro e w1 ⟨rfl, rfl⟩
  go_wp2
  go_ret
  exact ⟨_, rfl, HO.out⟩

set_option maxRecDepth 100000 in
set_option maxHeartbeats 1000000 in
theorem shl_big (k : Int) (hk : 131072 < k) (v : Value) (xs : List Nat) (w : World) (hv : Nm w v xs) (h1 : xs.length ≤ 10000000) :
    Calls Try.prog 30 #[v, .int .i64 k] w fun e w' => ∃ r, e = .returned r ∧ Ow w' w.heap.size r (dg Bs (nv Bs xs * 2 ^ 131072)) ∧ Below w.heap.size w w' := by
  obtain ⟨ax, cx, X, P1, lx1, lx2, RX, SX, EX⟩ := proper_nm v xs w hv (by omega)
  have EX' : nv Bs X = nv Bs xs := by rw [EX, dg_nv Bs_two]
  rw [← EX']
  have CR := raised_any ax X.length cx 131072 X w RX SX rfl (by omega) (by decide)
  rw [show ((131072 : Nat) : Int) = 131072 from rfl] at CR
  generalize (2 : Nat) ^ 131072 = kk at CR ⊢
  have hX : X.length ≤ 10000000 := by omega
  have hf1 : decide (k < 0) = false := decide_eq_false (by omega)
  have hf2 : decide (k < 131072) = false := decide_eq_false (by omega)
  have hf3 : decide ((131072 : Int) < k) = true := decide_eq_true (by omega)
  clear hv h1 lx1 lx2 RX SX EX EX'
  go_enter Try.func30, Try.ntmps30
  go_wp2_with fail
  refine P1.mono ?_
  clear P1
  rintro e w ⟨rfl, rfl⟩
  go_wp2_with fail
  refine CR.mono ?_
  clear CR
  rintro e w1 ⟨L, N, hN, rfl, hbL, lL, sL, vL, bel1, sz1⟩
  have hNb : N ≤ 1000000000 := by rw [hN]; omega
  have CP := proper_any (some ⟨w.heap.size, 0, none⟩) N N L w1 hbL.rn lL.symm (Nat.le_refl _) hNb
  have HO : Hid (Ow w1 w.heap.size (.slice (some ⟨w.heap.size, 0, none⟩) (tl L) N) (dg Bs (nv Bs X * kk)) ∧ Below w.heap.size w w1) := by
    have := Bl.proper (w := w1) (base := w.heap.size) (g := w.heap.size) (L := L) hbL sL (Nat.le_refl _) (by omega)
    rw [lL, vL] at this
    exact ⟨this, bel1⟩
  clear hN hbL lL sL vL bel1 sz1
  go_wp2_with fail
  refine CP.mono ?_
  clear CP
  rintro e w1 ⟨rfl, rfl⟩
  go_wp2
  go_ret
  exact ⟨_, rfl, HO.out⟩

theorem shl_nm (k : Int) (v : Value) (xs : List Nat) (w : World) (hv : Nm w v xs) (h1 : xs.length ≤ 10000000) :
    Calls Try.prog 30 #[v, .int .i64 k] w fun e w' => ∃ r, e = .returned r ∧ Ow w' w.heap.size r (dg Bs (nv Bs xs * 2 ^ shk k)) ∧ Below w.heap.size w w' := by
  unfold shk
  by_cases h : k < 0
  · rw [if_pos h]; exact shl_neg k h v xs w hv h1
  · rw [if_neg h]
    by_cases h2 : k ≤ 131072
    · rw [if_pos h2]
      obtain ⟨K, rfl⟩ : ∃ K : Nat, k = (K : Int) := ⟨k.toNat, by omega⟩
      rw [Int.toNat_natCast]
      by_cases h3 : K < 131072
      · exact shl_mid K h3 v xs w hv h1
      · obtain rfl : K = 131072 := by omega
        exact shl_eq v xs w hv h1
    · rw [if_neg h2]; exact shl_big k (by omega) v xs w hv h1

theorem shr_nm (k : Int) (v : Value) (xs : List Nat) (w : World) (hv : Nm w v xs) (h1 : xs.length ≤ 100000000) (hk : k ≤ 9223372036854775807) :
    Calls Try.prog 31 #[v, .int .i64 k] w fun e w' => ∃ r, e = .returned r ∧ Ow w' w.heap.size r (dg Bs (nv Bs xs / 2 ^ k.toNat)) ∧ Below w.heap.size w w' := by
  by_cases h : k < 0
  · rw [show k.toNat = 0 by omega]; exact shr_neg k h v xs w hv h1
  · obtain ⟨K, rfl⟩ : ∃ K : Nat, k = (K : Int) := ⟨k.toNat, by omega⟩
    rw [Int.toNat_natCast]
    exact shr_pos K (by omega) v xs w hv h1

end Go.Proofs.Ytkkcmfkegbdgjaa
