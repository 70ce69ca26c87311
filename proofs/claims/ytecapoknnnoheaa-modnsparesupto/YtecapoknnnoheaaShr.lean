import Derived.Test.YtecapoknnnoheaaRais
namespace Go.Proofs.Ytecapoknnnoheaa
open Go.RowKit

theorem or_pair (a x : Nat) (ha : a < 4294967296) (hx : x < 4294967296) : bits .or .u64 ((a : Int) * 4294967296) (x : Int) = ((a * 4294967296 + x : Nat) : Int) := by
  have e : ((a : Int) * 4294967296) = ((a * 4294967296 : Nat) : Int) := by omega
  rw [e, u64_or_nat _ _ (by omega) (by omega), nat_join 32 (a * 4294967296) x (by omega) (by omega)]

theorem shr_gen (P Q y y' : Nat) (hP : 0 < P) (_hQ : 0 < Q) (hy : y < P * Q) : P * (((y' * (P * Q) + y) / P) % (P * Q)) + y % P = y + (P * Q) * (y' % P) := by
  have e1 : (y' * (P * Q) + y) / P = y' * Q + y / P := by
    rw [show y' * (P * Q) + y = y + P * (y' * Q) by rw [Nat.mul_left_comm]; omega, Nat.add_mul_div_left _ _ hP, Nat.add_comm]
  have h1 : y / P < Q := Nat.div_lt_of_lt_mul hy
  have h2 : y' % P < P := Nat.mod_lt _ hP
  have e2 : y' * Q + y / P = (y' % P) * Q + y / P + (P * Q) * (y' / P) := by
    have := Nat.div_add_mod y' P
    have h3 : y' * Q = (P * (y' / P) + y' % P) * Q := by rw [this]
    rw [Nat.add_mul] at h3
    have h4 : P * (y' / P) * Q = P * Q * (y' / P) := by rw [Nat.mul_assoc, Nat.mul_comm (y' / P), ← Nat.mul_assoc]
    omega
  have h5 : (y' % P) * Q + y / P < P * Q := by
    have : (y' % P + 1) * Q ≤ P * Q := Nat.mul_le_mul_right _ h2
    rw [Nat.add_mul, Nat.one_mul] at this
    omega
  rw [e1, e2, Nat.add_mul_mod_self_left, Nat.mod_eq_of_lt h5, Nat.mul_add]
  have h6 := Nat.div_add_mod y P
  have h7 : P * ((y' % P) * Q) = P * Q * (y' % P) := by rw [Nat.mul_comm (y' % P), Nat.mul_assoc]
  omega

theorem shr_limb (y y' s : Nat) (hs : s < 32) (hy : y < 4294967296) : 2 ^ s * ((y' * 4294967296 + y) / 2 ^ s % 4294967296) + y % 2 ^ s = y + 4294967296 * (y' % 2 ^ s) := by
  have e : 4294967296 = 2 ^ s * 2 ^ (32 - s) := by rw [← Nat.pow_add, show s + (32 - s) = 32 by omega]
  have := shr_gen (2 ^ s) (2 ^ (32 - s)) y y' (Nat.pow_pos (by decide)) (Nat.pow_pos (by decide)) (by rw [← e]; exact hy)
  rw [← e] at this
  exact this

theorem shr_step (B p A c0 X y r r' v S : Nat) (h : S * A + c0 = X + p * r) (hs : S * v + r = y + B * r') : S * (A + p * v) + c0 = (X + p * y) + (p * B) * r' := by
  have h1 := congrArg (p * ·) hs
  have h2 : S * (p * v) = p * (S * v) := Nat.mul_left_comm _ _ _
  simp only [Nat.mul_add, ← Nat.mul_assoc] at h1 h2 ⊢
  omega

theorem Rn.drop {w : World} {g off : Nat} {l : List Nat} (h : Rn w (some ⟨g, off, none⟩) l) (k : Nat) : Rn w (some ⟨g, off + k, none⟩) (l.drop k) := by
  rcases h with h | ⟨g', off', e, hg, hc⟩
  · exact .inl (by rw [h]; simp)
  · cases e
    refine .inr ⟨g, off + k, rfl, hg, fun j hj => ?_⟩
    rw [List.length_drop] at hj
    rw [Nat.add_assoc, hc (k + j) (by omega)]
    simp [List.getD_eq_getElem?_getD, List.getElem?_drop]

theorem shr_value (b s : Nat) (X D : List Nat) (hX : Sm Bs X) (hb : b ≤ X.length) (c0 : Nat) (hc : c0 < 2 ^ s) (h : 2 ^ s * nv Bs D + c0 = nv Bs (X.drop b)) : nv Bs D = nv Bs X / (Bs ^ b * 2 ^ s) := by
  have h1 := nv_split Bs X b hb
  have h2 := nv_lt Bs_pos (hX.take b)
  rw [List.length_take, Nat.min_eq_left hb] at h2
  rw [← Nat.div_div_eq_div_mul, h1, Nat.add_mul_div_left _ _ (Nat.pow_pos Bs_pos), Nat.div_eq_of_lt h2, Nat.zero_add, ← h, Nat.mul_add_div (Nat.pow_pos (by decide)), Nat.div_eq_of_lt hc, Nat.add_zero]

theorem take_zero_drop (n : Nat) (_h : 0 < n) (i : Nat) (hi : i < n) : (List.replicate n 0).drop i = 0 :: (List.replicate n 0).drop (i + 1) := by
  rw [List.drop_replicate, List.drop_replicate, show n - i = (n - (i + 1)) + 1 by omega, List.replicate_succ]

set_option maxHeartbeats 1000000 in
theorem shr_pos (K : Nat) (hK : K ≤ 9223372036854775807) (v : Value) (xs : List Nat) (w : World) (hv : Nm w v xs) (h1 : xs.length ≤ 100000000) :
    Calls Try.prog 61 #[v, .int .i64 (K : Int)] w fun e w' => ∃ r, e = .returned r ∧ Ow w' w.heap.size r (dg Bs (nv Bs xs / 2 ^ K)) ∧ Below w.heap.size w w' := by
  obtain ⟨ax, cx, X, P1, lx1, lx2, RX, SX, EX⟩ := proper_nm v xs w hv (by omega)
  have hX : X.length ≤ 100000000 := by omega
  have EX' : nv Bs X = nv Bs xs := by rw [EX, dg_nv Bs_two]
  rw [← EX']
  obtain ⟨b, hb⟩ : ∃ b, K / 32 = b := ⟨_, rfl⟩
  obtain ⟨s, hs⟩ : ∃ s, K % 32 = s := ⟨_, rfl⟩
  have hs32 : s < 32 := by omega
  have hb64 : b ≤ 288230376151711744 := by omega
  have ebw : wrap64 (b : Int) = (b : Int) := by unfold wrap64; omega
  have HK : Hid (K = 32 * b + s) := by show _ = _; omega
  have eb : Int.tdiv (K : Int) 32 = (b : Int) := by rw [Int.tdiv_eq_ediv_of_nonneg (by omega)]; omega
  have es : Int.tmod (K : Int) 32 = (s : Int) := by rw [Int.tmod_eq_emod_of_nonneg (by omega)]; omega
  have eb2 : (K : Int) / 32 = (b : Int) := by omega
  have es2 : (K : Int) % 32 = (s : Int) := by omega
  have hK0 : decide ((K : Int) < 0) = false := by simp
  clear hb hs
  by_cases hbX : X.length ≤ b
  · have HV : Hid (dg Bs (nv Bs X / 2 ^ K) = []) := by
      have h3 := nv_lt Bs_pos SX
      have h4 : nv Bs X < 2 ^ K := by
        rw [← pow_32 b s K HK.out]
        refine Nat.lt_of_lt_of_le h3 (Nat.le_trans (Nat.pow_le_pow_right Bs_pos hbX) (Nat.le_mul_of_pos_right _ (Nat.pow_pos (by decide))))
      show _ = _
      rw [Nat.div_eq_of_lt h4, dg_zero]
    clear EX EX' RX SX hv h1 lx1 lx2
    go_enter Try.func61, Try.ntmps61
    go_wp2_with fail
    refine P1.mono ?_
    clear P1
    rintro e w ⟨rfl, rfl⟩
    go_wp2
    go_ret
    rw [HV.out]
    exact ⟨_, rfl, Ow.nil _ _, Below.refl _ _⟩
  · have hbX2 : b < X.length := by omega
    obtain ⟨gx, ox, rfl, hgx, _⟩ := RX.cell (by omega)
    obtain ⟨N, HN⟩ : ∃ N, Hid (N = X.length - b) := ⟨_, rfl⟩
    obtain ⟨Y, HY⟩ : ∃ Y, Hid (Y = X.drop b) := ⟨X.drop b, (rfl : X.drop b = _)⟩
    have HYl : Hid (N = Y.length) := by show _ = _; rw [HN.out, HY.out, List.length_drop]
    have HYr : Hid (Rn w (some ⟨gx, ox + b, none⟩) Y) := by have := RX.drop b; rw [← HY.out] at this; exact this
    have HYs : Hid (Sm Bs Y) := by show Sm _ _; rw [HY.out]; exact SX.drop b
    have hN0 : 0 < N := by rw [HN.out]; omega
    have hN1 : N ≤ 100000000 := by rw [HN.out]; omega
    have eN : X.length - b = N := HN.out.symm
    have HSX : Hid (Sm Bs X) := SX
    have hbXc : b < cx := by omega
    obtain ⟨wm, hmk, hbm, hbel, hsz⟩ := madeU w N (by omega)
    have HM : Hid (Bl 29 wm w.heap.size (([] ++ [] ++ (List.replicate N 0).drop 0 ++ []).map U) ∧ Below w.heap.size w wm) := ⟨by simpa using hbm, hbel⟩
    have hgeB : decide ((b : Int) ≥ (X.length : Int)) = false := decide_eq_false (by omega)
    clear EX EX' RX SX hv h1 lx1 lx2 hbm hbel hsz
    go_enter Try.func61, Try.ntmps61
    go_wp2_with fail
    refine P1.mono ?_
    clear P1
    rintro e w ⟨rfl, rfl⟩
    go_wp2
    clear hmk
    go_loopw [27] (fun s27 wr => ∃ (i : Nat) (ds : List Nat), s27 = .int .i64 (i : Int) ∧ i ≤ N ∧ Hid (ds.length = i ∧ Sm Bs ds ∧ Bl 29 wr w.heap.size (([] ++ ds ++ (List.replicate N 0).drop i ++ []).map U) ∧ 2 ^ s * nv Bs ds + Y.getD 0 0 % 2 ^ s = nv Bs (Y.take i) + Bs ^ i * (Y.getD i 0 % 2 ^ s) ∧ Below w.heap.size w wr)) (fun s _ => N - (intOf s).toNat)
    case atStart => exact ⟨0, [], rfl, Nat.zero_le _, (rfl : ([] : List Nat).length = 0), Sm.nil _, HM.out.1, by simp [nv], HM.out.2⟩
    case round =>
      obtain ⟨i, ds, rfl, hi, HI⟩ := hrel
      by_cases hlt : i < N
      · have RW := HYr.out.below HI.out.2.2.2.2 (Nat.le_refl _)
        obtain ⟨g', o', e', _, cy⟩ := RW.cell (by have := HYl.out; omega)
        cases e'
        have c1 := cy i (by have := HYl.out; omega)
        obtain ⟨y, Hy⟩ : ∃ y, Hid (Y.getD i 0 = y) := ⟨_, rfl⟩
        obtain ⟨y', Hy'⟩ : ∃ y, Hid (Y.getD (i + 1) 0 = y) := ⟨_, rfl⟩
        rw [Hy.out] at c1
        have hy : y < 4294967296 := by rw [← Hy.out, ← Bs_eq]; exact HYs.out.getD Bs_pos i
        have hy' : y' < 4294967296 := by rw [← Hy'.out, ← Bs_eq]; exact HYs.out.getD Bs_pos (i + 1)
        have C := at_nat (some ⟨gx, ox + b, none⟩) N (cx - b) (i + 1) Y wr RW HYl.out
        rw [Hy'.out, show ((i + 1 : Nat) : Int) = (i : Int) + 1 from by omega] at C
        have HB2 : Hid (Bl 29 wr w.heap.size (([] ++ ds ++ (0 :: (List.replicate N 0).drop (i + 1)) ++ []).map U)) := by
          have := HI.out.2.2.1
          rw [take_zero_drop N hN0 i hlt] at this
          exact this
        have gc := mid_cell HB2.out (o := i) (by rw [HI.out.1]; simp)
        have gf := HB2.out.frozen i
        have eor := or_pair y' y hy' hy
        obtain ⟨p, Hp⟩ : ∃ p, Hid (y' * 4294967296 + y = p) := ⟨_, rfl⟩
        rw [Hp.out] at eor
        have hp : p < 18446744073709551616 := by have := Hp.out; omega
        have HS := shr_limb y y' s hs32 hy
        rw [Hp.out] at HS
        have HHS : Hid (2 ^ s * (p / 2 ^ s % 4294967296) + y % 2 ^ s = y + 4294967296 * (y' % 2 ^ s)) := HS
        obtain ⟨t, Ht⟩ : ∃ t, Hid (p / 2 ^ s = t) := ⟨_, rfl⟩
        rw [Ht.out] at HHS
        have et : (p : Int) / 2 ^ s = (t : Int) := by rw [← Ht.out]; simp
        have ht : t < 18446744073709551616 := by rw [← Ht.out]; exact Nat.lt_of_le_of_lt (Nat.div_le_self _ _) hp
        have e3 : IntKind.u32.wrap (t : Int) = ((t % 4294967296 : Nat) : Int) := by rw [IntKind.wrap_u32]; omega
        clear cy RW HS
        go_wp2_with fail
        refine C.mono ?_
        clear C
        rintro e wr ⟨rfl, rfl⟩
        go_wp2
        go_roundw
        case rel =>
          have e5 : (t : Int) % 4294967296 = ((t % 4294967296 : Nat) : Int) := by omega
          rw [e5]
          refine ⟨i + 1, ds ++ [t % 4294967296], by go_num, by omega, ?_, HI.out.2.1.snoc (by rw [Bs_eq]; omega), mid_bl HB2.out (by rw [HI.out.1]; simp) _, ?_, HI.out.2.2.2.2.setCell (Nat.le_refl _) _⟩
          · rw [List.length_append, HI.out.1]; rfl
          · have h1 := HI.out.2.2.2.1
            rw [Hy.out] at h1
            rw [nv_snoc, nv_take_succ, HI.out.1, Hy.out, Hy'.out, Nat.pow_succ]
            exact shr_step _ _ _ _ _ _ _ _ _ _ h1 (by rw [Bs_eq]; exact HHS.out)
        case measure => simp [intOf]; omega
      · obtain rfl : i = N := by omega
        have h1 := HI.out.2.2.2.1
        rw [getD_none Y i (by have := HYl.out; omega), List.take_of_length_le (by have := HYl.out; omega), Nat.zero_mod, Nat.mul_zero, Nat.add_zero, HY.out] at h1
        have HF : Hid (nv Bs ds = nv Bs X / 2 ^ K) := by
          show _ = _
          rw [← pow_32 b s K HK.out]
          exact shr_value b s X ds HSX.out (by omega) _ (Nat.mod_lt _ (Nat.pow_pos (by decide))) h1
        have hbW : Bl 29 wr w.heap.size (ds.map U) := by
          have := HI.out.2.2.1
          rw [List.drop_of_length_le (by simp), List.append_nil, List.append_nil] at this
          exact this
        have C3 := proper_any (some ⟨w.heap.size, 0, none⟩) i i ds wr hbW.rn HI.out.1.symm (Nat.le_refl _) (by omega)
        have HA : Hid (Ow wr w.heap.size (.slice (some ⟨w.heap.size, 0, none⟩) (tl ds) i) (dg Bs (nv Bs ds))) := by
          have := Bl.proper (w := wr) (base := w.heap.size) (g := w.heap.size) (L := ds) hbW HI.out.2.1 (Nat.le_refl _) (by rw [HI.out.1]; omega)
          rw [HI.out.1] at this
          exact this
        clear h1 hbW
        go_wp2_with fail
        refine C3.mono ?_
        clear C3
        rintro e wr ⟨rfl, rfl⟩
        go_wp2
        go_ret
        rw [← HF.out]
        exact ⟨_, rfl, HA.out, HI.out.2.2.2.2⟩

set_option maxHeartbeats 1000000 in
theorem shr_neg (k : Int) (hk : k < 0) (v : Value) (xs : List Nat) (w : World) (hv : Nm w v xs) (h1 : xs.length ≤ 100000000) :
    Calls Try.prog 61 #[v, .int .i64 k] w fun e w' => ∃ r, e = .returned r ∧ Ow w' w.heap.size r (dg Bs (nv Bs xs / 2 ^ 0)) ∧ Below w.heap.size w w' := by
  obtain ⟨ax, cx, X, P1, lx1, lx2, RX, SX, EX⟩ := proper_nm v xs w hv (by omega)
  have hX : X.length ≤ 100000000 := by omega
  have EX' : nv Bs X = nv Bs xs := by rw [EX, dg_nv Bs_two]
  rw [← EX']
  have hs32 : 0 < 32 := by decide
  have HK : Hid (0 = 32 * 0 + 0) := rfl
  by_cases hbX : X.length ≤ 0
  · have HV : Hid (dg Bs (nv Bs X / 2 ^ 0) = []) := by
      have h3 := nv_lt Bs_pos SX
      have h4 : nv Bs X < 2 ^ 0 := by
        rw [← pow_32 0 0 0 HK.out]
        refine Nat.lt_of_lt_of_le h3 (Nat.le_trans (Nat.pow_le_pow_right Bs_pos hbX) (Nat.le_mul_of_pos_right _ (Nat.pow_pos (by decide))))
      show _ = _
      rw [Nat.div_eq_of_lt h4, dg_zero]
    clear EX EX' RX SX hv h1 lx1 lx2
    obtain ⟨n0, hn0⟩ : ∃ n : Nat, X.length = n := ⟨_, rfl⟩
    have hn00 : n0 = 0 := by omega
    subst hn00; rw [hn0] at P1; clear hn0 hbX hX
    go_enter Try.func61, Try.ntmps61
    go_wp2_with fail
    refine P1.mono ?_
    clear P1
    rintro e w ⟨rfl, rfl⟩
    go_wp2
    go_ret
    rw [HV.out]
    exact ⟨_, rfl, Ow.nil _ _, Below.refl _ _⟩
  · have hbX2 : 0 < X.length := by omega
    obtain ⟨gx, ox, rfl, hgx, _⟩ := RX.cell (by omega)
    have HN : Hid (X.length = X.length - 0) := rfl
    obtain ⟨Y, HY⟩ : ∃ Y, Hid (Y = X.drop 0) := ⟨X.drop 0, (rfl : X.drop 0 = _)⟩
    have HYl : Hid (X.length = Y.length) := by show _ = _; rw [HY.out]; rfl
    have HYr : Hid (Rn w (some ⟨gx, ox, none⟩) Y) := by have := RX.drop 0; rw [← HY.out] at this; exact this
    have HYs : Hid (Sm Bs Y) := by show Sm _ _; rw [HY.out]; exact SX.drop 0
    have hN0 : 0 < X.length := by omega
    have hN1 : X.length ≤ 100000000 := by omega
    have HSX : Hid (Sm Bs X) := SX
    have hbXc : 0 < cx := by omega
    obtain ⟨wm, hmk, hbm, hbel, hsz⟩ := madeU w X.length (by omega)
    have HM : Hid (Bl 29 wm w.heap.size (([] ++ [] ++ (List.replicate X.length 0).drop 0 ++ []).map U) ∧ Below w.heap.size w wm) := ⟨by simpa using hbm, hbel⟩
    have hdec : decide (X = []) = false := decide_eq_false (fun e => by rw [e] at hbX2; simp at hbX2)
    have hgeB : decide ((0 : Int) ≥ (X.length : Int)) = false := decide_eq_false (by omega)
    clear EX EX' RX SX hv h1 lx1 lx2 hbm hbel hsz
    go_enter Try.func61, Try.ntmps61
    go_wp2_with fail
    refine P1.mono ?_
    clear P1
    rintro e w ⟨rfl, rfl⟩
    go_wp2
    clear hmk
    go_loopw [27] (fun s27 wr => ∃ (i : Nat) (ds : List Nat), s27 = .int .i64 (i : Int) ∧ i ≤ X.length ∧ Hid (ds.length = i ∧ Sm Bs ds ∧ Bl 29 wr w.heap.size (([] ++ ds ++ (List.replicate X.length 0).drop i ++ []).map U) ∧ 2 ^ 0 * nv Bs ds + Y.getD 0 0 % 2 ^ 0 = nv Bs (Y.take i) + Bs ^ i * (Y.getD i 0 % 2 ^ 0) ∧ Below w.heap.size w wr)) (fun s _ => X.length - (intOf s).toNat)
    case atStart => exact ⟨0, [], rfl, Nat.zero_le _, (rfl : ([] : List Nat).length = 0), Sm.nil _, HM.out.1, by simp [nv], HM.out.2⟩
    case round =>
      obtain ⟨i, ds, rfl, hi, HI⟩ := hrel
      by_cases hlt : i < X.length
      · have RW := HYr.out.below HI.out.2.2.2.2 (Nat.le_refl _)
        obtain ⟨g', o', e', _, cy⟩ := RW.cell (by have := HYl.out; omega)
        cases e'
        have c1 := cy i (by have := HYl.out; omega)
        obtain ⟨y, Hy⟩ : ∃ y, Hid (Y.getD i 0 = y) := ⟨_, rfl⟩
        obtain ⟨y', Hy'⟩ : ∃ y, Hid (Y.getD (i + 1) 0 = y) := ⟨_, rfl⟩
        rw [Hy.out] at c1
        have hy : y < 4294967296 := by rw [← Hy.out, ← Bs_eq]; exact HYs.out.getD Bs_pos i
        have hy' : y' < 4294967296 := by rw [← Hy'.out, ← Bs_eq]; exact HYs.out.getD Bs_pos (i + 1)
        have C := at_nat (some ⟨gx, ox, none⟩) X.length cx (i + 1) Y wr RW HYl.out
        rw [Hy'.out, show ((i + 1 : Nat) : Int) = (i : Int) + 1 from by omega] at C
        have HB2 : Hid (Bl 29 wr w.heap.size (([] ++ ds ++ (0 :: (List.replicate X.length 0).drop (i + 1)) ++ []).map U)) := by
          have := HI.out.2.2.1
          rw [take_zero_drop X.length hN0 i hlt] at this
          exact this
        have gc := mid_cell HB2.out (o := i) (by rw [HI.out.1]; simp)
        have gf := HB2.out.frozen i
        have eor := or_pair y' y hy' hy
        obtain ⟨p, Hp⟩ : ∃ p, Hid (y' * 4294967296 + y = p) := ⟨_, rfl⟩
        rw [Hp.out] at eor
        have hp : p < 18446744073709551616 := by have := Hp.out; omega
        have HS := shr_limb y y' 0 hs32 hy
        rw [Hp.out] at HS
        have HHS : Hid (2 ^ 0 * (p / 2 ^ 0 % 4294967296) + y % 2 ^ 0 = y + 4294967296 * (y' % 2 ^ 0)) := HS
        have Ht : Hid (p / 2 ^ 0 = p) := Nat.div_one p
        rw [Ht.out] at HHS
        have e3 : IntKind.u32.wrap (p : Int) = ((p % 4294967296 : Nat) : Int) := by rw [IntKind.wrap_u32]; omega
        clear cy RW HS
        go_wp2_with fail
        refine C.mono ?_
        clear C
        rintro e wr ⟨rfl, rfl⟩
        go_wp2
        go_roundw
        case rel =>
          have e5 : (p : Int) % 4294967296 = ((p % 4294967296 : Nat) : Int) := by omega
          rw [e5]
          refine ⟨i + 1, ds ++ [p % 4294967296], by go_num, by omega, ?_, HI.out.2.1.snoc (by rw [Bs_eq]; omega), mid_bl HB2.out (by rw [HI.out.1]; simp) _, ?_, HI.out.2.2.2.2.setCell (Nat.le_refl _) _⟩
          · rw [List.length_append, HI.out.1]; rfl
          · have h1 := HI.out.2.2.2.1
            rw [Hy.out] at h1
            rw [nv_snoc, nv_take_succ, HI.out.1, Hy.out, Hy'.out, Nat.pow_succ]
            exact shr_step _ _ _ _ _ _ _ _ _ _ h1 (by rw [Bs_eq]; exact HHS.out)
        case measure => simp [intOf]; omega
      · obtain rfl : i = X.length := by omega
        have h1 := HI.out.2.2.2.1
        rw [getD_none Y X.length (by have := HYl.out; omega), List.take_of_length_le (by have := HYl.out; omega), Nat.zero_mod, Nat.mul_zero, Nat.add_zero, HY.out] at h1
        have HF : Hid (nv Bs ds = nv Bs X / 2 ^ 0) := by
          show _ = _
          rw [← pow_32 0 0 0 rfl]
          exact shr_value 0 0 X ds HSX.out (by omega) _ (Nat.mod_lt _ (Nat.pow_pos (by decide))) h1
        have hbW : Bl 29 wr w.heap.size (ds.map U) := by
          have := HI.out.2.2.1
          rw [List.drop_of_length_le (by simp), List.append_nil, List.append_nil] at this
          exact this
        have C3 := proper_any (some ⟨w.heap.size, 0, none⟩) X.length X.length ds wr hbW.rn HI.out.1.symm (Nat.le_refl _) (by omega)
        have HA : Hid (Ow wr w.heap.size (.slice (some ⟨w.heap.size, 0, none⟩) (tl ds) X.length) (dg Bs (nv Bs ds))) := by
          have := Bl.proper (w := wr) (base := w.heap.size) (g := w.heap.size) (L := ds) hbW HI.out.2.1 (Nat.le_refl _) (by rw [HI.out.1]; omega)
          rw [HI.out.1] at this
          exact this
        clear h1 hbW
        go_wp2_with fail
        refine C3.mono ?_
        clear C3
        rintro e wr ⟨rfl, rfl⟩
        go_wp2
        go_ret
        rw [← HF.out]
        exact ⟨_, rfl, HA.out, HI.out.2.2.2.2⟩

end Go.Proofs.Ytecapoknnnoheaa
