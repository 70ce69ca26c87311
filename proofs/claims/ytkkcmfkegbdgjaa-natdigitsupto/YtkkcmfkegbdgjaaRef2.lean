import Derived.Test.YtkkcmfkegbdgjaaRef1
namespace Go.Proofs.Ytkkcmfkegbdgjaa
open Go.RowKit

theorem sub_limb (x y bw : Nat) (hx : x < 4294967296) (hy : y < 4294967296) (hb : bw ≤ 1) : ∃ z b' : Nat, z < 4294967296 ∧ b' ≤ 1 ∧ z + bw + 1 * y = x + 4294967296 * b' ∧ (x < y + bw → b' = 1 ∧ (x : Int) + 4294967296 - ((y + bw : Nat) : Int) = (z : Int)) ∧ (¬ x < y + bw → b' = 0 ∧ (x : Int) - ((y + bw : Nat) : Int) = (z : Int)) := by
  by_cases h : x < y + bw
  · exact ⟨x + 4294967296 - (y + bw), 1, by omega, by omega, by omega, fun _ => ⟨rfl, by omega⟩, fun h2 => absurd h h2⟩
  · exact ⟨x - (y + bw), 0, by omega, by omega, by omega, fun h2 => absurd h2 h, fun _ => ⟨rfl, by omega⟩⟩

set_option maxHeartbeats 1000000 in
theorem rsub_any (ax ay : Option Addr) (cx cY : Nat) (xs ys : List Nat) (w : World) (hcx : xs.length ≤ cx) (hcy : ys.length ≤ cY) (hx : Rn w ax xs) (hy : Rn w ay ys) (sx : Sm Bs xs) (sy : Sm Bs ys) (h1 : xs.length ≤ 100000000) (h2 : ys.length ≤ 100000000) :
    Calls Try.prog 16 #[.slice ax xs.length cx, .slice ay ys.length cY] w fun e w' => ∃ r, e = .returned (.tuple #[r, .bool (decide (nv Bs ys ≤ nv Bs xs))]) ∧ Ow w' w.heap.size r (dg Bs (nv Bs xs - nv Bs ys)) ∧ Below w.heap.size w w' := by
  have CC := rcmp_nm (.slice ax xs.length cx) (.slice ay ys.length cY) xs ys w ⟨_, _, rfl, hcx, hx, sx⟩ ⟨_, _, rfl, hcy, hy, sy⟩ (by omega) (by omega)
  have HX : Hid (Rn w ax xs) := hx
  have HY : Hid (Rn w ay ys) := hy
  have HSX : Hid (Sm Bs xs) := sx
  have HSY : Hid (Sm Bs ys) := sy
  have HN0 : Hid (OB w.heap.size w w (.slice none 0 0) []) := OB.nil w
  clear hx hy sx sy hcx hcy
  by_cases hlt : nv Bs xs < nv Bs ys
  · rw [cmp3_lt (by omega)] at CC
    have HT : Hid (dg Bs (nv Bs xs - nv Bs ys) = [] ∧ decide (nv Bs ys ≤ nv Bs xs) = false) := ⟨by rw [show nv Bs xs - nv Bs ys = 0 by omega, dg_zero], decide_eq_false (by omega)⟩
    clear hlt HN0
    go_enter Try.func16, Try.ntmps16
    go_wp2_with fail
    refine CC.mono ?_
    rintro e w ⟨rfl, rfl⟩
    go_wp2
    go_ret2
    rw [HT.out.1, HT.out.2]
    exact ⟨_, rfl, Ow.nil _ _, Below.refl _ _⟩
  · obtain ⟨o, ho, hob⟩ : ∃ o : Int, cmp3 (nv Bs xs) (nv Bs ys) = o ∧ decide (o < 0) = false := by
      rcases Nat.lt_or_ge (nv Bs ys) (nv Bs xs) with h | h
      · exact ⟨1, cmp3_gt (by omega), by decide⟩
      · exact ⟨0, cmp3_eq (by omega), by decide⟩
    rw [ho] at CC
    have HG : Hid (nv Bs ys ≤ nv Bs xs) := by show _ ≤ _; omega
    clear hlt ho
    go_enter Try.func16, Try.ntmps16
    go_wp2_with fail
    refine CC.mono ?_
    clear CC
    rintro e w ⟨rfl, rfl⟩
    go_wp2
    go_loopw [6, 7, 8] (fun s6 s7 s8 wr => ∃ (i bw : Nat) (ds : List Nat), s7 = .int .u64 (bw : Int) ∧ s8 = .int .i64 (i : Int) ∧ i ≤ xs.length ∧ bw ≤ 1 ∧ Hid (OB w.heap.size w wr s6 ds ∧ ds.length = i ∧ Sm Bs ds ∧ nv Bs ds + 1 * nv Bs (ys.take i) = nv Bs (xs.take i) + Bs ^ i * bw)) (fun _ _ s _ => xs.length - (intOf s).toNat)
    case atStart => exact ⟨0, 0, [], rfl, rfl, Nat.zero_le _, by omega, HN0.out, rfl, Sm.nil _, by simp [nv]⟩
    case round =>
      clear HN0
      obtain ⟨i, bw, ds, rfl, rfl, hi, hbw, HI⟩ := hrel
      have HDl : Hid (ds.length ≤ 1000000000) := by show _ ≤ _; rw [HI.out.2.1]; omega
      by_cases hlt : i < xs.length
      · have C1 := rlimb_any ax xs.length cx i xs wr (HX.out.below HI.out.1.bel (Nat.le_refl _)) HSX.out rfl
        have C2 := rlimb_any ay ys.length cY i ys wr (HY.out.below HI.out.1.bel (Nat.le_refl _)) HSY.out rfl
        obtain ⟨x, Hx⟩ : ∃ x, Hid (xs.getD i 0 = x) := ⟨_, rfl⟩
        obtain ⟨y, Hy⟩ : ∃ y, Hid (ys.getD i 0 = y) := ⟨_, rfl⟩
        have hx : x < 4294967296 := by rw [← Hx.out, ← Bs_eq]; exact HSX.out.getD Bs_pos i
        have hy : y < 4294967296 := by rw [← Hy.out, ← Bs_eq]; exact HSY.out.getD Bs_pos i
        rw [Hx.out] at C1
        rw [Hy.out] at C2
        obtain ⟨z, b', hz, hb', hzb, hlo1, hlo2⟩ := sub_limb x y bw hx hy hbw
        have HN : Hid ((ds ++ [z]).length = i + 1 ∧ Sm Bs (ds ++ [z]) ∧ nv Bs (ds ++ [z]) + 1 * nv Bs (ys.take (i + 1)) = nv Bs (xs.take (i + 1)) + Bs ^ (i + 1) * b') := by
          refine ⟨by rw [List.length_append, HI.out.2.1]; rfl, HI.out.2.2.1.snoc (by rw [Bs_eq]; omega), ?_⟩
          rw [nv_snoc, nv_take_succ, nv_take_succ, HI.out.2.1, Hx.out, Hy.out, Nat.pow_succ]
          exact take_step _ _ _ _ _ _ _ _ _ _ _ HI.out.2.2.2 (by rw [Bs_eq]; exact hzb)
        clear hzb
        obtain ⟨yb, Hyb⟩ : ∃ yb, Hid (y + bw = yb) := ⟨_, rfl⟩
        have eyb : (y : Int) + (bw : Int) = (yb : Int) := by rw [← Hyb.out]; omega
        have ebw : IntKind.u64.wrap (yb : Int) = (yb : Int) := by rw [IntKind.wrap_u64, ← Hyb.out]; omega
        have hyb : yb ≤ 4294967296 := by rw [← Hyb.out]; omega
        have e5 : IntKind.u32.wrap (z : Int) = (z : Int) := by rw [IntKind.wrap_u32]; omega
        rw [Hyb.out] at hlo1 hlo2
        by_cases hxy : x < yb
        · skip
          have hc1 : decide ((x : Int) < (yb : Int)) = true := decide_eq_true (by omega)
          have hb1 := (hlo1 (by omega)).1
          have hz1 := (hlo1 (by omega)).2

          have ew1 : IntKind.u64.wrap ((x : Int) + 4294967296) = (x : Int) + 4294967296 := by rw [IntKind.wrap_u64]; omega
          have ew2 : IntKind.u64.wrap (z : Int) = (z : Int) := by rw [IntKind.wrap_u64]; omega
          subst hb1
          clear hlo1 hlo2 hxy
          go_wp2_with fail
          refine C1.mono ?_
          clear C1
          rintro e wr ⟨rfl, rfl⟩
          go_wp2_with fail
          refine C2.mono ?_
          clear C2
          rintro e wr ⟨rfl, rfl⟩
          go_wp2_with (at_builtin; refine append_one (w := w) rfl (.tmp 34) (.tmp 39) rfl w.heap.size _ ds z rfl HI.out.1 rfl HDl.out (Nat.le_refl _) ?_; intro v5 w5 h5)
          have HO : Hid (OB w.heap.size w w5 v5 (ds ++ [z])) := h5
          clear h5
          go_wp2
          go_roundw
          case rel => exact ⟨i + 1, 1, ds ++ [z], rfl, by go_num, by omega, by omega, HO.out, HN.out⟩
          case measure => simp [intOf]; omega
        · skip
          have hc1 : decide ((x : Int) < (yb : Int)) = false := decide_eq_false (by omega)
          have hb1 := (hlo2 (by omega)).1
          have hz1 := (hlo2 (by omega)).2

          have ew2 : IntKind.u64.wrap (z : Int) = (z : Int) := by rw [IntKind.wrap_u64]; omega
          subst hb1
          clear hlo1 hlo2 hxy
          go_wp2_with fail
          refine C1.mono ?_
          clear C1
          rintro e wr ⟨rfl, rfl⟩
          go_wp2_with fail
          refine C2.mono ?_
          clear C2
          rintro e wr ⟨rfl, rfl⟩
          go_wp2_with (at_builtin; refine append_one (w := w) rfl (.tmp 34) (.tmp 39) rfl w.heap.size _ ds z rfl HI.out.1 rfl HDl.out (Nat.le_refl _) ?_; intro v5 w5 h5)
          have HO : Hid (OB w.heap.size w w5 v5 (ds ++ [z])) := h5
          clear h5
          go_wp2
          go_roundw
          case rel => exact ⟨i + 1, 0, ds ++ [z], rfl, by go_num, by omega, by omega, HO.out, HN.out⟩
          case measure => simp [intOf]; omega
      · obtain rfl : i = xs.length := by omega
        have hval := HI.out.2.2.2
        rw [List.take_of_length_le (l := xs) (Nat.le_refl _), nv_low Bs_pos ys xs.length (Nat.lt_of_le_of_lt HG.out (nv_lt Bs_pos HSX.out))] at hval
        have HV : Hid (nv Bs ds = nv Bs xs - nv Bs ys) := diff_exact Bs_pos xs.length bw _ _ HI.out.2.2.1 HI.out.2.1 (nv_lt Bs_pos HSX.out) HG.out hval
        have C := HI.out.1.proper HI.out.2.2.1 (by rw [HI.out.2.1]; omega)
        rw [HV.out] at C
        clear hval
        go_wp2_with fail
        refine C.mono ?_
        clear C
        rintro e w6 ⟨r, rfl, h6, h7⟩
        have HR : Hid (Ow w6 w.heap.size r (dg Bs (nv Bs xs - nv Bs ys)) ∧ Below w.heap.size w w6) := ⟨h6, h7⟩
        clear h6 h7
        go_wp2
        go_ret2
        rw [decide_eq_true HG.out]
        exact ⟨r, rfl, HR.out⟩

theorem rsub_nm (v u : Value) (xs ys : List Nat) (w : World) (hv : Nm w v xs) (hu : Nm w u ys) (h1 : xs.length ≤ 100000000) (h2 : ys.length ≤ 100000000) :
    Calls Try.prog 16 #[v, u] w fun e w' => ∃ r, e = .returned (.tuple #[r, .bool (decide (nv Bs ys ≤ nv Bs xs))]) ∧ Ow w' w.heap.size r (dg Bs (nv Bs xs - nv Bs ys)) ∧ Below w.heap.size w w' := by
  obtain ⟨ax, cx, rfl, hcx, hx, sx⟩ := hv
  obtain ⟨ay, cy, rfl, hcy, hy, sy⟩ := hu
  exact rsub_any ax ay cx cy xs ys w hcx hcy hx hy sx sy h1 h2

theorem times_step (B p A c X x v c' d Z q : Nat) (h : A + p * c = Z * (d * X)) (hs : v + B * c' = x * d + c) (hp : p = Z * q) : (A + p * v) + (p * B) * c' = Z * (d * (X + q * x)) := by
  have h1 := congrArg (p * ·) hs
  have h2 : Z * (d * (q * x)) = p * (x * d) := by rw [hp]; ac_rfl
  rw [Nat.mul_add, Nat.mul_add, h2]
  simp only [Nat.mul_add, ← Nat.mul_assoc] at h1 h ⊢
  omega

set_option maxHeartbeats 1000000 in
theorem rtimes_any (ax : Option Addr) (cx d n : Nat) (xs : List Nat) (w : World) (hx : Rn w ax xs) (sx : Sm Bs xs) (hd : d < 4294967296) (h1 : xs.length ≤ 100000000) (h2 : n ≤ 100000000) :
    Calls Try.prog 59 #[.slice ax xs.length cx, .int .u32 (d : Int), .int .i64 (n : Int)] w fun e w' => ∃ r L, e = .returned r ∧ Ow w' w.heap.size r L ∧ L.length = n + xs.length + 1 ∧ Sm Bs L ∧ nv Bs L = Bs ^ n * (d * nv Bs xs) ∧ Below w.heap.size w w' := by
  have HX : Hid (Rn w ax xs) := hx
  have HSX : Hid (Sm Bs xs) := sx
  have HN0 : Hid (OB w.heap.size w w (.slice none 0 0) (List.replicate 0 0)) := OB.nil w
  clear hx sx
  go_enter Try.func59, Try.ntmps59
  go_wp2
  go_loopw [7, 8] (fun s7 s8 wr => ∃ i : Nat, s8 = .int .i64 (i : Int) ∧ i ≤ n ∧ Hid (OB w.heap.size w wr s7 (List.replicate i 0))) (fun _ s _ => n - (intOf s).toNat)
  case atStart => exact ⟨0, rfl, Nat.zero_le _, HN0⟩
  case round =>
    clear HN0
    obtain ⟨i, rfl, hi, HI⟩ := hrel
    by_cases hlt : i < n
    · have hl : (List.replicate i 0).length ≤ 1000000000 := by rw [List.length_replicate]; omega
      have HL : Hid ((List.replicate i 0).length ≤ 1000000000) := hl
      clear hl
      go_wp2_with (at_builtin; refine append_one (w := w) rfl (.tmp 17) (.tmp 18) rfl w.heap.size _ (List.replicate i 0) 0 rfl HI.out rfl HL.out (Nat.le_refl _) ?_; intro v5 w5 h5)
      have HO : Hid (OB w.heap.size w w5 v5 (List.replicate (i + 1) 0)) := by rw [List.replicate_succ']; exact h5
      clear h5
      go_wp2
      go_roundw
      case rel => exact ⟨i + 1, by go_num, by omega, HO⟩
      case measure => simp [intOf]; omega
    · obtain rfl : i = n := by omega
      have HI0 : Hid (OB w.heap.size w wr u7 (List.replicate i 0 ++ [])) := by rw [List.append_nil]; exact HI.out
      go_wp2
      go_loopw [7, 9, 10] (fun s7 s9 s10 wq => ∃ (k c : Nat) (ds : List Nat), s9 = .int .u64 (c : Int) ∧ s10 = .int .i64 (k : Int) ∧ k ≤ xs.length ∧ c < 4294967296 ∧ Hid (OB w.heap.size w wq s7 ds ∧ ds.length = i + k ∧ Sm Bs ds ∧ nv Bs ds + Bs ^ (i + k) * c = Bs ^ i * (d * nv Bs (xs.take k)))) (fun _ _ s _ => xs.length - (intOf s).toNat)
      case atStart => exact ⟨0, 0, List.replicate i 0, rfl, rfl, Nat.zero_le _, by omega, HI.out, by simp, Sm.zeros _ Bs_pos, by rw [nv_zeros, List.take_zero, nv]; simp⟩
      case round =>
        clear HI HI0
        obtain ⟨k, c, ds, rfl, rfl, hk, hc, HI⟩ := hrel
        have HDl : Hid (ds.length ≤ 1000000000) := by show _ ≤ _; rw [HI.out.2.1]; omega
        by_cases hlk : k < xs.length
        · obtain ⟨gx, ox, rfl, _, cx'⟩ := (HX.out.below HI.out.1.bel (Nat.le_refl _)).cell (by omega)
          have c1 := cx' k hlk
          obtain ⟨x, Hx⟩ : ∃ x, Hid (xs.getD k 0 = x) := ⟨_, rfl⟩
          rw [Hx.out] at c1
          have hx : x < 4294967296 := by rw [← Hx.out, ← Bs_eq]; exact HSX.out.getD Bs_pos k
          obtain ⟨p, Hp⟩ : ∃ p, Hid (x * d = p) := ⟨_, rfl⟩
          have hp : p ≤ 18446744065119617025 := by rw [← Hp.out]; exact mul_lt_sq (by omega) (by omega)
          have ep : (x : Int) * (d : Int) = (p : Int) := by rw [← Hp.out]; simp
          have epw : IntKind.u64.wrap (p : Int) = (p : Int) := by rw [IntKind.wrap_u64]; omega
          obtain ⟨t, Ht⟩ : ∃ t, Hid (p + c = t) := ⟨_, rfl⟩
          have ht : t < 18446744073709551616 := by rw [← Ht.out]; omega
          have et : (p : Int) + (c : Int) = (t : Int) := by rw [← Ht.out]; omega
          have etw : IntKind.u64.wrap (t : Int) = (t : Int) := by rw [IntKind.wrap_u64]; omega
          obtain ⟨z, Hz⟩ : ∃ z, Hid (t % 4294967296 = z) := ⟨_, rfl⟩
          obtain ⟨c', Hc'⟩ : ∃ z, Hid (t / 4294967296 = z) := ⟨_, rfl⟩
          have hz : z < 4294967296 := by rw [← Hz.out]; omega
          have hc' : c' < 4294967296 := by rw [← Hc'.out]; omega
          have e2 : Int.tmod (t : Int) 4294967296 = (z : Int) := by rw [Int.tmod_eq_emod_of_nonneg (by omega), ← Hz.out]; omega
          have e2' : (t : Int) % 4294967296 = (z : Int) := by rw [← Hz.out]; omega
          have e3 : Int.tdiv (t : Int) 4294967296 = (c' : Int) := by rw [Int.tdiv_eq_ediv_of_nonneg (by omega), ← Hc'.out]; omega
          have e3' : (t : Int) / 4294967296 = (c' : Int) := by rw [← Hc'.out]; omega
          have e5 : IntKind.u32.wrap (z : Int) = (z : Int) := by rw [IntKind.wrap_u32]; omega
          have HN : Hid ((ds ++ [z]).length = i + (k + 1) ∧ Sm Bs (ds ++ [z]) ∧ nv Bs (ds ++ [z]) + Bs ^ (i + (k + 1)) * c' = Bs ^ i * (d * nv Bs (xs.take (k + 1)))) := by
            refine ⟨by rw [List.length_append, HI.out.2.1]; rfl, HI.out.2.2.1.snoc (by rw [Bs_eq]; omega), ?_⟩
            rw [nv_snoc, nv_take_succ, HI.out.2.1, Hx.out, ← Nat.add_assoc, Nat.pow_succ]
            exact times_step _ _ _ _ _ _ _ _ _ _ (Bs ^ k) HI.out.2.2.2 (by have := Hz.out; have := Hc'.out; have := Ht.out; rw [Bs_eq, Hp.out]; omega) (Nat.pow_add _ _ _)
          clear cx' Hz Hc'
          go_wp2_with (at_builtin; refine append_one (w := w) rfl (.tmp 36) (.tmp 40) rfl w.heap.size _ ds z rfl HI.out.1 rfl HDl.out (Nat.le_refl _) ?_; intro v5 w5 h5)
          have HO : Hid (OB w.heap.size w w5 v5 (ds ++ [z])) := h5
          clear h5
          go_wp2
          go_roundw
          case rel => exact ⟨k + 1, c', ds ++ [z], rfl, by go_num, by omega, hc', HO.out, HN.out⟩
          case measure => simp [intOf]; omega
        · obtain rfl : k = xs.length := by omega
          have e3 : IntKind.u32.wrap (c : Int) = (c : Int) := by rw [IntKind.wrap_u32]; omega
          have hval := HI.out.2.2.2
          rw [List.take_of_length_le (Nat.le_refl _)] at hval
          have HV : Hid ((ds ++ [c]).length = i + xs.length + 1 ∧ Sm Bs (ds ++ [c]) ∧ nv Bs (ds ++ [c]) = Bs ^ i * (d * nv Bs xs)) := ⟨by rw [List.length_append, HI.out.2.1]; rfl, HI.out.2.2.1.snoc (by rw [Bs_eq]; omega), by rw [nv_snoc, HI.out.2.1]; exact hval⟩
          clear hval
          go_wp2_with (at_builtin; refine append_one (w := w) rfl (.tmp 44) (.tmp 47) rfl w.heap.size _ ds c rfl HI.out.1 rfl HDl.out (Nat.le_refl _) ?_; intro v5 w5 h5)
          have HO : Hid (OB w.heap.size w w5 v5 (ds ++ [c])) := h5
          clear h5
          go_wp2
          go_ret
          exact ⟨v5, ds ++ [c], rfl, HO.out.own, HV.out.1, HV.out.2.1, HV.out.2.2, HO.out.bel⟩

set_option maxHeartbeats 1000000 in
theorem rmul_any (ax ay : Option Addr) (cx cY : Nat) (xs ys : List Nat) (w : World) (_hcx : xs.length ≤ cx) (hx : Rn w ax xs) (hy : Rn w ay ys) (sx : Sm Bs xs) (sy : Sm Bs ys) (h1 : xs.length ≤ 10000000) (h2 : ys.length ≤ 10000000) :
    Calls Try.prog 19 #[.slice ax xs.length cx, .slice ay ys.length cY] w fun e w' => ∃ r, e = .returned r ∧ Ow w' w.heap.size r (dg Bs (nv Bs xs * nv Bs ys)) ∧ Below w.heap.size w w' := by
  have HX : Hid (Rn w ax xs) := hx
  have HY : Hid (Rn w ay ys) := hy
  have HSX : Hid (Sm Bs xs) := sx
  have HSY : Hid (Sm Bs ys) := sy
  have HN0 : Hid (OB w.heap.size w w (.slice none 0 0) (dg Bs (nv Bs xs * nv Bs (ys.take 0)))) := by rw [List.take_zero, nv, Nat.mul_zero, dg_zero]; exact OB.nil w
  have HLn : Hid (∀ i, (dg Bs (nv Bs xs * nv Bs (ys.take i))).length ≤ 20000000) := fun i => by
    have := dgl_mul (nv Bs xs) (nv Bs (ys.take i)) xs.length (ys.take i).length (dgl_arg xs _ sx (Nat.le_refl _)) (dgl_arg _ _ (sy.take i) (Nat.le_refl _))
    have h3 : (ys.take i).length ≤ ys.length := by rw [List.length_take]; omega
    omega
  clear hx hy sx sy
  go_enter Try.func19, Try.ntmps19
  go_wp2
  go_loopw [5, 6, 7] (fun s5 s6 _ wr => ∃ i : Nat, s6 = .int .i64 (i : Int) ∧ i ≤ ys.length ∧ Hid (OB w.heap.size w wr s5 (dg Bs (nv Bs xs * nv Bs (ys.take i))))) (fun _ s _ _ => ys.length - (intOf s).toNat)
  case atStart => exact ⟨0, rfl, Nat.zero_le _, HN0⟩
  case round =>
    clear HN0
    obtain ⟨i, rfl, hi, HI⟩ := hrel
    by_cases hlt : i < ys.length
    · obtain ⟨gy, oy, rfl, _, cy'⟩ := (HY.out.below HI.out.bel (Nat.le_refl _)).cell (by omega)
      have c1 := cy' i hlt
      obtain ⟨y, Hy⟩ : ∃ y, Hid (ys.getD i 0 = y) := ⟨_, rfl⟩
      rw [Hy.out] at c1
      have hy : y < 4294967296 := by rw [← Hy.out, ← Bs_eq]; exact HSY.out.getD Bs_pos i
      clear cy'
      by_cases h0 : y = 0
      · subst h0
        have HO : Hid (OB w.heap.size w wr u5 (dg Bs (nv Bs xs * nv Bs (ys.take (i + 1))))) := by
          rw [nv_take_succ, Hy.out, Nat.mul_zero, Nat.add_zero]; exact HI.out
        rw [show ((0 : Nat) : Int) = 0 from rfl] at c1
        go_wp2
        go_roundw
        case rel => exact ⟨i + 1, by go_num, by omega, HO⟩
        case measure => simp [intOf]; omega
      · have hb : ((y : Int) != 0) = true := by simp; omega
        have C1 := rtimes_any ax cx y i xs wr (HX.out.below HI.out.bel (Nat.le_refl _)) HSX.out hy (by omega) (by omega)
        clear h0
        go_wp2_with fail
        refine C1.mono ?_
        clear C1
        rintro e w1 ⟨r, L, rfl, o1, l1, s1, v1, b1⟩
        have C2 := radd_nm u5 r _ L w1 ((HI.out.own.below b1 (Nat.le_refl _)).nm (dg_sm Bs_two _)) (o1.nm s1) (by have := HLn.out i; omega) (by omega)
        rw [dg_nv Bs_two, v1] at C2
        have HB1 : Hid (Below w.heap.size w w1) := HI.out.bel.trans (b1.mono HI.out.bel.size)
        clear o1 l1 s1 v1 b1
        go_wp2_with fail
        refine C2.mono ?_
        clear C2
        rintro e w2 ⟨r2, rfl, o2, b2⟩
        have HO : Hid (OB w.heap.size w w2 r2 (dg Bs (nv Bs xs * nv Bs (ys.take (i + 1))))) := by
          refine ⟨?_, HB1.out.trans (b2.mono HB1.out.size)⟩
          rw [nv_take_succ, Hy.out, Nat.mul_add, show nv Bs xs * (Bs ^ i * y) = Bs ^ i * (y * nv Bs xs) by ac_rfl]
          exact o2.base HB1.out.size
        clear o2 b2
        go_wp2
        go_roundw
        case rel => exact ⟨i + 1, by go_num, by omega, HO⟩
        case measure => simp [intOf]; omega
    · obtain rfl : i = ys.length := by omega
      have C := HI.out.proper (dg_sm Bs_two _) (by have := HLn.out ys.length; omega)
      rw [dg_nv Bs_two, List.take_of_length_le (Nat.le_refl _)] at C
      go_wp2_with fail
      refine C.mono ?_
      clear C
      rintro e w6 ⟨r, rfl, h6, h7⟩
      have HR : Hid (Ow w6 w.heap.size r (dg Bs (nv Bs xs * nv Bs ys)) ∧ Below w.heap.size w w6) := ⟨h6, h7⟩
      clear h6 h7
      go_wp2
      go_ret
      exact ⟨r, rfl, HR.out⟩

theorem rmul_nm (v u : Value) (xs ys : List Nat) (w : World) (hv : Nm w v xs) (hu : Nm w u ys) (h1 : xs.length ≤ 10000000) (h2 : ys.length ≤ 10000000) :
    Calls Try.prog 19 #[v, u] w fun e w' => ∃ r, e = .returned r ∧ Ow w' w.heap.size r (dg Bs (nv Bs xs * nv Bs ys)) ∧ Below w.heap.size w w' := by
  obtain ⟨ax, cx, rfl, hcx, hx, sx⟩ := hv
  obtain ⟨ay, cy, rfl, hcy, hy, sy⟩ := hu
  exact rmul_any ax ay cx cy xs ys w hcx hx hy sx sy h1 h2

end Go.Proofs.Ytkkcmfkegbdgjaa
