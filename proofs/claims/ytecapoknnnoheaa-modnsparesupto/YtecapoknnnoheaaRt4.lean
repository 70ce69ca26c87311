import Derived.Test.YtecapoknnnoheaaRtz
namespace Go.Proofs.Ytecapoknnnoheaa
open Go.RowKit

theorem u64_low (t : Nat) (h : t < 18446744073709551616) : bits .and .u64 (t : Int) 4294967295 = ((t % 4294967296 : Nat) : Int) := by
  have := u64_and_nat t 4294967295 (by omega) (by decide)
  rw [show (4294967295 : Nat) = 2 ^ 32 - 1 from rfl, Nat.and_two_pow_sub_one_eq_mod] at this
  exact this

set_option maxHeartbeats 2000000 in
theorem times_any (ax ay : Option Addr) (cx cy : Nat) (X Y : List Nat) (w : World) (hx : Rn w ax X) (hy : Rn w ay Y) (sx : Sm Bs X) (sy : Sm Bs Y) (hX : X.length ≤ 100000000) (hY : Y.length ≤ 100000000) :
    Calls Try.prog 42 #[.slice ax X.length cx, .slice ay Y.length cy] w fun e w' => ∃ r, e = .returned r ∧ Ow w' w.heap.size r (dg Bs (nv Bs X * nv Bs Y)) ∧ Below w.heap.size w w' := by
  obtain ⟨wm, hmk, hb, hbel, hsz⟩ := madeU w (X.length + Y.length) (by omega)
  rw [show ((X.length + Y.length : Nat) : Int) = (X.length : Int) + (Y.length : Int) from by omega] at hmk
  have HMS : Hid (MS w wm w.heap.size (X.length + Y.length) (List.replicate (X.length + Y.length) 0)) := ⟨hb, by simp, Sm.zeros _ Bs_pos, hbel⟩
  have HRX : Hid (Rn w ax X) := hx
  have HRY : Hid (Rn w ay Y) := hy
  have HSX : Hid (Sm Bs X) := sx
  have HSY : Hid (Sm Bs Y) := sy
  clear hx hy sx sy hb hbel hsz
  go_enter Try.func42, Try.ntmps42
  go_wp2
  clear hmk
  go_loopw [6] (fun s wr => ∃ (i : Nat) (P : List Nat), s = .int .i64 (i : Int) ∧ i ≤ X.length ∧ Hid (MS w wr w.heap.size (X.length + Y.length) P ∧ nv Bs P = nv Bs (X.take i) * nv Bs Y ∧ ∀ j, i + Y.length ≤ j → P.getD j 0 = 0)) (fun s _ => X.length - (intOf s).toNat)
  case atStart => exact ⟨0, _, rfl, Nat.zero_le _, HMS.out, by rw [nv_zeros, List.take_zero, nv]; omega, fun j _ => getD_zeros _ j⟩
  case round =>
    clear HMS
    obtain ⟨i, P, rfl, hi, HI⟩ := hrel
    by_cases hlt : i < X.length
    · obtain ⟨gx, ox, rfl, _, cx'⟩ := HRX.out.cell (by omega)
      obtain ⟨x, Hx⟩ : ∃ x, Hid (X.getD i 0 = x) := ⟨_, rfl⟩
      have HcX : Hid (w.cell? ⟨gx, ox + i, none⟩ = some (.int .u32 (x : Int))) := by rw [← Hx.out]; exact cx' i hlt
      have hx : x < 4294967296 := by rw [← Hx.out, ← Bs_eq]; exact HSX.out.getD Bs_pos i
      clear cx'
      have hiB : decide ((i : Int) < (X.length : Int)) = true := by simp; omega
      go_wp2
      go_loopw [7, 8] (fun s8 s30 wq => ∃ (j c : Nat) (P' : List Nat), s8 = .int .u64 (c : Int) ∧ s30 = .int .i64 (j : Int) ∧ j ≤ Y.length ∧ c < 4294967296 ∧ Hid (MS w wq w.heap.size (X.length + Y.length) P' ∧ nv Bs P' + Bs ^ (i + j) * c = nv Bs (X.take i) * nv Bs Y + Bs ^ i * (x * nv Bs (Y.take j)) ∧ ∀ j, i + Y.length ≤ j → P'.getD j 0 = 0)) (fun _ s _ => Y.length - (intOf s).toNat)
      case atStart => exact ⟨0, 0, P, rfl, rfl, Nat.zero_le _, by omega, HI.out.1, by rw [HI.out.2.1, List.take_zero, nv]; rfl, HI.out.2.2⟩
      case round =>
        clear HI
        obtain ⟨j, c, P', rfl, rfl, hj, hc, HI⟩ := hrel
        by_cases hlj : j < Y.length
        · obtain ⟨gy, oy, rfl, _, cy'⟩ := (HRY.out.below HI.out.1.bel (Nat.le_refl _)).cell (by omega)
          have c2 := cy' j hlj
          have c1 := cell_below HcX.out HI.out.1.bel (Nat.le_refl _)
          obtain ⟨y, Hy⟩ : ∃ y, Hid (Y.getD j 0 = y) := ⟨_, rfl⟩
          obtain ⟨p, Hp⟩ : ∃ p, Hid (P'.getD (i + j) 0 = p) := ⟨_, rfl⟩
          rw [Hy.out] at c2
          have hy : y < 4294967296 := by rw [← Hy.out, ← Bs_eq]; exact HSY.out.getD Bs_pos j
          have hp : p < 4294967296 := by rw [← Hp.out, ← Bs_eq]; exact HI.out.1.sm.getD Bs_pos (i + j)
          have c3 := HI.out.1.bl.limb (i + j) p (by rw [HI.out.1.len]; omega) Hp.out
          have gf := HI.out.1.bl.frozen (i + j)
          clear cy'
          obtain ⟨z, Hz⟩ : ∃ z, Hid (x * y = z) := ⟨_, rfl⟩
          have hz : z ≤ 18446744065119617025 := by rw [← Hz.out]; exact mul_lt_sq (by omega) (by omega)
          obtain ⟨s, Hs⟩ : ∃ s, Hid (c + (z + p) = s) := ⟨_, rfl⟩
          have hs : s < 18446744073709551616 := by rw [← Hs.out]; omega
          have e0 : (x : Int) * (y : Int) = (z : Int) := by rw [← Hz.out]; simp
          have e00 : IntKind.u64.wrap (z : Int) = (z : Int) := by rw [IntKind.wrap_u64]; omega
          have e01 : IntKind.u64.wrap ((p : Int) + (z : Int)) = ((p + z : Nat) : Int) := by rw [IntKind.wrap_u64]; have := Hs.out; omega
          have e1 : (p : Int) + (z : Int) + (c : Int) = (s : Int) := by have := Hs.out; omega
          have e11 : IntKind.u64.wrap (s : Int) = (s : Int) := by rw [IntKind.wrap_u64]; omega
          have e12 : ((p + z : Nat) : Int) + (c : Int) = (s : Int) := by have := Hs.out; omega
          have eand := u64_low s hs
          obtain ⟨lo, Hlo⟩ : ∃ lo, Hid (s % 4294967296 = lo) := ⟨_, rfl⟩
          have hlo : lo < 4294967296 := by rw [← Hlo.out]; omega
          rw [Hlo.out] at eand
          have e3 : IntKind.u32.wrap (lo : Int) = (lo : Int) := by rw [IntKind.wrap_u32]; omega
          have hjI : ((j : Int) < (Y.length : Int)) := by omega
          go_wp2
          go_quiet (fail)
          go_wp2
          go_roundw
          case rel =>
            have e4 : (s : Int) / 4294967296 = ((s / 4294967296 : Nat) : Int) := by omega
            rw [e4]
            refine ⟨j + 1, s / 4294967296, P'.set (i + j) lo, rfl, by go_num, by omega, by omega, (HI.out.1.drewN _).set _ _ hlo, ?_, fun k hk => ?_⟩
            · rw [nv_take_succ, Hy.out]
              refine mul_step _ _ _ _ _ _ _ _ _ _ _ _ _ HI.out.2.1 (nv_set' Bs P' (i + j) lo p (by rw [HI.out.1.len]; omega) Hp.out) ?_
              have h1 := Hs.out
              rw [Bs_eq, Hz.out, ← Hlo.out]
              omega
            · rw [getD_set_ne _ _ _ _ (by omega)]
              exact HI.out.2.2 k hk
          case measure => simp [intOf]; omega
        · obtain rfl : j = Y.length := by omega
          have c3 := HI.out.1.bl.limb (i + Y.length) 0 (by rw [HI.out.1.len]; omega) (HI.out.2.2 _ (Nat.le_refl _))
          have gf := HI.out.1.bl.frozen (i + Y.length)
          have e3 : IntKind.u32.wrap (c : Int) = (c : Int) := by rw [IntKind.wrap_u32]; omega
          go_wp2
          go_roundw
          case rel =>
            refine ⟨i + 1, P'.set (i + Y.length) c, by go_num, by omega, HI.out.1.set _ _ hc, ?_, fun k hk => ?_⟩
            · rw [nv_take_succ, Hx.out]
              have h1 := HI.out.2.1
              rw [List.take_of_length_le (l := Y) (Nat.le_refl _)] at h1
              exact mul_end _ _ _ _ _ _ _ _ _ h1 (nv_set' Bs P' (i + Y.length) c 0 (by rw [HI.out.1.len]; omega) (HI.out.2.2 _ (Nat.le_refl _)))
            · rw [getD_set_ne _ _ _ _ (by omega)]
              exact HI.out.2.2 k (by omega)
          case measure => simp [intOf]; omega
    · obtain rfl : i = X.length := by omega
      have HO : Hid (Ow wr w.heap.size (.slice (some ⟨w.heap.size, 0, none⟩) (X.length + Y.length) (X.length + Y.length)) P) := by
        have := Bl.ow (w := wr) (base := w.heap.size) (g := w.heap.size) (L := P) HI.out.1.bl P.length (Nat.le_refl _) (Nat.le_refl _) (by rw [HI.out.1.len]; omega)
        rw [List.take_of_length_le (Nat.le_refl _), HI.out.1.len] at this
        exact this
      have HOB : Hid (OB w.heap.size w wr (.slice (some ⟨w.heap.size, 0, none⟩) (X.length + Y.length) (X.length + Y.length)) P) := ⟨HO.out, HI.out.1.bel⟩
      have C := HOB.out.trim HI.out.1.sm (by rw [HI.out.1.len]; omega)
      rw [HI.out.2.1, List.take_of_length_le (Nat.le_refl _)] at C
      go_wp2_with fail
      refine C.mono ?_
      clear C
      rintro e w6 ⟨r, rfl, h6, h7⟩
      have HR : Hid (Ow w6 w.heap.size r (dg Bs (nv Bs X * nv Bs Y)) ∧ Below w.heap.size w w6) := ⟨h6, h7⟩
      clear h6 h7
      go_wp2
      go_ret
      exact ⟨_, rfl, HR.out⟩
theorem times_nm (v u : Value) (xs ys : List Nat) (w : World) (hv : Nm w v xs) (hu : Nm w u ys) (h1 : xs.length ≤ 100000000) (h2 : ys.length ≤ 100000000) :
    Calls Try.prog 42 #[v, u] w fun e w' => ∃ r, e = .returned r ∧ Ow w' w.heap.size r (dg Bs (nv Bs xs * nv Bs ys)) ∧ Below w.heap.size w w' := by
  obtain ⟨ax, cx, rfl, hcx, hx, sx⟩ := hv
  obtain ⟨ay, cy, rfl, hcy, hy, sy⟩ := hu
  exact times_any ax ay cx cy xs ys w hx hy sx sy h1 h2

end Go.Proofs.Ytecapoknnnoheaa
