import Derived.Test.YtecapoknnnoheaaOps
namespace Go.Proofs.Ytecapoknnnoheaa
open Go.RowKit

theorem mul_step (B i j T x Yj y N N' p v c c' : Nat) (h : N + B ^ (i + j) * c = T + B ^ i * (x * Yj)) (hset : N' + B ^ (i + j) * p = N + B ^ (i + j) * v) (hs : v + B * c' = c + (x * y + p)) :
    N' + B ^ (i + j + 1) * c' = T + B ^ i * (x * (Yj + B ^ j * y)) := by
  have h1 := congrArg (B ^ (i + j) * ·) hs
  simp only [Nat.mul_add, ← Nat.mul_assoc] at h1
  have h2 : B ^ i * (x * (B ^ j * y)) = B ^ (i + j) * x * y := by
    rw [Nat.pow_add, Nat.mul_left_comm x, ← Nat.mul_assoc, ← Nat.mul_assoc]
  rw [Nat.pow_succ, Nat.mul_add, Nat.mul_add, h2]
  omega
theorem mul_end (B i T x Y N N' c n : Nat) (h : N + B ^ (i + n) * c = T * Y + B ^ i * (x * Y)) (hset : N' + B ^ (i + n) * 0 = N + B ^ (i + n) * c) : N' = (T + B ^ i * x) * Y := by
  rw [Nat.add_mul, Nat.mul_assoc]
  omega

theorem nv_set' (B : Nat) (xs : List Nat) (k v p : Nat) (hk : k < xs.length) (hp : xs.getD k 0 = p) : nv B (xs.set k v) + B ^ k * p = nv B xs + B ^ k * v := by
  rw [← hp, getD_eq _ _ hk]; exact nv_set B xs k v hk
theorem getD_set_ne (xs : List Nat) (k j v : Nat) (h : k ≠ j) : (xs.set k v).getD j 0 = xs.getD j 0 := by
  rw [List.getD_eq_getElem?_getD, List.getElem?_set_ne h, List.getD_eq_getElem?_getD]
theorem Bl.limb {t : TypeId} {w : World} {g : Nat} {P : List Nat} (h : Bl t w g (P.map U)) (k p : Nat) (hk : k < P.length) (hp : P.getD k 0 = p) : w.cell? ⟨g, k, none⟩ = some (.int .u32 (p : Int)) := by
  rw [h.cell k (by simpa using hk), List.getElem_map, ← hp, getD_eq _ _ hk]; rfl
theorem Bl.setU {t : TypeId} {w : World} {g : Nat} {P : List Nat} (h : Bl t w g (P.map U)) (k v : Nat) : Bl t (w.setCell ⟨g, k, none⟩ (.int .u32 (v : Int))) g ((P.set k v).map U) := by
  have := h.set k (U v)
  rw [← List.map_set] at this
  exact this

theorem getD_zeros (n j : Nat) : (List.replicate n 0).getD j 0 = 0 := by
  rw [List.getD_eq_getElem?_getD, List.getElem?_replicate]
  split <;> rfl

/-- What stands while the product is made. -/
structure MS (w wr : World) (g n : Nat) (P : List Nat) : Prop where
  bl : Bl 29 wr g (P.map U)
  len : P.length = n
  sm : Sm Bs P
  bel : Below g w wr

theorem MS.set {w wr : World} {g n : Nat} {P : List Nat} (h : MS w wr g n P) (k v : Nat) (hv : v < 4294967296) : MS w (wr.setCell ⟨g, k, none⟩ (.int .u32 (v : Int))) g n (P.set k v) :=
  ⟨h.bl.setU k v, by rw [List.length_set]; exact h.len, h.sm.set k v hv, h.bel.setCell (Nat.le_refl _) _⟩

set_option maxHeartbeats 2000000 in
theorem mul_nm (v u : Value) (xs ys : List Nat) (w : World) (hv : Nm w v xs) (hu : Nm w u ys) (h1 : xs.length ≤ 100000000) (h2 : ys.length ≤ 100000000) :
    Calls Try.prog 25 #[v, u] w fun e w' => ∃ r, e = .returned r ∧ Ow w' w.heap.size r (dg Bs (nv Bs xs * nv Bs ys)) ∧ Below w.heap.size w w' := by
  obtain ⟨ax, cx, X, P1, lx1, lx2, RX, SX, EX⟩ := proper_nm v xs w hv (by omega)
  obtain ⟨ay, cy, Y, P2, ly1, ly2, RY, SY, EY⟩ := proper_nm u ys w hu (by omega)
  have HE : Hid (nv Bs xs * nv Bs ys = nv Bs X * nv Bs Y) := by show _ = _; rw [EX, EY, dg_nv Bs_two, dg_nv Bs_two]
  rw [HE.out]
  have hX : X.length ≤ 100000000 := by omega
  have hY : Y.length ≤ 100000000 := by omega
  obtain ⟨wm, hmk, hb, hbel, hsz⟩ := madeU w (X.length + Y.length) (by omega)
  rw [show ((X.length + Y.length : Nat) : Int) = (X.length : Int) + (Y.length : Int) from by omega] at hmk
  have HMS : Hid (MS w wm w.heap.size (X.length + Y.length) (List.replicate (X.length + Y.length) 0)) := ⟨hb, by simp, Sm.zeros _ Bs_pos, hbel⟩
  have HRX : Hid (Rn w ax X) := RX
  have HRY : Hid (Rn w ay Y) := RY
  have HSX : Hid (Sm Bs X) := SX
  have HSY : Hid (Sm Bs Y) := SY
  clear EX EY HE RX RY SX SY hv hu h1 h2 lx1 lx2 ly1 ly2 hb hbel hsz
  go_enter Try.func25, Try.ntmps25
  go_wp2_with fail
  refine P1.mono ?_
  clear P1
  rintro e w ⟨rfl, rfl⟩
  go_wp2_with fail
  refine P2.mono ?_
  clear P2
  rintro e w ⟨rfl, rfl⟩
  go_wp2
  clear hmk
  go_loopw [23] (fun s wr => ∃ (i : Nat) (P : List Nat), s = .int .i64 (i : Int) ∧ i ≤ X.length ∧ Hid (MS w wr w.heap.size (X.length + Y.length) P ∧ nv Bs P = nv Bs (X.take i) * nv Bs Y ∧ ∀ j, i + Y.length ≤ j → P.getD j 0 = 0)) (fun s _ => X.length - (intOf s).toNat)
  case atStart => exact ⟨0, _, rfl, Nat.zero_le _, HMS.out, by rw [nv_zeros, List.take_zero, nv]; omega, fun j _ => getD_zeros _ j⟩
  case round =>
    clear HMS
    obtain ⟨i, P, rfl, hi, HI⟩ := hrel
    by_cases hlt : i < X.length
    · obtain ⟨gx, ox, rfl, _, cx'⟩ := (HRX.out.below HI.out.1.bel (Nat.le_refl _)).cell (by omega)
      have c1 := cx' i hlt
      obtain ⟨x, Hx⟩ : ∃ x, Hid (X.getD i 0 = x) := ⟨_, rfl⟩
      rw [Hx.out] at c1
      have hx : x < 4294967296 := by rw [← Hx.out, ← Bs_eq]; exact HSX.out.getD Bs_pos i
      clear cx'
      have hiB : decide ((i : Int) < (X.length : Int)) = true := by simp; omega
      go_wp2
      clear c1 hiB
      go_loopw [8, 30] (fun s8 s30 wq => ∃ (j c : Nat) (P' : List Nat), s8 = .int .u64 (c : Int) ∧ s30 = .int .i64 (j : Int) ∧ j ≤ Y.length ∧ c < 4294967296 ∧ Hid (MS w wq w.heap.size (X.length + Y.length) P' ∧ nv Bs P' + Bs ^ (i + j) * c = nv Bs (X.take i) * nv Bs Y + Bs ^ i * (x * nv Bs (Y.take j)) ∧ ∀ j, i + Y.length ≤ j → P'.getD j 0 = 0)) (fun _ s _ => Y.length - (intOf s).toNat)
      case atStart => exact ⟨0, 0, P, rfl, rfl, Nat.zero_le _, by omega, HI.out.1, by rw [HI.out.2.1, List.take_zero, nv]; rfl, HI.out.2.2⟩
      case round =>
        clear HI
        obtain ⟨j, c, P', rfl, rfl, hj, hc, HI⟩ := hrel
        by_cases hlj : j < Y.length
        · obtain ⟨gy, oy, rfl, _, cy'⟩ := (HRY.out.below HI.out.1.bel (Nat.le_refl _)).cell (by omega)
          have c2 := cy' j hlj
          obtain ⟨y, Hy⟩ : ∃ y, Hid (Y.getD j 0 = y) := ⟨_, rfl⟩
          obtain ⟨p, Hp⟩ : ∃ p, Hid (P'.getD (i + j) 0 = p) := ⟨_, rfl⟩
          rw [Hy.out] at c2
          have hy : y < 4294967296 := by rw [← Hy.out, ← Bs_eq]; exact HSY.out.getD Bs_pos j
          have hp : p < 4294967296 := by rw [← Hp.out, ← Bs_eq]; exact HI.out.1.sm.getD Bs_pos (i + j)
          have c3 := HI.out.1.bl.limb (i + j) p (by rw [HI.out.1.len]; omega) Hp.out
          have gf := HI.out.1.bl.frozen (i + j)
          clear cy'
          obtain ⟨z, Hz⟩ : ∃ z, Hid (x * y = z) := ⟨_, rfl⟩
          have hz : z ≤ 18446744065119617025 := by rw [← Hz.out]; exact mul_lt_sq (by omega) (by omega)
          obtain ⟨s, Hs⟩ : ∃ s, Hid (c + (z + p) = s) := ⟨_, rfl⟩
          have hs : s < 18446744073709551616 := by rw [← Hs.out]; omega
          have e0 : (x : Int) * (y : Int) = (z : Int) := by rw [← Hz.out]; simp
          have e00 : IntKind.u64.wrap (z : Int) = (z : Int) := by rw [IntKind.wrap_u64]; omega
          have e01 : IntKind.u64.wrap ((z : Int) + (p : Int)) = ((z + p : Nat) : Int) := by rw [IntKind.wrap_u64]; have := Hs.out; omega
          have e1 : (c : Int) + ((z : Int) + (p : Int)) = (s : Int) := by have := Hs.out; omega
          have e11 : IntKind.u64.wrap (s : Int) = (s : Int) := by rw [IntKind.wrap_u64]; omega
          have e12 : (c : Int) + ((z + p : Nat) : Int) = (s : Int) := by have := Hs.out; omega
          have e3 : IntKind.u32.wrap (s : Int) = ((s % 4294967296 : Nat) : Int) := by rw [IntKind.wrap_u32]; omega
          go_wp2
          go_roundw
          case rel =>
            have e4 : (s : Int) / 4294967296 = ((s / 4294967296 : Nat) : Int) := by omega
            have e5 : (s : Int) % 4294967296 = ((s % 4294967296 : Nat) : Int) := by omega
            rw [e4, e5]
            refine ⟨j + 1, s / 4294967296, P'.set (i + j) (s % 4294967296), rfl, by go_num, by omega, by omega, HI.out.1.set _ _ (by omega), ?_, fun k hk => ?_⟩
            · rw [nv_take_succ, Hy.out]
              refine mul_step _ _ _ _ _ _ _ _ _ _ _ _ _ HI.out.2.1 (nv_set' Bs P' (i + j) (s % 4294967296) p (by rw [HI.out.1.len]; omega) Hp.out) ?_
              have h1 := Hs.out
              rw [Bs_eq, Hz.out]
              omega
            · rw [getD_set_ne _ _ _ _ (by omega)]
              exact HI.out.2.2 k hk
          case measure => simp [intOf]; omega
        · obtain rfl : j = Y.length := by omega
          have c3 := HI.out.1.bl.limb (i + Y.length) 0 (by rw [HI.out.1.len]; omega) (HI.out.2.2 _ (Nat.le_refl _))
          have gf := HI.out.1.bl.frozen (i + Y.length)
          have e3 : IntKind.u32.wrap (c : Int) = (c : Int) := by rw [IntKind.wrap_u32]; omega
          go_wp2
          go_roundw
          case rel =>
            refine ⟨i + 1, P'.set (i + Y.length) c, by go_num, by omega, HI.out.1.set _ _ hc, ?_, fun k hk => ?_⟩
            · rw [nv_take_succ, Hx.out]
              have h1 := HI.out.2.1
              rw [List.take_of_length_le (l := Y) (Nat.le_refl _)] at h1
              exact mul_end _ _ _ _ _ _ _ _ _ h1 (nv_set' Bs P' (i + Y.length) c 0 (by rw [HI.out.1.len]; omega) (HI.out.2.2 _ (Nat.le_refl _)))
            · rw [getD_set_ne _ _ _ _ (by omega)]
              exact HI.out.2.2 k (by omega)
          case measure => simp [intOf]; omega
    · obtain rfl : i = X.length := by omega
      have C3 := proper_any (some ⟨w.heap.size, 0, none⟩) (X.length + Y.length) (X.length + Y.length) P wr HI.out.1.bl.rn HI.out.1.len.symm (Nat.le_refl _) (by omega)
      have HA : Hid (Ow wr w.heap.size (.slice (some ⟨w.heap.size, 0, none⟩) (tl P) (X.length + Y.length)) (dg Bs (nv Bs X * nv Bs Y))) := by
        have := Bl.proper (w := wr) (base := w.heap.size) (g := w.heap.size) (L := P) HI.out.1.bl HI.out.1.sm (Nat.le_refl _) (by rw [HI.out.1.len]; omega)
        rw [HI.out.1.len, HI.out.2.1, List.take_of_length_le (Nat.le_refl _)] at this
        exact this
      go_wp2_with fail
      refine C3.mono ?_
      clear C3
      rintro e wr ⟨rfl, rfl⟩
      go_wp2
      go_ret
      exact ⟨_, rfl, HA.out, HI.out.1.bel⟩

end Go.Proofs.Ytecapoknnnoheaa
