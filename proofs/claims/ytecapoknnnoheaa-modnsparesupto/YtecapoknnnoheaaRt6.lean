import Derived.Test.YtecapoknnnoheaaRt5
import Derived.Test.YtecapoknnnoheaaMd1
namespace Go.Proofs.Ytecapoknnnoheaa
open Go.RowKit

/-- What stands while a division goes on: the quotient's and the rest's limbs, all older blocks as they were. -/
structure DV (w wr : World) (Q R : List Nat) : Prop where
  q : Bl 29 wr w.heap.size (Q.map U)
  r : Bl 29 wr (w.heap.size + 1) (R.map U)
  bel : Below w.heap.size w wr
theorem DV.setR {w wr : World} {Q R : List Nat} (h : DV w wr Q R) (k v : Nat) : DV w (wr.setCell ⟨w.heap.size + 1, k, none⟩ (.int .u32 (v : Int))) Q (R.set k v) :=
  ⟨h.q.but ((But.refl _ (w.heap.size + 1)).set _ _) (by omega), h.r.setU k v, h.bel.setCell (by show w.heap.size ≤ w.heap.size + 1; omega) _⟩
theorem DV.setQ {w wr : World} {Q R : List Nat} (h : DV w wr Q R) (k v : Nat) : DV w (wr.setCell ⟨w.heap.size, k, none⟩ (.int .u32 (v : Int))) (Q.set k v) R :=
  ⟨h.q.setU k v, h.r.but ((But.refl _ w.heap.size).set _ _) (by omega), h.bel.setCell (Nat.le_refl _) _⟩
theorem DV.drewN {w wr : World} {Q R : List Nat} (h : DV w wr Q R) (q : Nat) : DV w (wr.drewN q) Q R := ⟨h.q, h.r, below_drewN h.bel q⟩

theorem OB.trim2 {w wr : World} {v : Value} {ds : List Nat} (h : OB w.heap.size w wr v ds) (sd : Sm Bs ds) (hl : ds.length ≤ 1000000000) :
    Calls Try.prog 39 #[v] wr fun e w' => ∃ r, e = .returned r ∧ Ow w' w.heap.size r (dg Bs (nv Bs ds)) ∧ Below w.heap.size w w' ∧ Below wr.heap.size wr w' := by
  refine (trim_nm v ds wr (h.own.nm sd) h.own.nz h.own.cap hl).mono ?_
  rintro e w' ⟨r, rfl, h1, h2⟩
  exact ⟨r, rfl, h1.base h.bel.size, h.bel.trans (h2.mono h.bel.size), h2⟩
theorem dbl_end (N P B c V b D : Nat) (h : N + P * B * c = V + V + b) (hV : V < D) (hD : D < P) (hB : 2 ≤ B) (hc : c ≤ 1) (hb : b ≤ 1) : N = 2 * V + b := by
  rcases (by omega : c = 0 ∨ c = 1) with h6 | h6
  · subst h6; rw [Nat.mul_zero] at h; omega
  · exfalso
    subst h6
    have := Nat.mul_le_mul_left P hB
    rw [Nat.mul_one] at h
    omega
theorem sub_end (T D R P bw : Nat) (h : T + D = R + P * bw) (hT : T < P) (hR : D ≤ R) (hbw : bw ≤ 1) : T = R - D := by
  rcases (by omega : bw = 0 ∨ bw = 1) with h6 | h6
  · subst h6; rw [Nat.mul_zero] at h; omega
  · exfalso; subst h6; rw [Nat.mul_one] at h; omega
theorem quo_end (N' N P p pw : Nat) (h : N' + P * p = N + P * (p + pw)) : N' = N + P * pw := by
  rw [Nat.mul_add] at h
  omega

set_option maxRecDepth 100000 in
set_option maxHeartbeats 8000000 in
theorem rdivide_any (v u : Value) (xs ys : List Nat) (A D : Nat) (w : World) (hv : Nm w v xs) (hzv : Nz v) (hcv : ∀ a n c, v = .slice a n c → c ≤ 9223372036854775807) (hu : Nm w u ys) (hzu : Nz u) (hcu : ∀ a n c, u = .slice a n c → c ≤ 9223372036854775807) (hA : nv Bs xs = A) (hD : nv Bs ys = D) (h1 : xs.length ≤ 10000000) (h2 : ys.length ≤ 10000000) (hD0 : D ≠ 0) :
    Calls Try.prog 57 #[v, u] w fun e w' => ∃ q r, e = .returned (.tuple #[q, r]) ∧ Ow w' w.heap.size q (dg Bs (A / D)) ∧ Ow w' w.heap.size r (dg Bs (A % D)) ∧ Below w.heap.size w w' := by
  have CT := trim_nm v xs w hv hzv hcv (by omega)
  rw [hA] at CT
  have HU : Hid (Nm w u ys) := hu
  have HZU : Hid (Nz u ∧ ∀ a n c, u = .slice a n c → c ≤ 9223372036854775807) := ⟨hzu, hcu⟩
  have HDv : Hid (nv Bs ys = D) := hD
  have HD0 : Hid (D ≠ 0) := hD0
  have HlX : Hid ((dg Bs A).length ≤ 10000000) := by rw [← hA]; exact Nat.le_trans (dgl_arg xs xs.length hv.sm (Nat.le_refl _)) h1
  have HlY : Hid ((dg Bs D).length ≤ 10000000) := by rw [← hD]; exact Nat.le_trans (dgl_arg ys ys.length hu.sm (Nat.le_refl _)) h2
  have hl2 : ys.length ≤ 1000000000 := by omega
  clear hv hzv hcv hu hzu hcu hA hD hD0 h1 h2
  go_enter Try.func57, Try.ntmps57
  go_wp2_with fail
  refine CT.mono ?_
  clear CT
  rintro e w1 ⟨a', rfl, hoa, hb1⟩
  have HB1 : Hid (Below w.heap.size w w1) := hb1
  have HNa : Hid (Nm w1 a' (dg Bs A)) := hoa.nm (dg_sm Bs_two _)
  clear hoa hb1
  have CT := trim_nm u ys w1 (HU.out.below HB1.out (Nat.le_refl _)) HZU.out.1 HZU.out.2 hl2
  rw [HDv.out] at CT
  go_wp2_with fail
  refine CT.mono ?_
  clear CT
  rintro e w2 ⟨d', rfl, hod, hb2⟩
  have HB2 : Hid (Below w.heap.size w w2) := HB1.out.trans (hb2.mono HB1.out.size)
  have HNd : Hid (Nm w2 d' (dg Bs D)) := hod.nm (dg_sm Bs_two _)
  have HNa2 : Hid (Nm w2 a' (dg Bs A)) := HNa.out.below hb2 (Nat.le_refl _)
  clear hod hb2 HNa HB1 HU HZU HDv hl2
  obtain ⟨X, HXe⟩ : ∃ X, Hid (dg Bs A = X) := ⟨_, rfl⟩
  obtain ⟨Y, HYe⟩ : ∃ Y, Hid (dg Bs D = Y) := ⟨_, rfl⟩
  have HX : Hid (nv Bs X = A) := by rw [← HXe.out]; exact dg_nv Bs_two A
  have HY : Hid (nv Bs Y = D) := by rw [← HYe.out]; exact dg_nv Bs_two D
  rw [HXe.out] at HNa2 HlX
  rw [HYe.out] at HNd HlY
  obtain ⟨ax, cx, rfl, hcx, rx, sx⟩ := HNa2.out
  obtain ⟨ay, cy, rfl, hcy, ry, sy⟩ := HNd.out
  have HRX : Hid (Rn w2 ax X) := rx
  have HRY : Hid (Rn w2 ay Y) := ry
  have HSX : Hid (Sm Bs X) := sx
  have HSY : Hid (Sm Bs Y) := sy
  have hlX := HlX.out
  have hlY := HlY.out
  obtain ⟨wm, hmk, hbl, hbel, hsz⟩ := madeU w2 X.length (by omega)
  obtain ⟨wm2, hmk2, hbl2, hbel2, hsz2⟩ := madeU wm (Y.length + 1) (by omega)
  rw [show ((Y.length + 1 : Nat) : Int) = (Y.length : Int) + 1 from by omega, hsz] at hmk2
  rw [hsz] at hbl2 hbel2 hsz2
  have HDV : Hid (DV w2 wm2 (List.replicate X.length 0) (List.replicate (Y.length + 1) 0)) := ⟨hbl.below hbel2 (by omega), hbl2, hbel.trans (hbel2.mono (by omega))⟩
  clear rx ry sx sy HNa2 HNd HlX HlY hbl hbel hbl2 hbel2 hsz2 hsz HXe HYe
  go_wp2
  clear hmk hmk2
  go_loopw [8] (fun s wr => ∃ (t : Nat) (Q R : List Nat), s = .int .i64 ((t : Int) - 1) ∧ t ≤ 32 * X.length ∧ Hid (DV w2 wr Q R ∧ Q.length = X.length ∧ R.length = Y.length + 1 ∧ Sm Bs Q ∧ Sm Bs R ∧ nv Bs Q = A / 2 ^ t / D * 2 ^ t ∧ nv Bs R = A / 2 ^ t % D)) (fun s _ => (intOf s + 1).toNat)
  case atStart =>
    have h0 : A / 2 ^ (32 * X.length) = 0 := Nat.div_eq_of_lt (by rw [← Bs_pow X.length _ rfl, ← HX.out]; exact nv_lt Bs_pos HSX.out)
    exact ⟨32 * X.length, _, _, by go_num, Nat.le_refl _, HDV.out, by simp, by simp, Sm.zeros _ Bs_pos, Sm.zeros _ Bs_pos, by rw [nv_zeros, h0, Nat.zero_div, Nat.zero_mul], by rw [nv_zeros, h0, Nat.zero_mod]⟩
  case round =>
    clear HDV
    obtain ⟨t, Q, R, rfl, ht, HI⟩ := hrel
    rcases t with _ | i
    · have e0 : ((0 : Nat) : Int) - 1 = -1 := rfl
      rw [e0]
      have HOq : Hid (OB w.heap.size w wr (.slice (some ⟨w2.heap.size, 0, none⟩) X.length X.length) Q) := by
        have h := Bl.ow (w := wr) (base := w.heap.size) (g := w2.heap.size) (L := Q) HI.out.1.q Q.length (Nat.le_refl _) HB2.out.size (by rw [HI.out.2.1]; omega)
        rw [List.take_of_length_le (Nat.le_refl _), HI.out.2.1] at h
        exact ⟨h, HB2.out.trans (HI.out.1.bel.mono HB2.out.size)⟩
      have C := HOq.out.trim2 HI.out.2.2.2.1 (by rw [HI.out.2.1]; omega)
      rw [HI.out.2.2.2.2.2.1, Nat.pow_zero, Nat.div_one, Nat.mul_one] at C
      go_wp2_with fail
      refine C.mono ?_
      clear C
      rintro e w6 ⟨q, rfl, h6, h7, h67⟩
      have C9 := trim_nm (.slice (some ⟨w2.heap.size + 1, 0, none⟩) (Y.length + 1) (Y.length + 1)) R w6 ⟨_, _, by rw [HI.out.2.2.1], by rw [HI.out.2.2.1]; exact Nat.le_refl _, (HI.out.1.r.below h67 HI.out.1.r.lt).rn, HI.out.2.2.2.2.1⟩ (fun _ _ _ e e2 => by cases e; cases e2) (fun _ _ _ e => by cases e; omega) (by rw [HI.out.2.2.1]; omega)
      rw [HI.out.2.2.2.2.2.2, Nat.pow_zero, Nat.div_one] at C9
      clear h67
      have HQ6 : Hid (Ow w6 w.heap.size q (dg Bs (A / D)) ∧ Below w.heap.size w w6) := ⟨h6, h7⟩
      clear h6 h7
      go_wp2_with fail
      refine C9.mono ?_
      clear C9
      rintro e w7 ⟨r, rfl, h8, h9⟩
      have HR7 : Hid (Ow w7 w.heap.size q (dg Bs (A / D)) ∧ Ow w7 w.heap.size r (dg Bs (A % D)) ∧ Below w.heap.size w w7) := ⟨HQ6.out.1.below h9 (Nat.le_refl _), h8.base HQ6.out.2.size, HQ6.out.2.trans (h9.mono HQ6.out.2.size)⟩
      clear h8 h9
      go_wp2
      go_ret2
      exact ⟨q, r, rfl, HR7.out⟩
    · have e0 : ((i + 1 : Nat) : Int) - 1 = (i : Int) := by omega
      rw [e0]
      clear e0
      have C := rbit_any i ax cx X wr (HRX.out.below HI.out.1.bel (Nat.le_refl _)) HSX.out (by omega)
      rw [HX.out] at C
      by_cases hbit : A / 2 ^ i % 2 = 1
      · rw [decide_eq_true hbit] at C
        have HB : Hid (A / 2 ^ i % 2 = 1) := hbit
        go_wp2_with fail
        refine C.mono ?_
        clear C
        rintro e wx ⟨rfl, rfl⟩
        clear hbit
        have HMS0 : Hid (∀ j, 0 ≤ j → R.getD j 0 = R.getD j 0) := fun _ _ => rfl
        go_wp2
        go_loopw [9, 10] (fun s9 s10 wq => ∃ (k c : Nat) (R' : List Nat), s9 = .int .u32 (c : Int) ∧ s10 = .int .i64 (k : Int) ∧ k ≤ Y.length + 1 ∧ c ≤ 1 ∧ Hid (DV w2 wq Q R' ∧ R'.length = Y.length + 1 ∧ Sm Bs R' ∧ nv Bs R' + Bs ^ k * c = nv Bs R + nv Bs (R.take k) + 1 ∧ ∀ j, k ≤ j → R'.getD j 0 = R.getD j 0)) (fun _ s _ => Y.length + 1 - (intOf s).toNat)
        case atStart => exact ⟨0, 1, R, rfl, rfl, Nat.zero_le _, by omega, HI.out.1, HI.out.2.2.1, HI.out.2.2.2.2.1, by rw [List.take_zero, Nat.pow_zero]; show _ = _ + 0 + _; omega, fun _ _ => rfl⟩
        case round =>
          obtain ⟨k, c, R', rfl, rfl, hk, hc, HJ⟩ := hrel
          by_cases hlk : k < Y.length + 1
          · obtain ⟨x, Hx⟩ : ∃ x, Hid (R.getD k 0 = x) := ⟨_, rfl⟩
            have Hx' : Hid (R'.getD k 0 = x) := by show _ = _; rw [HJ.out.2.2.2.2 k (Nat.le_refl _)]; exact Hx.out
            have hx : x < 4294967296 := by rw [← Hx'.out, ← Bs_eq]; exact HJ.out.2.2.1.getD Bs_pos k
            have c1 := HJ.out.1.r.limb k x (by rw [HJ.out.2.1]; omega) Hx'.out
            have gf := HJ.out.1.r.frozen k
            have edb := dbl_limb x c hx hc
            obtain ⟨dd, Hdd⟩ : ∃ dd, Hid ((2 * x) % 4294967296 = dd) := ⟨_, rfl⟩
            obtain ⟨top, Htop⟩ : ∃ top, Hid (2 * x / 4294967296 = top) := ⟨_, rfl⟩
            have hdd : dd < 4294967296 := by rw [← Hdd.out]; omega
            have hdd2 : dd + c < 4294967296 := by rw [← Hdd.out]; omega
            have htop : top ≤ 1 := by rw [← Htop.out]; omega
            rw [Hdd.out] at edb
            have et1 : (x : Int) / 2147483648 = (top : Int) := by rw [← Htop.out]; omega
            have et2 : IntKind.u32.wrap ((x : Int) * 2) = (dd : Int) := by rw [IntKind.wrap_u32, ← Hdd.out]; omega
            have et3 : ((x : Int) * 2) % 4294967296 = (dd : Int) := by rw [← Hdd.out]; omega
            have hkI : (k : Int) < (Y.length : Int) + 1 := by omega
            obtain ⟨vv, Hvv⟩ : ∃ vv, Hid (dd + c = vv) := ⟨_, rfl⟩
            rw [Hvv.out] at edb hdd2
            have HN : Hid (nv Bs (R'.set k vv) + Bs ^ (k + 1) * top = nv Bs R + nv Bs (R.take (k + 1)) + 1) := by
              show _ = _
              rw [Nat.pow_succ, nv_take_succ, Hx.out]
              exact dblr_step _ _ _ _ _ _ _ _ _ _ _ HJ.out.2.2.2.1 (nv_set' Bs R' k vv x (by rw [HJ.out.2.1]; omega) Hx'.out) (by have := Hvv.out; have := Hdd.out; have := Htop.out; rw [Bs_eq]; omega)
            go_wp2
            go_roundw
            case rel => exact ⟨k + 1, top, R'.set k vv, rfl, by go_num, by omega, htop, HJ.out.1.setR _ _, by rw [List.length_set]; exact HJ.out.2.1, HJ.out.2.2.1.set k vv (by rw [Bs_eq]; exact hdd2), HN.out, fun j hj => by rw [getD_set_ne _ _ _ _ (by omega)]; exact HJ.out.2.2.2.2 j (by omega)⟩
            case measure => simp [intOf]; omega
          · obtain rfl : k = Y.length + 1 := by omega
            have hkI : ¬ (((Y.length + 1 : Nat) : Int) < (Y.length : Int) + 1) := by omega
            have HV : Hid (nv Bs R' = 2 * (A / 2 ^ (i + 1) % D) + 1) := by
              have h1 := HJ.out.2.2.2.1
              rw [List.take_of_length_le (by rw [HI.out.2.2.1]; exact Nat.le_refl _), HI.out.2.2.2.2.2.2] at h1
              have h2 : A / 2 ^ (i + 1) % D < D := Nat.mod_lt _ (Nat.pos_of_ne_zero HD0.out)
              have h3 : D < Bs ^ Y.length := by rw [← HY.out]; exact nv_lt Bs_pos HSY.out
              rw [Nat.pow_succ] at h1
              exact dbl_end _ _ _ _ _ _ _ h1 h2 h3 Bs_two hc (by decide)
            have CC := rcmp_nm (.slice (some ⟨w2.heap.size + 1, 0, none⟩) (Y.length + 1) (Y.length + 1)) (.slice ay Y.length cy) R' Y _ ⟨_, _, by rw [HJ.out.2.1], by rw [HJ.out.2.1]; exact Nat.le_refl _, HJ.out.1.r.rn, HJ.out.2.2.1⟩ ⟨_, _, rfl, hcy, HRY.out.below HJ.out.1.bel (Nat.le_refl _), HSY.out⟩ (by rw [HJ.out.2.1]; omega) (by omega)
            rw [HV.out, HY.out] at CC
            have HQ := quo_step A D i HD0.out
            rw [HB.out] at HQ
            by_cases hge : D ≤ 2 * (A / 2 ^ (i + 1) % D) + 1
            · obtain ⟨o, Ho, hoB⟩ : ∃ o : Int, Hid (cmp3 ((2 * (A / 2 ^ (i + 1) % D) + 1 : Nat) : Int) ((D : Nat) : Int) = o) ∧ decide (o ≥ 0) = true := by
                rcases Nat.lt_or_ge D (2 * (A / 2 ^ (i + 1) % D) + 1) with h | h
                · exact ⟨1, cmp3_gt (by omega), by decide⟩
                · exact ⟨0, cmp3_eq (by omega), by decide⟩
              rw [Ho.out] at CC
              have HQ1 : Hid (A / 2 ^ i / D * 2 ^ i = A / 2 ^ (i + 1) / D * 2 ^ (i + 1) + 2 ^ i ∧ A / 2 ^ i % D = 2 * (A / 2 ^ (i + 1) % D) + 1 - D) := HQ.1 hge
              have HGE : Hid (D ≤ nv Bs R') := by rw [HV.out]; exact hge
              clear hge HQ
              go_wp2_with fail
              refine CC.mono ?_
              clear CC
              rintro e wx ⟨rfl, rfl⟩
              go_wp2
              go_loopw [12, 13] (fun s12 s13 wq => ∃ (k bw : Nat) (T : List Nat), s12 = .int .u64 (bw : Int) ∧ s13 = .int .i64 (k : Int) ∧ k ≤ Y.length + 1 ∧ bw ≤ 1 ∧ Hid (DV w2 wq Q T ∧ T.length = Y.length + 1 ∧ Sm Bs T ∧ nv Bs T + nv Bs (Y.take k) = nv Bs R' + Bs ^ k * bw ∧ ∀ j, k ≤ j → T.getD j 0 = R'.getD j 0)) (fun _ s _ => Y.length + 1 - (intOf s).toNat)
              case atStart => exact ⟨0, 0, R', rfl, rfl, Nat.zero_le _, by omega, HJ.out.1, HJ.out.2.1, HJ.out.2.2.1, by rw [List.take_zero, Nat.mul_zero]; rfl, fun _ _ => rfl⟩
              case round =>
                obtain ⟨k, bw, T, rfl, rfl, hk, hbw, HK⟩ := hrel
                by_cases hlk : k < Y.length + 1
                · obtain ⟨x, Hx⟩ : ∃ x, Hid (T.getD k 0 = x) := ⟨_, rfl⟩
                  obtain ⟨y, Hy⟩ : ∃ y, Hid (Y.getD k 0 = y) := ⟨_, rfl⟩
                  have hx : x < 4294967296 := by rw [← Hx.out, ← Bs_eq]; exact HK.out.2.2.1.getD Bs_pos k
                  have hy : y < 4294967296 := by rw [← Hy.out, ← Bs_eq]; exact HSY.out.getD Bs_pos k
                  have C2 := rlimb_any ay Y.length cy k Y _ (HRY.out.below HK.out.1.bel (Nat.le_refl _)) HSY.out rfl
                  rw [Hy.out] at C2
                  have c1 := HK.out.1.r.limb k x (by rw [HK.out.2.1]; omega) Hx.out
                  have gf := HK.out.1.r.frozen k
                  obtain ⟨z, b', hz, hb', hzb, hlo1, hlo2⟩ := sub_limb x y bw hx hy hbw
                  have HN : Hid (nv Bs (T.set k z) + nv Bs (Y.take (k + 1)) = nv Bs R' + Bs ^ (k + 1) * b') := by
                    show _ = _
                    rw [Nat.pow_succ, nv_take_succ, Hy.out]
                    exact subr_step _ _ _ _ _ _ _ _ _ _ _ HK.out.2.2.2.1 (nv_set' Bs T k z x (by rw [HK.out.2.1]; omega) Hx.out) (by rw [Bs_eq]; exact hzb)
                  clear hzb
                  obtain ⟨yb, Hyb⟩ : ∃ yb, Hid (y + bw = yb) := ⟨_, rfl⟩
                  have eyb : (y : Int) + (bw : Int) = (yb : Int) := by rw [← Hyb.out]; omega
                  have ebw : IntKind.u64.wrap (yb : Int) = (yb : Int) := by rw [IntKind.wrap_u64, ← Hyb.out]; omega
                  have hyb : yb ≤ 4294967296 := by rw [← Hyb.out]; omega
                  have e5 : IntKind.u32.wrap (z : Int) = (z : Int) := by rw [IntKind.wrap_u32]; omega
                  have ew2 : IntKind.u64.wrap (z : Int) = (z : Int) := by rw [IntKind.wrap_u64]; omega
                  have hkI : (k : Int) < (Y.length : Int) + 1 := by omega
                  rw [Hyb.out] at hlo1 hlo2
                  have HRL : Hid (∀ v : Nat, v < 4294967296 → (T.set k v).length = Y.length + 1 ∧ Sm Bs (T.set k v) ∧ ∀ j, k + 1 ≤ j → (T.set k v).getD j 0 = R'.getD j 0) := fun v hv => ⟨by rw [List.length_set]; exact HK.out.2.1, HK.out.2.2.1.set k v (by rw [Bs_eq]; exact hv), fun j hj => by rw [getD_set_ne _ _ _ _ (by omega)]; exact HK.out.2.2.2.2 j (by omega)⟩
                  by_cases hxy : x < yb
                  · have hc1 : decide ((x : Int) < (yb : Int)) = true := decide_eq_true (by omega)
                    have hb1 := (hlo1 (by omega)).1
                    have hz1 := (hlo1 (by omega)).2
                    have ew1 : IntKind.u64.wrap ((x : Int) + 4294967296) = (x : Int) + 4294967296 := by rw [IntKind.wrap_u64]; omega
                    subst hb1
                    clear hlo1 hlo2 hxy
                    go_wp2_with fail
                    refine C2.mono ?_
                    clear C2
                    rintro e wx ⟨rfl, rfl⟩
                    go_wp2
                    go_roundw
                    case rel => exact ⟨k + 1, 1, T.set k z, rfl, by go_num, by omega, by omega, HK.out.1.setR _ _, (HRL.out z hz).1, (HRL.out z hz).2.1, HN.out, (HRL.out z hz).2.2⟩
                    case measure => simp [intOf]; omega
                  · have hc1 : decide ((x : Int) < (yb : Int)) = false := decide_eq_false (by omega)
                    have hb1 := (hlo2 (by omega)).1
                    have hz1 := (hlo2 (by omega)).2
                    subst hb1
                    clear hlo1 hlo2 hxy
                    go_wp2_with fail
                    refine C2.mono ?_
                    clear C2
                    rintro e wx ⟨rfl, rfl⟩
                    go_wp2
                    go_roundw
                    case rel => exact ⟨k + 1, 0, T.set k z, rfl, by go_num, by omega, by omega, HK.out.1.setR _ _, (HRL.out z hz).1, (HRL.out z hz).2.1, HN.out, (HRL.out z hz).2.2⟩
                    case measure => simp [intOf]; omega
                · obtain rfl : k = Y.length + 1 := by omega
                  have hkI : ¬ (((Y.length + 1 : Nat) : Int) < (Y.length : Int) + 1) := by omega
                  have HT : Hid (nv Bs T = A / 2 ^ i % D) := by
                    have h1 := HK.out.2.2.2.1
                    rw [List.take_of_length_le (by omega), HY.out] at h1
                    have h2 := nv_lt Bs_pos HK.out.2.2.1
                    rw [HK.out.2.1] at h2
                    show _ = _
                    rw [HQ1.out.2, ← HV.out]
                    exact sub_end _ _ _ _ _ h1 h2 HGE.out hbw
                  obtain ⟨kk, hkk⟩ : ∃ kk, i / 32 = kk := ⟨_, rfl⟩
                  obtain ⟨ss, hss⟩ : ∃ ss, i % 32 = ss := ⟨_, rfl⟩
                  have hs32 : ss < 32 := by omega
                  have hkX : kk < X.length := by omega
                  have HL := quo_limb Q kk ss (A / 2 ^ (i + 1) / D) hs32 HI.out.2.2.2.1 (by rw [show 32 * kk + ss + 1 = i + 1 by omega]; exact HI.out.2.2.2.2.2.1)
                  obtain ⟨p, Hp⟩ : ∃ p, Hid (Q.getD kk 0 = p) := ⟨_, rfl⟩
                  obtain ⟨pw, Hpw⟩ : ∃ pw : Nat, Hid (2 ^ ss = pw) := ⟨2 ^ ss, (rfl : (2 : Nat) ^ ss = 2 ^ ss)⟩
                  rw [Hp.out, Hpw.out] at HL
                  have hor := HL.1
                  have hps := HL.2
                  have hpw : pw < 4294967296 := by omega
                  have c1 := HK.out.1.q.limb kk p (by rw [HI.out.2.1]; omega) Hp.out
                  have gf := HK.out.1.q.frozen kk
                  have eq1 : Int.tdiv (i : Int) 32 = (kk : Int) := by rw [Int.tdiv_eq_ediv_of_nonneg (by omega)]; omega
                  have eq2 : (i : Int) / 32 = (kk : Int) := by omega
                  have es1 : Int.tmod (i : Int) 32 = (ss : Int) := by rw [Int.tmod_eq_emod_of_nonneg (by omega)]; omega
                  have es2 : (i : Int) % 32 = (ss : Int) := by omega
                  have epw : (2 : Int) ^ ss = (pw : Int) := by rw [← Hpw.out]; simp
                  have epw1 : IntKind.u32.wrap (pw : Int) = (pw : Int) := by rw [IntKind.wrap_u32]; omega
                  have hp : p < 4294967296 := by omega
                  have HN : Hid (nv Bs (Q.set kk (p + pw)) = A / 2 ^ i / D * 2 ^ i) := by
                    show _ = _
                    have h1 := nv_set' Bs Q kk (p + pw) p (by rw [HI.out.2.1]; omega) Hp.out
                    have h2 : Bs ^ kk * pw = 2 ^ i := by rw [← Hpw.out, Bs_pow kk (32 * kk) rfl, ← Nat.pow_add]; congr 1; omega
                    rw [HQ1.out.1, ← HI.out.2.2.2.2.2.1, ← h2]
                    exact quo_end _ _ _ _ _ h1
                  clear HL hkk hss
                  obtain ⟨nw, Hnw⟩ : ∃ nw, Hid (p + pw = nw) := ⟨_, rfl⟩
                  rw [Hnw.out] at hor hps HN
                  go_wp2
                  go_roundw
                  case rel => exact ⟨i, Q.set kk nw, T, rfl, by omega, HK.out.1.setQ _ _, by rw [List.length_set]; exact HI.out.2.1, HK.out.2.1, HI.out.2.2.2.1.set kk nw (by rw [Bs_eq]; exact hps), HK.out.2.2.1, HN.out, HT.out⟩
                  case measure => simp [intOf]
            · have hoB : decide (cmp3 ((2 * (A / 2 ^ (i + 1) % D) + 1 : Nat) : Int) ((D : Nat) : Int) ≥ 0) = false := by rw [cmp3_lt (by omega)]; rfl
              have HQ1 : Hid (A / 2 ^ i / D * 2 ^ i = A / 2 ^ (i + 1) / D * 2 ^ (i + 1) ∧ A / 2 ^ i % D = 2 * (A / 2 ^ (i + 1) % D) + 1) := HQ.2 (by omega)
              generalize cmp3 ((2 * (A / 2 ^ (i + 1) % D) + 1 : Nat) : Int) ((D : Nat) : Int) = o at CC hoB
              clear hge HQ
              go_wp2_with fail
              refine CC.mono ?_
              clear CC
              rintro e wx ⟨rfl, rfl⟩
              go_wp2
              go_roundw
              case rel => exact ⟨i, Q, R', rfl, by omega, HJ.out.1, HI.out.2.1, HJ.out.2.1, HI.out.2.2.2.1, HJ.out.2.2.1, by rw [HI.out.2.2.2.2.2.1, HQ1.out.1], by rw [HV.out, HQ1.out.2]⟩
              case measure => simp [intOf]
      · rw [decide_eq_false hbit] at C
        have HB : Hid (A / 2 ^ i % 2 = 0) := by show _ = _; omega
        go_wp2_with fail
        refine C.mono ?_
        clear C
        rintro e wx ⟨rfl, rfl⟩
        clear hbit
        have HMS0 : Hid (∀ j, 0 ≤ j → R.getD j 0 = R.getD j 0) := fun _ _ => rfl
        go_wp2
        go_loopw [9, 10] (fun s9 s10 wq => ∃ (k c : Nat) (R' : List Nat), s9 = .int .u32 (c : Int) ∧ s10 = .int .i64 (k : Int) ∧ k ≤ Y.length + 1 ∧ c ≤ 1 ∧ Hid (DV w2 wq Q R' ∧ R'.length = Y.length + 1 ∧ Sm Bs R' ∧ nv Bs R' + Bs ^ k * c = nv Bs R + nv Bs (R.take k) + 0 ∧ ∀ j, k ≤ j → R'.getD j 0 = R.getD j 0)) (fun _ s _ => Y.length + 1 - (intOf s).toNat)
        case atStart => exact ⟨0, 0, R, rfl, rfl, Nat.zero_le _, by omega, HI.out.1, HI.out.2.2.1, HI.out.2.2.2.2.1, by rw [List.take_zero, Nat.pow_zero]; show _ = _ + 0 + _; omega, fun _ _ => rfl⟩
        case round =>
          obtain ⟨k, c, R', rfl, rfl, hk, hc, HJ⟩ := hrel
          by_cases hlk : k < Y.length + 1
          · obtain ⟨x, Hx⟩ : ∃ x, Hid (R.getD k 0 = x) := ⟨_, rfl⟩
            have Hx' : Hid (R'.getD k 0 = x) := by show _ = _; rw [HJ.out.2.2.2.2 k (Nat.le_refl _)]; exact Hx.out
            have hx : x < 4294967296 := by rw [← Hx'.out, ← Bs_eq]; exact HJ.out.2.2.1.getD Bs_pos k
            have c1 := HJ.out.1.r.limb k x (by rw [HJ.out.2.1]; omega) Hx'.out
            have gf := HJ.out.1.r.frozen k
            have edb := dbl_limb x c hx hc
            obtain ⟨dd, Hdd⟩ : ∃ dd, Hid ((2 * x) % 4294967296 = dd) := ⟨_, rfl⟩
            obtain ⟨top, Htop⟩ : ∃ top, Hid (2 * x / 4294967296 = top) := ⟨_, rfl⟩
            have hdd : dd < 4294967296 := by rw [← Hdd.out]; omega
            have hdd2 : dd + c < 4294967296 := by rw [← Hdd.out]; omega
            have htop : top ≤ 1 := by rw [← Htop.out]; omega
            rw [Hdd.out] at edb
            have et1 : (x : Int) / 2147483648 = (top : Int) := by rw [← Htop.out]; omega
            have et2 : IntKind.u32.wrap ((x : Int) * 2) = (dd : Int) := by rw [IntKind.wrap_u32, ← Hdd.out]; omega
            have et3 : ((x : Int) * 2) % 4294967296 = (dd : Int) := by rw [← Hdd.out]; omega
            have hkI : (k : Int) < (Y.length : Int) + 1 := by omega
            obtain ⟨vv, Hvv⟩ : ∃ vv, Hid (dd + c = vv) := ⟨_, rfl⟩
            rw [Hvv.out] at edb hdd2
            have HN : Hid (nv Bs (R'.set k vv) + Bs ^ (k + 1) * top = nv Bs R + nv Bs (R.take (k + 1)) + 0) := by
              show _ = _
              rw [Nat.pow_succ, nv_take_succ, Hx.out]
              exact dblr_step _ _ _ _ _ _ _ _ _ _ _ HJ.out.2.2.2.1 (nv_set' Bs R' k vv x (by rw [HJ.out.2.1]; omega) Hx'.out) (by have := Hvv.out; have := Hdd.out; have := Htop.out; rw [Bs_eq]; omega)
            go_wp2
            go_roundw
            case rel => exact ⟨k + 1, top, R'.set k vv, rfl, by go_num, by omega, htop, HJ.out.1.setR _ _, by rw [List.length_set]; exact HJ.out.2.1, HJ.out.2.2.1.set k vv (by rw [Bs_eq]; exact hdd2), HN.out, fun j hj => by rw [getD_set_ne _ _ _ _ (by omega)]; exact HJ.out.2.2.2.2 j (by omega)⟩
            case measure => simp [intOf]; omega
          · obtain rfl : k = Y.length + 1 := by omega
            have hkI : ¬ (((Y.length + 1 : Nat) : Int) < (Y.length : Int) + 1) := by omega
            have HV : Hid (nv Bs R' = 2 * (A / 2 ^ (i + 1) % D) + 0) := by
              have h1 := HJ.out.2.2.2.1
              rw [List.take_of_length_le (by rw [HI.out.2.2.1]; exact Nat.le_refl _), HI.out.2.2.2.2.2.2] at h1
              have h2 : A / 2 ^ (i + 1) % D < D := Nat.mod_lt _ (Nat.pos_of_ne_zero HD0.out)
              have h3 : D < Bs ^ Y.length := by rw [← HY.out]; exact nv_lt Bs_pos HSY.out
              rw [Nat.pow_succ] at h1
              exact dbl_end _ _ _ _ _ _ _ h1 h2 h3 Bs_two hc (by decide)
            have CC := rcmp_nm (.slice (some ⟨w2.heap.size + 1, 0, none⟩) (Y.length + 1) (Y.length + 1)) (.slice ay Y.length cy) R' Y _ ⟨_, _, by rw [HJ.out.2.1], by rw [HJ.out.2.1]; exact Nat.le_refl _, HJ.out.1.r.rn, HJ.out.2.2.1⟩ ⟨_, _, rfl, hcy, HRY.out.below HJ.out.1.bel (Nat.le_refl _), HSY.out⟩ (by rw [HJ.out.2.1]; omega) (by omega)
            rw [HV.out, HY.out] at CC
            have HQ := quo_step A D i HD0.out
            rw [HB.out] at HQ
            by_cases hge : D ≤ 2 * (A / 2 ^ (i + 1) % D) + 0
            · obtain ⟨o, Ho, hoB⟩ : ∃ o : Int, Hid (cmp3 ((2 * (A / 2 ^ (i + 1) % D) + 0 : Nat) : Int) ((D : Nat) : Int) = o) ∧ decide (o ≥ 0) = true := by
                rcases Nat.lt_or_ge D (2 * (A / 2 ^ (i + 1) % D) + 0) with h | h
                · exact ⟨1, cmp3_gt (by omega), by decide⟩
                · exact ⟨0, cmp3_eq (by omega), by decide⟩
              rw [Ho.out] at CC
              have HQ1 : Hid (A / 2 ^ i / D * 2 ^ i = A / 2 ^ (i + 1) / D * 2 ^ (i + 1) + 2 ^ i ∧ A / 2 ^ i % D = 2 * (A / 2 ^ (i + 1) % D) + 0 - D) := HQ.1 hge
              have HGE : Hid (D ≤ nv Bs R') := by rw [HV.out]; exact hge
              clear hge HQ
              go_wp2_with fail
              refine CC.mono ?_
              clear CC
              rintro e wx ⟨rfl, rfl⟩
              go_wp2
              go_loopw [12, 13] (fun s12 s13 wq => ∃ (k bw : Nat) (T : List Nat), s12 = .int .u64 (bw : Int) ∧ s13 = .int .i64 (k : Int) ∧ k ≤ Y.length + 1 ∧ bw ≤ 1 ∧ Hid (DV w2 wq Q T ∧ T.length = Y.length + 1 ∧ Sm Bs T ∧ nv Bs T + nv Bs (Y.take k) = nv Bs R' + Bs ^ k * bw ∧ ∀ j, k ≤ j → T.getD j 0 = R'.getD j 0)) (fun _ s _ => Y.length + 1 - (intOf s).toNat)
              case atStart => exact ⟨0, 0, R', rfl, rfl, Nat.zero_le _, by omega, HJ.out.1, HJ.out.2.1, HJ.out.2.2.1, by rw [List.take_zero, Nat.mul_zero]; rfl, fun _ _ => rfl⟩
              case round =>
                obtain ⟨k, bw, T, rfl, rfl, hk, hbw, HK⟩ := hrel
                by_cases hlk : k < Y.length + 1
                · obtain ⟨x, Hx⟩ : ∃ x, Hid (T.getD k 0 = x) := ⟨_, rfl⟩
                  obtain ⟨y, Hy⟩ : ∃ y, Hid (Y.getD k 0 = y) := ⟨_, rfl⟩
                  have hx : x < 4294967296 := by rw [← Hx.out, ← Bs_eq]; exact HK.out.2.2.1.getD Bs_pos k
                  have hy : y < 4294967296 := by rw [← Hy.out, ← Bs_eq]; exact HSY.out.getD Bs_pos k
                  have C2 := rlimb_any ay Y.length cy k Y _ (HRY.out.below HK.out.1.bel (Nat.le_refl _)) HSY.out rfl
                  rw [Hy.out] at C2
                  have c1 := HK.out.1.r.limb k x (by rw [HK.out.2.1]; omega) Hx.out
                  have gf := HK.out.1.r.frozen k
                  obtain ⟨z, b', hz, hb', hzb, hlo1, hlo2⟩ := sub_limb x y bw hx hy hbw
                  have HN : Hid (nv Bs (T.set k z) + nv Bs (Y.take (k + 1)) = nv Bs R' + Bs ^ (k + 1) * b') := by
                    show _ = _
                    rw [Nat.pow_succ, nv_take_succ, Hy.out]
                    exact subr_step _ _ _ _ _ _ _ _ _ _ _ HK.out.2.2.2.1 (nv_set' Bs T k z x (by rw [HK.out.2.1]; omega) Hx.out) (by rw [Bs_eq]; exact hzb)
                  clear hzb
                  obtain ⟨yb, Hyb⟩ : ∃ yb, Hid (y + bw = yb) := ⟨_, rfl⟩
                  have eyb : (y : Int) + (bw : Int) = (yb : Int) := by rw [← Hyb.out]; omega
                  have ebw : IntKind.u64.wrap (yb : Int) = (yb : Int) := by rw [IntKind.wrap_u64, ← Hyb.out]; omega
                  have hyb : yb ≤ 4294967296 := by rw [← Hyb.out]; omega
                  have e5 : IntKind.u32.wrap (z : Int) = (z : Int) := by rw [IntKind.wrap_u32]; omega
                  have ew2 : IntKind.u64.wrap (z : Int) = (z : Int) := by rw [IntKind.wrap_u64]; omega
                  have hkI : (k : Int) < (Y.length : Int) + 1 := by omega
                  rw [Hyb.out] at hlo1 hlo2
                  have HRL : Hid (∀ v : Nat, v < 4294967296 → (T.set k v).length = Y.length + 1 ∧ Sm Bs (T.set k v) ∧ ∀ j, k + 1 ≤ j → (T.set k v).getD j 0 = R'.getD j 0) := fun v hv => ⟨by rw [List.length_set]; exact HK.out.2.1, HK.out.2.2.1.set k v (by rw [Bs_eq]; exact hv), fun j hj => by rw [getD_set_ne _ _ _ _ (by omega)]; exact HK.out.2.2.2.2 j (by omega)⟩
                  by_cases hxy : x < yb
                  · have hc1 : decide ((x : Int) < (yb : Int)) = true := decide_eq_true (by omega)
                    have hb1 := (hlo1 (by omega)).1
                    have hz1 := (hlo1 (by omega)).2
                    have ew1 : IntKind.u64.wrap ((x : Int) + 4294967296) = (x : Int) + 4294967296 := by rw [IntKind.wrap_u64]; omega
                    subst hb1
                    clear hlo1 hlo2 hxy
                    go_wp2_with fail
                    refine C2.mono ?_
                    clear C2
                    rintro e wx ⟨rfl, rfl⟩
                    go_wp2
                    go_roundw
                    case rel => exact ⟨k + 1, 1, T.set k z, rfl, by go_num, by omega, by omega, HK.out.1.setR _ _, (HRL.out z hz).1, (HRL.out z hz).2.1, HN.out, (HRL.out z hz).2.2⟩
                    case measure => simp [intOf]; omega
                  · have hc1 : decide ((x : Int) < (yb : Int)) = false := decide_eq_false (by omega)
                    have hb1 := (hlo2 (by omega)).1
                    have hz1 := (hlo2 (by omega)).2
                    subst hb1
                    clear hlo1 hlo2 hxy
                    go_wp2_with fail
                    refine C2.mono ?_
                    clear C2
                    rintro e wx ⟨rfl, rfl⟩
                    go_wp2
                    go_roundw
                    case rel => exact ⟨k + 1, 0, T.set k z, rfl, by go_num, by omega, by omega, HK.out.1.setR _ _, (HRL.out z hz).1, (HRL.out z hz).2.1, HN.out, (HRL.out z hz).2.2⟩
                    case measure => simp [intOf]; omega
                · obtain rfl : k = Y.length + 1 := by omega
                  have hkI : ¬ (((Y.length + 1 : Nat) : Int) < (Y.length : Int) + 1) := by omega
                  have HT : Hid (nv Bs T = A / 2 ^ i % D) := by
                    have h1 := HK.out.2.2.2.1
                    rw [List.take_of_length_le (by omega), HY.out] at h1
                    have h2 := nv_lt Bs_pos HK.out.2.2.1
                    rw [HK.out.2.1] at h2
                    show _ = _
                    rw [HQ1.out.2, ← HV.out]
                    exact sub_end _ _ _ _ _ h1 h2 HGE.out hbw
                  obtain ⟨kk, hkk⟩ : ∃ kk, i / 32 = kk := ⟨_, rfl⟩
                  obtain ⟨ss, hss⟩ : ∃ ss, i % 32 = ss := ⟨_, rfl⟩
                  have hs32 : ss < 32 := by omega
                  have hkX : kk < X.length := by omega
                  have HL := quo_limb Q kk ss (A / 2 ^ (i + 1) / D) hs32 HI.out.2.2.2.1 (by rw [show 32 * kk + ss + 1 = i + 1 by omega]; exact HI.out.2.2.2.2.2.1)
                  obtain ⟨p, Hp⟩ : ∃ p, Hid (Q.getD kk 0 = p) := ⟨_, rfl⟩
                  obtain ⟨pw, Hpw⟩ : ∃ pw : Nat, Hid (2 ^ ss = pw) := ⟨2 ^ ss, (rfl : (2 : Nat) ^ ss = 2 ^ ss)⟩
                  rw [Hp.out, Hpw.out] at HL
                  have hor := HL.1
                  have hps := HL.2
                  have hpw : pw < 4294967296 := by omega
                  have c1 := HK.out.1.q.limb kk p (by rw [HI.out.2.1]; omega) Hp.out
                  have gf := HK.out.1.q.frozen kk
                  have eq1 : Int.tdiv (i : Int) 32 = (kk : Int) := by rw [Int.tdiv_eq_ediv_of_nonneg (by omega)]; omega
                  have eq2 : (i : Int) / 32 = (kk : Int) := by omega
                  have es1 : Int.tmod (i : Int) 32 = (ss : Int) := by rw [Int.tmod_eq_emod_of_nonneg (by omega)]; omega
                  have es2 : (i : Int) % 32 = (ss : Int) := by omega
                  have epw : (2 : Int) ^ ss = (pw : Int) := by rw [← Hpw.out]; simp
                  have epw1 : IntKind.u32.wrap (pw : Int) = (pw : Int) := by rw [IntKind.wrap_u32]; omega
                  have hp : p < 4294967296 := by omega
                  have HN : Hid (nv Bs (Q.set kk (p + pw)) = A / 2 ^ i / D * 2 ^ i) := by
                    show _ = _
                    have h1 := nv_set' Bs Q kk (p + pw) p (by rw [HI.out.2.1]; omega) Hp.out
                    have h2 : Bs ^ kk * pw = 2 ^ i := by rw [← Hpw.out, Bs_pow kk (32 * kk) rfl, ← Nat.pow_add]; congr 1; omega
                    rw [HQ1.out.1, ← HI.out.2.2.2.2.2.1, ← h2]
                    exact quo_end _ _ _ _ _ h1
                  clear HL hkk hss
                  obtain ⟨nw, Hnw⟩ : ∃ nw, Hid (p + pw = nw) := ⟨_, rfl⟩
                  rw [Hnw.out] at hor hps HN
                  go_wp2
                  go_roundw
                  case rel => exact ⟨i, Q.set kk nw, T, rfl, by omega, HK.out.1.setQ _ _, by rw [List.length_set]; exact HI.out.2.1, HK.out.2.1, HI.out.2.2.2.1.set kk nw (by rw [Bs_eq]; exact hps), HK.out.2.2.1, HN.out, HT.out⟩
                  case measure => simp [intOf]
            · have hoB : decide (cmp3 ((2 * (A / 2 ^ (i + 1) % D) + 0 : Nat) : Int) ((D : Nat) : Int) ≥ 0) = false := by rw [cmp3_lt (by omega)]; rfl
              have HQ1 : Hid (A / 2 ^ i / D * 2 ^ i = A / 2 ^ (i + 1) / D * 2 ^ (i + 1) ∧ A / 2 ^ i % D = 2 * (A / 2 ^ (i + 1) % D) + 0) := HQ.2 (by omega)
              generalize cmp3 ((2 * (A / 2 ^ (i + 1) % D) + 0 : Nat) : Int) ((D : Nat) : Int) = o at CC hoB
              clear hge HQ
              go_wp2_with fail
              refine CC.mono ?_
              clear CC
              rintro e wx ⟨rfl, rfl⟩
              go_wp2
              go_roundw
              case rel => exact ⟨i, Q, R', rfl, by omega, HJ.out.1, HI.out.2.1, HJ.out.2.1, HI.out.2.2.2.1, HJ.out.2.2.1, by rw [HI.out.2.2.2.2.2.1, HQ1.out.1], by rw [HV.out, HQ1.out.2]⟩
              case measure => simp [intOf]

end Go.Proofs.Ytecapoknnnoheaa
