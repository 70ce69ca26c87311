import Derived.Test.YtecapoknnnoheaaEst
import Derived.Test.YtecapoknnnoheaaDivM
namespace Go.Proofs.Ytecapoknnnoheaa
open Go.RowKit

theorem Ow.below {w w' : World} {base n : Nat} {v : Value} {xs : List Nat} (h : Ow w base v xs) (hb : Below n w w') (hn : w.heap.size ≤ n) : Ow w' base v xs := by
  rcases h.2 with h0 | ⟨g, cap, cur, e, hg, hh, r⟩
  · exact ⟨h.1, .inl h0⟩
  · exact ⟨h.1, .inr ⟨g, cap, cur, e, hg, by rw [hb.block g (Nat.lt_of_lt_of_le (Array.getElem?_eq_some_iff.1 hh).1 hn)]; exact hh, r⟩⟩
theorem Ow.drewN {w : World} {base : Nat} {v : Value} {xs : List Nat} (h : Ow w base v xs) (q : Nat) : Ow (w.drewN q) base v xs := h
theorem Ow.base {w : World} {base base' : Nat} {v : Value} {xs : List Nat} (h : Ow w base v xs) (hb : base' ≤ base) : Ow w base' v xs := by
  rcases h.2 with h0 | ⟨g, cap, cur, e, hg, r⟩
  · exact ⟨h.1, .inl h0⟩
  · exact ⟨h.1, .inr ⟨g, cap, cur, e, Nat.le_trans hb hg, r⟩⟩

theorem Bl.rn_mid {t : TypeId} {w : World} {g o : Nat} {lo W hi : List Nat} (h : Bl t w g ((lo ++ W ++ hi).map U)) (ho : o = lo.length) : Rn w (some ⟨g, o, none⟩) W := by
  subst ho
  refine .inr ⟨g, lo.length, rfl, h.lt, fun j hj => ?_⟩
  rw [h.cell (lo.length + j) (by simp; omega), List.getElem_map, List.getElem_append_left (by simp; omega), List.getElem_append_right (by omega), getD_eq _ _ hj]
  simp

/-- What stands while a quotient is made. -/
structure DS (w wr : World) (L Q D : List Nat) (m mq : Nat) : Prop where
  bl : Bl 29 wr w.heap.size (L.map U)
  len : L.length = mq + (m + 1)
  sm : Sm Bs L
  rd : Rn wr (some ⟨w.heap.size + 1, 0, none⟩) D
  qb : Bl 29 wr (w.heap.size + 2) (Q.map U)
  ql : Q.length = mq
  qs : Sm Bs Q
  bel : Below w.heap.size w wr
  size : wr.heap.size = w.heap.size + 3

theorem low_win {L : List Nat} {m p mq : Nat} (hl : L.length = mq + (m + 1)) (hp : p < mq) : ∃ lo W hi : List Nat, L = lo ++ W ++ hi ∧ lo.length = p ∧ W.length = m + 2 := by
  refine ⟨L.take p, (L.drop p).take (m + 2), (L.drop p).drop (m + 2), ?_, ?_, ?_⟩
  · rw [List.append_assoc, List.take_append_drop, List.take_append_drop]
  · rw [List.length_take]; omega
  · rw [List.length_take, List.length_drop]; omega

/-- The limbs above the window are noughts. -/
theorem win_value {B : Nat} (_hB : 0 < B) {lo W hi : List Nat} {m p D : Nat} (hlo : lo.length = p) (hW : W.length = m + 2) (hD : D < B ^ (m + 1)) (h : nv B (lo ++ W ++ hi) < B ^ (p + 1) * D) : nv B (lo ++ W ++ hi) = nv B lo + B ^ p * nv B W ∧ nv B hi = 0 ∧ nv B W < B * D := by
  rw [nv_append, nv_append, List.length_append, hlo, hW] at h ⊢
  have h1 : B ^ (p + 1) * D ≤ B ^ (p + 1) * B ^ (m + 1) := Nat.mul_le_mul_left _ (Nat.le_of_lt hD)
  rw [← Nat.pow_add, show p + 1 + (m + 1) = p + (m + 2) by omega] at h1
  have h2 : nv B hi = 0 := by
    rcases Nat.eq_zero_or_pos (nv B hi) with h3 | h3
    · exact h3
    · exfalso
      have : B ^ (p + (m + 2)) * 1 ≤ B ^ (p + (m + 2)) * nv B hi := Nat.mul_le_mul_left _ h3
      omega
  rw [h2, Nat.mul_zero, Nat.add_zero] at h ⊢
  refine ⟨rfl, rfl, ?_⟩
  have h4 : B ^ p * nv B W < B ^ p * (B * D) := by
    have e : B ^ p * (B * D) = B ^ (p + 1) * D := by rw [Nat.pow_succ, Nat.mul_assoc]
    omega
  exact Nat.lt_of_mul_lt_mul_left h4

theorem start_lt {B : Nat} (X s D la mq m : Nat) (hX : X < B ^ la) (hs : 2 ^ s ≤ 2147483648) (hD : B ^ m * 2147483648 ≤ D) (hla : la + 1 = mq + (m + 1)) : X * 2 ^ s < B ^ mq * D := by
  have h1 : X * 2 ^ s < B ^ la * 2147483648 := Nat.lt_of_le_of_lt (Nat.mul_le_mul_left _ hs) (Nat.mul_lt_mul_of_pos_right hX (by decide))
  have h2 : B ^ mq * (B ^ m * 2147483648) ≤ B ^ mq * D := Nat.mul_le_mul_left _ hD
  rw [← Nat.mul_assoc, ← Nat.pow_add, show mq + m = la by omega] at h2
  exact Nat.lt_of_lt_of_le h1 h2

theorem quot_end {X D Q R S : Nat} (hS : 0 < S) (h : R + Q * (D * S) = X * S) (hR : R < D * S) : Q = X / D ∧ R / S = X % D := by
  have h1 : R = (X - Q * D) * S := by
    rw [Nat.sub_mul, Nat.mul_assoc]
    omega
  have h2 : Q * D ≤ X := by
    have : Q * D * S ≤ X * S := by rw [Nat.mul_assoc]; omega
    exact Nat.le_of_mul_le_mul_right this hS
  have h3 : X - Q * D < D := by
    rw [h1] at hR
    exact Nat.lt_of_mul_lt_mul_right hR
  have h4 : X = Q * D + (X - Q * D) := by omega
  have h5 : 0 < D := by omega
  constructor
  · have h6 : (D * Q + (X - Q * D)) / D = Q + (X - Q * D) / D := Nat.mul_add_div h5 _ _
    rw [Nat.mul_comm D Q, ← h4, Nat.div_eq_of_lt h3] at h6
    omega
  · rw [h1, Nat.mul_div_cancel _ hS]
    have : X % D = (X - Q * D) % D := by
      rw [show X - Q * D = X - D * Q by rw [Nat.mul_comm]]
      exact (Nat.sub_mul_mod (by rw [Nat.mul_comm]; exact h2)).symm
    rw [this, Nat.mod_eq_of_lt h3]

theorem DS.turn {w w0 w1 : World} {lo W W1 hi Q D : List Nat} {m mq : Nat} (h : DS w w0 (lo ++ W ++ hi) Q D m mq) (hb : Bl 29 w1 w.heap.size ((lo ++ W1 ++ hi).map U)) (hl : W1.length = W.length) (hs : Sm Bs W1) (hbut : But w0 w1 w.heap.size) (hsz : w1.heap.size = w0.heap.size) : DS w w1 (lo ++ W1 ++ hi) Q D m mq :=
  ⟨hb, by have := h.len; simp only [List.length_append] at this ⊢; omega, (h.sm.left.left.append hs).append h.sm.right, h.rd.but hbut (fun a _ e => by cases e; show w.heap.size + 1 ≠ w.heap.size; omega), h.qb.but hbut (show w.heap.size + 2 ≠ w.heap.size by omega), h.ql, h.qs, h.bel.trans (hbut.below h.bel.size (Nat.le_refl _)), by rw [hsz]; exact h.size⟩
theorem DS.put {w w1 : World} {L Q D : List Nat} {m mq : Nat} (h : DS w w1 L Q D m mq) (p v : Nat) (hv : v < 4294967296) : DS w (w1.setCell ⟨w.heap.size + 2, p, none⟩ (.int .u32 (v : Int))) L (Q.set p v) D m mq := by
  have hb : But w1 (w1.setCell ⟨w.heap.size + 2, p, none⟩ (.int .u32 (v : Int))) (w.heap.size + 2) := (But.refl _ _).set _ _
  exact ⟨h.bl.but hb (show w.heap.size ≠ w.heap.size + 2 by omega), h.len, h.sm, h.rd.but hb (fun a _ e => by cases e; show w.heap.size + 1 ≠ w.heap.size + 2; omega), h.qb.setU p v, by rw [List.length_set]; exact h.ql, h.qs.set p v hv, h.bel.setCell (show w.heap.size ≤ w.heap.size + 2 by omega) _, by rw [World.size_setCell]; exact h.size⟩
theorem But.undrew {w w' : World} {q b : Nat} (h : But (w.drewN q) w' b) : But w w' b := ⟨h.os, h.tape, h.output, h.size, h.block⟩

theorem turn_value {B : Nat} (hB : 0 < B) {lo W W1 hi Q : List Nat} {p g D A : Nat} (slo : Sm B lo) (hlo : lo.length = p) (_hl : W1.length = W.length) (hv : nv B (lo ++ W ++ hi) = nv B lo + B ^ p * nv B W) (hh : nv B hi = 0) (hw : nv B W = nv B W1 + g * D) (hlt : nv B W1 < D) (hA : nv B (lo ++ W ++ hi) + nv B Q * D = A) (hq : Q.getD p 0 = 0) (hp : p < Q.length) :
    nv B (lo ++ W1 ++ hi) + nv B (Q.set p g) * D = A ∧ nv B (lo ++ W1 ++ hi) < B ^ p * D := by
  have e1 : nv B (lo ++ W1 ++ hi) = nv B lo + B ^ p * nv B W1 := by rw [nv_append, nv_append, hh, hlo]; omega
  have e2 := nv_set' B Q p g 0 hp hq
  rw [Nat.mul_zero, Nat.add_zero] at e2
  rw [hv] at hA
  have h1 := nv_lt hB slo
  rw [hlo] at h1
  rw [e1, e2]
  exact rem_step hA hw h1 hlt

set_option maxHeartbeats 4000000 in
theorem divide_any (ax ad : Option Addr) (cx cd m mq n : Nat) (X D0 : List Nat) (w : World) (hX : Rn w ax X) (hD : Rn w ad D0) (sX : Sm Bs X) (sD : Sm Bs D0) (lD : D0.length = m + 1) (hn : n = m + 1) (lX : X.length + 1 = mq + (m + 1)) (hmq : 0 < mq) (ht : D0.getD m 0 ≠ 0) (hl : X.length ≤ 100000000) :
    Calls Try.prog 54 #[.slice ax X.length cx, .slice ad n cd] w fun e w' => ∃ q r b2, e = .returned (.tuple #[q, r]) ∧ Ow w' w.heap.size q (dg Bs (nv Bs X / nv Bs D0)) ∧ Ow w' b2 r (dg Bs (nv Bs X % nv Bs D0)) ∧ w.heap.size ≤ b2 ∧ (∀ g, q.ownBlock = some g → g < b2) ∧ Below w.heap.size w w' := by
  obtain ⟨nb, nl, nt⟩ := norm_div D0 m sD lD ht
  obtain ⟨t, Ht⟩ : ∃ t, Hid (D0.getD m 0 = t) := ⟨_, rfl⟩
  rw [Ht.out] at nb nl nt ht
  have ht32 : t < 4294967296 := by rw [← Ht.out, ← Bs_eq]; exact sD.getD Bs_pos m
  have hb0 := bl_pos t ht
  obtain ⟨s, Hs⟩ : ∃ s, Hid (32 - bl t = s) := ⟨_, rfl⟩
  rw [Hs.out] at nl nt
  have hs : s ≤ 31 := by rw [← Hs.out]; omega
  have CL := lead_any t w ht32
  rw [Hs.out] at CL
  obtain ⟨gd, od, rfl, _, cD⟩ := hD.cell (by omega)
  have k1 := cD m (by omega)
  rw [Ht.out] at k1
  have CR1 := raised_any ax X.length cx s X w hX sX rfl hl (by omega)
  obtain ⟨D, HD⟩ : ∃ D, Hid (D = dg Bs (nv Bs D0 * 2 ^ s)) := ⟨_, rfl⟩
  rw [← HD.out] at nl nt
  have HDv : Hid (nv Bs D = nv Bs D0 * 2 ^ s) := by show _ = _; rw [HD.out, dg_nv Bs_two]
  have HDs : Hid (Sm Bs D) := by show Sm _ _; rw [HD.out]; exact dg_sm Bs_two _
  have HDl : Hid (D.length = m + 1) := nl
  have HDt : Hid (2147483648 ≤ D.getD m 0) := nt
  have HRD : Hid (Rn w (some ⟨gd, od, none⟩) D0) := hD
  have HSD : Hid (Sm Bs D0) := sD
  have HlD : Hid (D0.length = m + 1) := lD
  have HlX : Hid (X.length + 1 = mq + (m + 1)) := lX
  have HSX : Hid (Sm Bs X) := sX
  have hmqb : mq ≤ 100000000 := by omega
  have hmb : m ≤ 100000000 := by omega
  have e1 : (X.length : Int) - ((m : Int) + 1) + 1 = (mq : Int) := by omega
  have em : ((m + 1 : Nat) : Int) - 1 = (m : Int) := by omega
  have emc : (m : Int) < ((m + 1 : Nat) : Int) := by omega
  subst hn
  clear hX hD sX sD lD lX nb nl nt ht ht32 hb0 cD Ht Hs
  go_enter Try.func54, Try.ntmps54
  go_wp2_with fail
  refine CL.mono ?_
  clear CL
  rintro e w ⟨rfl, rfl⟩
  go_wp2_with fail
  refine CR1.mono ?_
  clear CR1
  rintro e w1 ⟨L, N, hN, rfl, hbL, lL, sL, vL, bel1, sz1⟩
  rw [Nat.div_eq_of_lt (show s < 32 by omega), Nat.zero_add] at hN
  subst hN
  have CR2 := raised_any (some ⟨gd, od, none⟩) (m + 1) cd s D0 w1 (HRD.out.below bel1 (Nat.le_refl _)) HSD.out HlD.out.symm (by omega) (by omega)
  rw [sz1] at CR2
  have HL : Hid (Bl 29 w1 w.heap.size (L.map U) ∧ L.length = X.length + 1 ∧ Sm Bs L ∧ nv Bs L = nv Bs X * 2 ^ s ∧ Below w.heap.size w w1 ∧ w1.heap.size = w.heap.size + 1) := ⟨hbL, lL, sL, vL, bel1, sz1⟩
  clear hbL lL sL vL bel1 sz1
  go_wp2_with fail
  refine CR2.mono ?_
  clear CR2
  rintro e w2 ⟨L2, N2, hN2, rfl, hbL2, lL2, sL2, vL2, bel2, sz2⟩
  rw [Nat.div_eq_of_lt (show s < 32 by omega), Nat.zero_add] at hN2
  subst hN2
  have CP := proper_any (some ⟨w.heap.size + 1, 0, none⟩) (m + 1 + 1) (m + 1 + 1) L2 w2 hbL2.rn lL2.symm (Nat.le_refl _) (by omega)
  have etl : tl L2 = m + 1 := by rw [← dg_length Bs_two sL2, vL2, ← HD.out]; exact HDl.out
  rw [etl] at CP
  have HR2 : Hid (Rn w2 (some ⟨w.heap.size + 1, 0, none⟩) D) := by
    have := hbL2.rn.take (tl L2)
    rw [trim_dg Bs_two sL2, vL2, ← HD.out] at this
    exact this
  have HL2 : Hid (Bl 29 w2 w.heap.size (L.map U) ∧ Below w.heap.size w w2 ∧ w2.heap.size = w.heap.size + 2) := ⟨HL.out.1.below bel2 (by omega), HL.out.2.2.2.2.1.trans (bel2.mono (by omega)), by omega⟩
  clear hbL2 lL2 sL2 vL2 bel2 sz2 etl
  go_wp2_with fail
  refine CP.mono ?_
  clear CP
  rintro e w2 ⟨rfl, rfl⟩
  obtain ⟨w3, hmk, hbm, hbel, hsz⟩ := madeU w2 mq (by omega)
  have HDS : Hid (DS w w3 L (List.replicate mq 0) D m mq) := by
    have a := HL2.out
    rw [a.2.2] at hbm
    exact ⟨a.1.below hbel (by omega), by rw [HL.out.2.1]; exact HlX.out, HL.out.2.2.1, HR2.out.below hbel (by omega), hbm, by simp, Sm.zeros _ Bs_pos, a.2.1.trans (hbel.mono (by omega)), by omega⟩
  have HV0 : Hid (nv Bs L + nv Bs (List.replicate mq 0) * nv Bs D = nv Bs X * 2 ^ s ∧ nv Bs L < Bs ^ mq * nv Bs D) := by
    refine ⟨by rw [nv_zeros, Nat.zero_mul, Nat.add_zero]; exact HL.out.2.2.2.1, ?_⟩
    rw [HL.out.2.2.2.1]
    refine start_lt (B := Bs) (nv Bs X) s (nv Bs D) X.length mq m (nv_lt Bs_pos HSX.out) (Nat.pow_le_pow_right (n := 2) (by decide) (show s ≤ 31 by omega)) ?_ HlX.out
    have e2 := nv_take_succ Bs D m
    rw [List.take_of_length_le (by rw [HDl.out]; exact Nat.le_refl _)] at e2
    rw [e2]
    exact Nat.le_trans (Nat.mul_le_mul_left _ HDt.out) (Nat.le_add_left _ _)
  rw [HL2.out.2.2] at hmk
  clear hbm hbel hsz HR2 HL HL2 HRD HSD HlD HSX
  go_wp2
  clear hmk
  go_loopw [36] (fun s36 wr => ∃ (i k q : Nat) (L Q : List Nat) (w0 : World), s36 = .int .i64 (i : Int) ∧ i ≤ mq ∧ wr = w0.drewN q ∧ Hid (i + k = mq ∧ DS w w0 L Q D m mq ∧ (∀ j, j < k → Q.getD j 0 = 0) ∧ nv Bs L + nv Bs Q * nv Bs D = nv Bs X * 2 ^ s ∧ nv Bs L < Bs ^ k * nv Bs D)) (fun s _ => mq - (intOf s).toNat)
  case atStart => exact ⟨0, mq, 0, L, _, w3, rfl, Nat.zero_le _, rfl, by omega, HDS.out, fun j _ => getD_zeros _ j, HV0.out⟩
  case round =>
    clear HDS HV0
    obtain ⟨i, k, q, L, Q, w0, rfl, hi, rfl, HI⟩ := hrel
    by_cases hlt : i < mq
    · obtain ⟨p, hp⟩ : ∃ p, k = p + 1 := ⟨k - 1, by have := HI.out.1; omega⟩
      subst hp
      obtain ⟨hk, ds, hq0, hval, hlow⟩ := HI.out
      obtain ⟨lo, W, hi', rfl, llo, lW⟩ := low_win ds.len (show p < mq by omega)
      have hDlt : nv Bs D < Bs ^ (m + 1) := by have := nv_lt Bs_pos HDs.out; rw [HDl.out] at this; exact this
      obtain ⟨v1, v2, v3⟩ := win_value Bs_pos llo lW hDlt hlow
      have hsW : Sm Bs W := ds.sm.left.right
      have CE := estimate_any (some ⟨w.heap.size, p, none⟩) (some ⟨w.heap.size + 1, 0, none⟩) m (X.length + 1 - p) (m + 1 + 1) W D (w0.drewN q) ((ds.bl.rn_mid llo.symm).drewN q) (ds.rd.drewN q) hsW HDs.out lW HDl.out HDt.out v3 (by omega)
      have HP : Hid (DS w w0 (lo ++ W ++ hi') Q D m mq ∧ lo.length = p ∧ W.length = m + 2 ∧ nv Bs D < Bs ^ (m + 1) ∧ nv Bs (lo ++ W ++ hi') = nv Bs lo + Bs ^ p * nv Bs W ∧ nv Bs hi' = 0 ∧ Sm Bs W ∧ i + (p + 1) = mq) := ⟨ds, llo, lW, hDlt, v1, v2, hsW, hk⟩
      have ep : (mq : Int) - 1 - (i : Int) = (p : Int) := by omega
      have hpb : p + (m + 1) + 1 ≤ X.length + 1 := by have := HlX.out; omega
      have hpm : p < mq := by omega
      clear hk ds hq0 hval hlow llo lW hDlt v1 v2 v3 hsW
      go_wp2_with fail
      rw [show p + (m + 1) + 1 - p = m + 2 by omega]
      refine CE.mono ?_
      clear CE
      rintro e w1 ⟨d, rfl, hd, hd1, hd2, q', rfl⟩
      rw [World.drewN_drewN]
      generalize q + q' = q
      have HE : Hid (nv Bs W < (d + 1) * nv Bs D ∧ d * nv Bs D ≤ nv Bs W + nv Bs D) := ⟨hd1, hd2⟩
      clear hd1 hd2
      have CT := takeFrom_any w.heap.size p (m + 2) (X.length + 1 - p) (m + 1) (m + 1 + 1) d (some ⟨w.heap.size + 1, 0, none⟩) lo W hi' D (w0.drewN q) (HP.out.1.bl.drewN q) HP.out.2.1.symm HP.out.2.2.1.symm HDl.out.symm (HP.out.1.rd.drewN q) (fun a _ e => by cases e; show w.heap.size + 1 ≠ w.heap.size; omega) HP.out.2.2.2.2.2.2.1 HDs.out (by omega) hd
      go_wp2_with fail
      refine CT.mono ?_
      clear CT
      rintro e w1 ⟨W1, cy, rfl, hb1, hl1, hs1, he1, hbut1, hsz1⟩
      have etk : D.take (m + 2) = D := List.take_of_length_le (by rw [HDl.out]; omega)
      rw [etk] at he1
      by_cases hcy : cy = 0
      · subst hcy
        have HN : Hid (nv Bs W1 < nv Bs D ∧ nv Bs W = nv Bs W1 + d * nv Bs D) := div_none he1 HE.out.1
        have HF : Hid (DS w w1 (lo ++ W1 ++ hi') Q D m mq ∧ W1.length = W.length) := ⟨HP.out.1.turn hb1 (by rw [hl1]; exact HP.out.2.2.1.symm) hs1 hbut1.undrew hsz1, by rw [hl1]; exact HP.out.2.2.1.symm⟩
        have hdc : decide ((0 : Nat) ≠ 0) = false := rfl
        rw [hdc]
        have gq := HF.out.1.qb.limb p 0 (by rw [HP.out.1.ql]; omega) (HI.out.2.2.1 p (by omega))
        have gf := HF.out.1.qb.frozen p
        have e3 : IntKind.u32.wrap (d : Int) = (d : Int) := by rw [IntKind.wrap_u32]; omega
        clear hb1 hl1 hs1 he1 hbut1 hsz1 hdc
        go_wp2
        go_roundw
        case rel =>
          refine ⟨i + 1, p, 0, lo ++ W1 ++ hi', Q.set p d, _, by go_num, by omega, rfl, by have := HP.out.2.2.2.2.2.2.2; omega, HF.out.1.put p d (by omega), fun j hj => by rw [getD_set_ne _ _ _ _ (by omega)]; exact HI.out.2.2.1 j (by omega), ?_⟩
          exact turn_value Bs_pos HP.out.1.sm.left.left HP.out.2.1 HF.out.2 HP.out.2.2.2.2.1 HP.out.2.2.2.2.2.1 HN.out.2 HN.out.1 HI.out.2.2.2.1 (HI.out.2.2.1 p (by omega)) (by rw [HP.out.1.ql]; exact hpm)
        case measure => simp [intOf]; omega
      · have hdc : decide (cy ≠ 0) = true := decide_eq_true hcy
        rw [hdc]
        have HF : Hid (DS w w1 (lo ++ W1 ++ hi') Q D m mq ∧ W1.length = m + 2 ∧ Sm Bs W1 ∧ nv Bs W1 + d * nv Bs D = nv Bs W + Bs ^ (m + 2) * cy ∧ cy ≠ 0) := ⟨HP.out.1.turn hb1 (by rw [hl1]; exact HP.out.2.2.1.symm) hs1 hbut1.undrew hsz1, hl1, hs1, he1, hcy⟩
        have hd0 : d ≠ 0 := fun e => by
          subst e
          rw [Nat.zero_mul, Nat.add_zero] at he1
          have h8 := nv_lt Bs_pos hs1
          rw [hl1] at h8
          have h9 : Bs ^ (m + 2) * 1 ≤ Bs ^ (m + 2) * cy := Nat.mul_le_mul_left _ (by omega)
          rw [Nat.mul_one] at h9
          exact absurd (Nat.lt_of_lt_of_le h8 (Nat.le_trans h9 (by rw [he1]; exact Nat.le_add_left _ _))) (Nat.lt_irrefl _)
        obtain ⟨d', rfl⟩ : ∃ d', d = d' + 1 := ⟨d - 1, by omega⟩
        have e2 : ((d' + 1 : Nat) : Int) - 1 = (d' : Int) := by omega
        have e3 : IntKind.u64.wrap (d' : Int) = (d' : Int) := by rw [IntKind.wrap_u64]; omega
        have CPu := putTo_any w.heap.size p (m + 2) (X.length + 1 - p) (m + 1) (m + 1 + 1) (some ⟨w.heap.size + 1, 0, none⟩) lo W1 hi' D w1 HF.out.1.bl HP.out.2.1.symm HF.out.2.1.symm HDl.out.symm HF.out.1.rd (fun a _ e => by cases e; show w.heap.size + 1 ≠ w.heap.size; omega) HF.out.2.2.1 HDs.out (by omega)
        rw [etk] at CPu
        clear hb1 hl1 hs1 he1 hbut1 hsz1 hdc hcy hd0 etk
        go_wp2_with fail
        refine CPu.mono ?_
        clear CPu
        rintro e w2 ⟨rfl, W2, c2, hb2, hl2, hs2, he2, hc2, hbut2, hsz2⟩
        have HN : Hid (nv Bs W2 < nv Bs D ∧ nv Bs W = nv Bs W2 + d' * nv Bs D) := by
          have h8 := nv_lt Bs_pos HF.out.2.2.1
          rw [HF.out.2.1] at h8
          have h9 := nv_lt Bs_pos hs2
          rw [hl2] at h9
          obtain ⟨d2, hd2, hr⟩ := div_back HF.out.2.2.2.1 HF.out.2.2.2.2 h8 (Nat.lt_of_lt_of_le HP.out.2.2.2.1 (Nat.pow_le_pow_right Bs_pos (by omega))) HE.out.2 he2 h9 hc2
          obtain rfl : d' = d2 := by omega
          exact hr
        have HF2 : Hid (DS w w2 (lo ++ W2 ++ hi') Q D m mq ∧ W2.length = W.length) := ⟨HF.out.1.turn hb2 (by rw [hl2]; exact HF.out.2.1.symm) hs2 hbut2 hsz2, by rw [hl2]; exact HP.out.2.2.1.symm⟩
        have gq := HF2.out.1.qb.limb p 0 (by rw [HP.out.1.ql]; omega) (HI.out.2.2.1 p (by omega))
        have gf := HF2.out.1.qb.frozen p
        have e4 : IntKind.u32.wrap (d' : Int) = (d' : Int) := by rw [IntKind.wrap_u32]; omega
        clear hb2 hl2 hs2 he2 hc2 hbut2 hsz2
        go_wp2
        go_roundw
        case rel =>
          refine ⟨i + 1, p, 0, lo ++ W2 ++ hi', Q.set p d', _, by go_num, by omega, rfl, by have := HP.out.2.2.2.2.2.2.2; omega, HF2.out.1.put p d' (by omega), fun j hj => by rw [getD_set_ne _ _ _ _ (by omega)]; exact HI.out.2.2.1 j (by omega), ?_⟩
          exact turn_value Bs_pos HP.out.1.sm.left.left HP.out.2.1 HF2.out.2 HP.out.2.2.2.2.1 HP.out.2.2.2.2.2.1 HN.out.2 HN.out.1 HI.out.2.2.2.1 (HI.out.2.2.1 p (by omega)) (by rw [HP.out.1.ql]; exact hpm)
        case measure => simp [intOf]; omega
    · obtain ⟨hk, ds, _, hval, hlow⟩ := HI.out
      obtain rfl : k = 0 := by omega
      rw [Nat.pow_zero, Nat.one_mul] at hlow
      have hDlt : nv Bs D < Bs ^ (m + 1) := by have := nv_lt Bs_pos HDs.out; rw [HDl.out] at this; exact this
      have hrem : nv Bs (L.take (m + 1)) = nv Bs L := by
        have h1 := nv_split Bs L (m + 1) (by rw [ds.len]; omega)
        rcases Nat.eq_zero_or_pos (nv Bs (L.drop (m + 1))) with h2 | h2
        · rw [h2, Nat.mul_zero, Nat.add_zero] at h1; exact h1.symm
        · exfalso
          have h3 : Bs ^ (m + 1) * 1 ≤ Bs ^ (m + 1) * nv Bs (L.drop (m + 1)) := Nat.mul_le_mul_left _ h2
          rw [Nat.mul_one] at h3
          have h4 : Bs ^ (m + 1) ≤ nv Bs L := by rw [h1]; exact Nat.le_trans h3 (Nat.le_add_left _ _)
          exact absurd (Nat.lt_of_le_of_lt h4 (Nat.lt_trans hlow hDlt)) (Nat.lt_irrefl _)
      rw [HDv.out] at hval hlow
      have HQ : Hid (nv Bs Q = nv Bs X / nv Bs D0 ∧ nv Bs (L.take (m + 1)) / 2 ^ s = nv Bs X % nv Bs D0) := by
        show _ ∧ _
        rw [hrem]
        exact quot_end (Nat.pow_pos (by decide)) hval hlow
      have HDSn : Hid (DS w w0 L Q D m mq) := ds
      have CQ : Hid (∀ r, Calls Try.prog 49 #[.slice (some ⟨w.heap.size + 2, 0, none⟩) mq mq] (w0.drewN r) fun e w' => e = .returned (.slice (some ⟨w.heap.size + 2, 0, none⟩) (tl Q) mq) ∧ w' = w0.drewN r) := fun r =>
        proper_any (some ⟨w.heap.size + 2, 0, none⟩) mq mq Q (w0.drewN r) (ds.qb.rn.drewN r) ds.ql.symm (Nat.le_refl _) (by omega)
      have HNL : Hid (Nm w0 (.slice (some ⟨w.heap.size, 0, none⟩) (m + 1) (X.length + 1)) (L.take (m + 1))) := by
        have el : (L.take (m + 1)).length = m + 1 := by rw [List.length_take, ds.len]; omega
        refine ⟨_, X.length + 1, by rw [el], by rw [el]; have := HlX.out; omega, ds.bl.rn.take _, ds.sm.take _⟩
      have HOQ : Hid (Ow w0 w.heap.size (.slice (some ⟨w.heap.size + 2, 0, none⟩) (tl Q) mq) (dg Bs (nv Bs Q))) := by
        have := Bl.proper (w := w0) (base := w.heap.size) (g := w.heap.size + 2) (L := Q) ds.qb ds.qs (by omega) (by rw [ds.ql]; omega)
        rw [ds.ql] at this
        exact this
      have hmX : m + 1 ≤ X.length + 1 := by have := HlX.out; omega
      clear hk ds hval hlow hDlt hrem
      go_wp2
      refine wp_region_tail 7 (by kernel_rfl) (by kernel_rfl) ?_
      simp only [List.take_succ_cons, List.take_zero, List.drop_succ_cons, List.drop_zero]
      repeat (first | go_big_quiet_skip | (go_big_quiet_want; go_big_quiet_op; first | go_big_quiet_on | (apply Exists.intro; refine ⟨CQ.out _, ?_⟩; go_big_quiet_on)))
      refine wpQuiet_nil ?_
      rw [World.drewN_drewN]
      generalize q + 1 = q
      go_wp2_with fail
      refine (shr_pos s (by omega) _ (L.take (m + 1)) (w0.drewN q) (HNL.out.drewN q) (by rw [List.length_take]; omega)).mono ?_
      rintro e w1 ⟨r, rfl, hr, hbr⟩
      have HR : Hid (Ow w1 w0.heap.size r (dg Bs (nv Bs X % nv Bs D0)) ∧ Ow w1 w.heap.size (.slice (some ⟨w.heap.size + 2, 0, none⟩) (tl Q) mq) (dg Bs (nv Bs X / nv Bs D0)) ∧ Below w.heap.size w w1) := by
        rw [HQ.out.2] at hr
        have h8 : Below w0.heap.size w0 w1 := ⟨hbr.os, hbr.tape, hbr.output, hbr.size, hbr.block⟩
        have h9 := HOQ.out.below h8 (Nat.le_refl _)
        rw [HQ.out.1] at h9
        exact ⟨hr, h9, HDSn.out.bel.trans (h8.mono HDSn.out.bel.size)⟩
      clear hr hbr
      go_wp2
      go_ret2
      exact ⟨_, r, w0.heap.size, rfl, HR.out.2.1, HR.out.1, HDSn.out.bel.size, fun g hg => by cases hg; have := HDSn.out.size; show w.heap.size + 2 < _; omega, HR.out.2.2⟩

end Go.Proofs.Ytecapoknnnoheaa
