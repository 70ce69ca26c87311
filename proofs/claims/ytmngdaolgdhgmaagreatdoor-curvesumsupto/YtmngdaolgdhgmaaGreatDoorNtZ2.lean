import Derived.Test.YtmngdaolgdhgmaaGreatDoorNtZ1
namespace Go.Proofs.YtmngdaolgdhgmaaGreatDoor
open Go.RowKit

theorem take_step (B p A c X Y x y v c' d : Nat) (h : A + d * Y = X + p * c) (hs : v + c + d * y = x + B * c') : (A + p * v) + d * (Y + p * y) = (X + p * x) + (p * B) * c' := by
  have h1 := congrArg (p * ·) hs
  have h2 : d * (p * y) = p * (d * y) := Nat.mul_left_comm _ _ _
  simp only [Nat.mul_add, ← Nat.mul_assoc] at h1 h2 ⊢
  omega

theorem mul_lt_sq {a b : Nat} (ha : a ≤ 4294967295) (hb : b ≤ 4294967295) : a * b ≤ 18446744065119617025 := Nat.mul_le_mul ha hb

/-- What one limb's difference is: the limb, and what is borrowed. -/
theorem take_limb (x cr : Nat) (hx : x < 4294967296) (hcr : cr ≤ 18446744069414584320) : ∃ r : Nat, IntKind.u64.wrap ((x : Int) - ((cr % 4294967296 : Nat) : Int)) = (r : Int) ∧ r < 18446744073709551616 ∧ r % 4294967296 + cr = x + 4294967296 * (cr / 4294967296 + r / 9223372036854775808) ∧ cr / 4294967296 + r / 9223372036854775808 ≤ 4294967295 := by
  rw [IntKind.wrap_u64]
  by_cases h : x < cr % 4294967296
  · exact ⟨18446744073709551616 + x - cr % 4294967296, by omega, by omega, by omega, by omega⟩
  · exact ⟨x - cr % 4294967296, by omega, by omega, by omega, by omega⟩

set_option maxHeartbeats 1000000 in
theorem takeFrom_any (g off n c m bc d : Nat) (ao : Option Addr) (lo W hi ys : List Nat) (w : World) (hW : Bl 51 w g ((lo ++ W ++ hi).map U)) (hoff : off = lo.length) (hn : n = W.length) (hm : m = ys.length) (hy : Rn w ao ys) (ho : Off ao ys g) (sW : Sm Bs W) (sy : Sm Bs ys) (hl : n ≤ 1000000000) (hd : d ≤ 4294967295) :
    Calls Tryz.prog 132 #[.slice (some ⟨g, off, none⟩) n c, .slice ao m bc, .int .u64 (d : Int)] w fun e w' => ∃ (W' : List Nat) (cy : Nat), e = .returned (.bool (decide (cy ≠ 0))) ∧ Bl 51 w' g ((lo ++ W' ++ hi).map U) ∧ W'.length = n ∧ Sm Bs W' ∧ nv Bs W' + d * nv Bs (ys.take n) = nv Bs W + Bs ^ n * cy ∧ But w w' g ∧ w'.heap.size = w.heap.size := by
  have HW : Hid (Bl 51 w g ((lo ++ W ++ hi).map U)) := hW
  have Hoff : Hid (off = lo.length) := hoff
  have Hn : Hid (n = W.length) := hn
  have Hm : Hid (m = ys.length) := hm
  have Hy : Hid (Rn w ao ys) := hy
  have Ho : Hid (Off ao ys g) := ho
  have HsW : Hid (Sm Bs W) := sW
  have Hsy : Hid (Sm Bs ys) := sy
  clear hW hoff hn hm hy ho sW sy
  go_enter Tryz.func132, Tryz.ntmps132
  go_wp2
  go_loopw [7, 8, 9, 10, 13] (fun s7 _ _ _ s13 wr => ∃ (k cy : Nat) (ds : List Nat), s7 = .int .u64 (cy : Int) ∧ s13 = .int .i64 (k : Int) ∧ k ≤ n ∧ cy ≤ 4294967295 ∧ Hid (ds.length = k ∧ Sm Bs ds ∧ Bl 51 wr g ((lo ++ ds ++ W.drop k ++ hi).map U) ∧ nv Bs ds + d * nv Bs (ys.take k) = nv Bs (W.take k) + Bs ^ k * cy ∧ But w wr g ∧ wr.heap.size = w.heap.size)) (fun _ _ _ _ s _ => n - (intOf s).toNat)
  case atStart => exact ⟨0, 0, [], rfl, rfl, Nat.zero_le _, by omega, (rfl : ([] : List Nat).length = 0), Sm.nil _, by simpa using HW.out, by simp [nv], But.refl _ _, rfl⟩
  case round =>
    obtain ⟨k, cy, ds, rfl, rfl, hk, hcy, HI⟩ := hrel
    by_cases hlt : k < n
    · have hkW : k < W.length := by have := Hn.out; omega
      obtain ⟨x, Hx⟩ : ∃ x, Hid (W[k] = x) := ⟨W[k], (rfl : W[k] = W[k])⟩
      obtain ⟨y, Hyk⟩ : ∃ y, Hid (ys.getD k 0 = y) := ⟨_, rfl⟩
      have hx : x < 4294967296 := by rw [← Hx.out, ← Bs_eq]; exact HsW.out.get k hkW
      have hy : y < 4294967296 := by rw [← Hyk.out, ← Bs_eq]; exact Hsy.out.getD Bs_pos k
      have HB : Hid (Bl 51 wr g ((lo ++ ds ++ (x :: W.drop (k + 1)) ++ hi).map U)) := by
        have := HI.out.2.2.1
        rw [List.drop_eq_getElem_cons hkW, Hx.out] at this
        exact this
      have gc := mid_cell HB.out (o := off + k) (by rw [Hoff.out, HI.out.1])
      have gf := HB.out.frozen (off + k)
      have C := at_nat ao m bc k ys wr (Hy.out.but HI.out.2.2.2.2.1 Ho.out) Hm.out
      rw [Hyk.out] at C
      go_wp2_with fail
      refine C.mono ?_
      clear C
      rintro e w1 ⟨rfl, rfl⟩
      obtain ⟨z, Hz⟩ : ∃ z, Hid (d * y = z) := ⟨_, rfl⟩
      have hz : z ≤ 18446744065119617025 := by rw [← Hz.out]; exact mul_lt_sq hd (by omega)
      obtain ⟨s, Hs⟩ : ∃ s, Hid (cy + z = s) := ⟨_, rfl⟩
      have hs : s ≤ 18446744069414584320 := by rw [← Hs.out]; omega
      obtain ⟨r, er, hr, hr2, hr3⟩ := take_limb x s hx hs
      have Hr2 : Hid (r % 4294967296 + s = x + 4294967296 * (s / 4294967296 + r / 9223372036854775808)) := hr2
      clear hr2
      have e0 : (d : Int) * (y : Int) = (z : Int) := by rw [← Hz.out]; simp
      have e00 : IntKind.u64.wrap (z : Int) = (z : Int) := by rw [IntKind.wrap_u64]; omega
      have e1 : (cy : Int) + (z : Int) = (s : Int) := by have := Hs.out; omega
      have e11 : IntKind.u64.wrap (s : Int) = (s : Int) := by rw [IntKind.wrap_u64]; omega
      have e2 : Int.tmod (s : Int) 4294967296 = ((s % 4294967296 : Nat) : Int) := by rw [Int.tmod_eq_emod_of_nonneg (by omega)]; omega
      have e3 : IntKind.u32.wrap (r : Int) = ((r % 4294967296 : Nat) : Int) := by rw [IntKind.wrap_u32]; omega
      go_wp2
      go_roundw
      case rel =>
        have e4 : (s : Int) % 4294967296 = ((s % 4294967296 : Nat) : Int) := by omega
        rw [e4, er]
        have e5 : (r : Int) % 4294967296 = ((r % 4294967296 : Nat) : Int) := by omega
        have e6 : IntKind.u64.wrap ((s : Int) / 4294967296 + (r : Int) / 9223372036854775808) = ((s / 4294967296 + r / 9223372036854775808 : Nat) : Int) := by rw [IntKind.wrap_u64]; omega
        rw [e5, e6]
        refine ⟨k + 1, s / 4294967296 + r / 9223372036854775808, ds ++ [r % 4294967296], rfl, by go_num, by omega, hr3, ?_, HI.out.2.1.snoc (by rw [Bs_eq]; omega), mid_bl HB.out (by rw [Hoff.out, HI.out.1]) _, ?_, HI.out.2.2.2.2.1.set _ _, ?_⟩
        · rw [List.length_append, HI.out.1]; rfl
        · rw [nv_snoc, nv_take_succ, nv_take_succ, HI.out.1, getD_eq W k hkW, Hx.out, Hyk.out, Nat.pow_succ]
          refine take_step _ _ _ _ _ _ _ _ _ _ _ HI.out.2.2.2.1 ?_
          have h1 := Hr2.out
          have h2 := Hs.out
          rw [Bs_eq, Hz.out, Nat.add_assoc, h2]
          exact h1
        · rw [World.size_setCell]; exact HI.out.2.2.2.2.2
      case measure => simp [intOf]; omega
    · obtain rfl : k = n := by omega
      go_wp2
      go_ret
      refine ⟨ds, cy, ?_, ?_, HI.out.1, HI.out.2.1, ?_, HI.out.2.2.2.2⟩
      · congr 2
        by_cases h : cy = 0
        · subst h; rfl
        · simp [h]
      · have := HI.out.2.2.1
        rw [List.drop_of_length_le (by have := Hn.out; omega), List.append_nil] at this
        exact this
      · have := HI.out.2.2.2.1
        rw [List.take_of_length_le (l := W) (by have := Hn.out; omega)] at this
        exact this

end Go.Proofs.YtmngdaolgdhgmaaGreatDoor

namespace Go.Proofs.YtmngdaolgdhgmaaGreatDoor
open Go.RowKit

/-- How two whole numbers stand to each other. -/
def cmp3 (a b : Int) : Int := if a < b then -1 else if b < a then 1 else 0

set_option maxHeartbeats 400000 in
theorem isNaN_any (a : Int) (w : World) : Calls Tryz.prog 124 #[.int .i64 a] w fun e w' => e = .returned (.bool false) ∧ w' = w := by
  go_enter Tryz.func124, Tryz.ntmps124
  go_wp2
  go_ret
  exact ⟨by simp, rfl⟩

set_option maxHeartbeats 400000 in
theorem cmpInt_any (a b : Int) (w : World) : Calls Tryz.prog 100 #[.int .i64 a, .int .i64 b] w fun e w' => e = .returned (.int .i64 (cmp3 a b)) ∧ w' = w := by
  have h : (a < b ∧ Hid (cmp3 a b = -1)) ∨ (¬ a < b ∧ b < a ∧ Hid (cmp3 a b = 1)) ∨ (¬ a < b ∧ ¬ b < a ∧ Hid (cmp3 a b = 0)) := by
    unfold cmp3
    by_cases h1 : a < b
    · exact .inl ⟨h1, by show _ = _; rw [if_pos h1]⟩
    · by_cases h2 : b < a
      · exact .inr (.inl ⟨h1, h2, by show _ = _; rw [if_neg h1, if_pos h2]⟩)
      · exact .inr (.inr ⟨h1, h2, by show _ = _; rw [if_neg h1, if_neg h2]⟩)
  rcases h with ⟨h1, H⟩ | ⟨h1, h2, H⟩ | ⟨h1, h2, H⟩
  all_goals
    go_enter Tryz.func100, Tryz.ntmps100
    go_wp2_with fail
    refine (isNaN_any a w).mono ?_
    rintro e w' ⟨rfl, rfl⟩
    go_wp2_with fail
    refine (isNaN_any b _).mono ?_
    rintro e w' ⟨rfl, rfl⟩
    go_wp2
    go_ret
    rw [H.out]
    exact ⟨rfl, rfl⟩

set_option maxHeartbeats 400000 in
theorem isNaNU_any (a : Int) (w : World) : Calls Tryz.prog 125 #[.int .u32 a] w fun e w' => e = .returned (.bool false) ∧ w' = w := by
  go_enter Tryz.func125, Tryz.ntmps125
  go_wp2
  go_ret
  exact ⟨by simp, rfl⟩

set_option maxHeartbeats 400000 in
theorem cmpU_any (a b : Int) (w : World) : Calls Tryz.prog 101 #[.int .u32 a, .int .u32 b] w fun e w' => e = .returned (.int .i64 (cmp3 a b)) ∧ w' = w := by
  have h : (a < b ∧ Hid (cmp3 a b = -1)) ∨ (¬ a < b ∧ b < a ∧ Hid (cmp3 a b = 1)) ∨ (¬ a < b ∧ ¬ b < a ∧ Hid (cmp3 a b = 0)) := by
    unfold cmp3
    by_cases h1 : a < b
    · exact .inl ⟨h1, by show _ = _; rw [if_pos h1]⟩
    · by_cases h2 : b < a
      · exact .inr (.inl ⟨h1, h2, by show _ = _; rw [if_neg h1, if_pos h2]⟩)
      · exact .inr (.inr ⟨h1, h2, by show _ = _; rw [if_neg h1, if_neg h2]⟩)
  rcases h with ⟨h1, H⟩ | ⟨h1, h2, H⟩ | ⟨h1, h2, H⟩
  all_goals
    go_enter Tryz.func101, Tryz.ntmps101
    go_wp2_with fail
    refine (isNaNU_any a w).mono ?_
    rintro e w' ⟨rfl, rfl⟩
    go_wp2_with fail
    refine (isNaNU_any b _).mono ?_
    rintro e w' ⟨rfl, rfl⟩
    go_wp2
    go_ret
    rw [H.out]
    exact ⟨rfl, rfl⟩

theorem cmp3_lt {a b : Int} (h : a < b) : cmp3 a b = -1 := if_pos h
theorem cmp3_gt {a b : Int} (h : b < a) : cmp3 a b = 1 := by unfold cmp3; rw [if_neg (by omega), if_pos h]
theorem cmp3_eq {a b : Int} (h : a = b) : cmp3 a b = 0 := by unfold cmp3; rw [if_neg (by omega), if_neg (by omega)]

theorem limb_lt {B : Nat} (hB : 0 < B) {X Y : List Nat} (hX : Sm B X) (k : Nat) (h1 : k < X.length) (h2 : k < Y.length) (hd : X.drop (k + 1) = Y.drop (k + 1)) (hl : X[k] < Y[k]) : nv B X < nv B Y := by
  have e1 := nv_split B X k (by omega)
  have e2 := nv_split B Y k (by omega)
  rw [List.drop_eq_getElem_cons h1, nv, hd] at e1
  rw [List.drop_eq_getElem_cons h2, nv] at e2
  have h3 := nv_lt hB (hX.take k)
  rw [List.length_take, Nat.min_eq_left (by omega)] at h3
  have h4 : B ^ k * (X[k] + B * nv B (Y.drop (k + 1)) + 1) ≤ B ^ k * (Y[k] + B * nv B (Y.drop (k + 1))) := Nat.mul_le_mul_left _ (by omega)
  rw [Nat.mul_add, Nat.mul_one] at h4
  omega

set_option maxHeartbeats 1000000 in
/-- The limbs are compared from the top on. -/
theorem cmp_any (ax ay : Option Addr) (n m cx cy : Nat) (xs ys : List Nat) (w : World) (hx : Rn w ax xs) (hn : n = xs.length) (hcx : n ≤ cx) (hy : Rn w ay ys) (hm : m = ys.length) (hcy : m ≤ cy) (sx : Sm Bs xs) (sy : Sm Bs ys) (hl : n ≤ 1000000000) (hl2 : m ≤ 1000000000) :
    Calls Tryz.prog 68 #[.slice ax n cx, .slice ay m cy] w fun e w' => e = .returned (.int .i64 (cmp3 (nv Bs xs) (nv Bs ys))) ∧ ∃ q, w' = w.drewN q := by
  have P1 := proper_any ax n cx xs w hx hn hcx hl
  have P2 := proper_any ay m cy ys w hy hm hcy hl2
  obtain ⟨X, HX⟩ : ∃ X, Hid (X = dg Bs (nv Bs xs)) := ⟨_, rfl⟩
  obtain ⟨Y, HY⟩ : ∃ Y, Hid (Y = dg Bs (nv Bs ys)) := ⟨_, rfl⟩
  obtain ⟨V, HV⟩ : ∃ V : Int, Hid (cmp3 (nv Bs xs) (nv Bs ys) = V) := ⟨_, rfl⟩
  have RX : Hid (Rn w ax X) := by have := hx.take (tl xs); rw [trim_dg Bs_two sx, ← HX.out] at this; exact this
  have RY : Hid (Rn w ay Y) := by have := hy.take (tl ys); rw [trim_dg Bs_two sy, ← HY.out] at this; exact this
  have LX : Hid (tl xs = X.length) := by show _ = _; rw [HX.out, dg_length Bs_two sx]
  have LY : Hid (tl ys = Y.length) := by show _ = _; rw [HY.out, dg_length Bs_two sy]
  have HVX : Hid (cmp3 (nv Bs X) (nv Bs Y) = V) := by show _ = _; rw [HX.out, HY.out, dg_nv Bs_two, dg_nv Bs_two]; exact HV.out
  have SX : Hid (Sm Bs X) := by show Sm _ _; rw [HX.out]; exact dg_sm Bs_two _
  have SY : Hid (Sm Bs Y) := by show Sm _ _; rw [HY.out]; exact dg_sm Bs_two _
  have HM1 : Hid (X.length < Y.length → V = -1) := fun h => by rw [← HV.out]; rw [HX.out, HY.out] at h; exact cmp3_lt (by have := dg_mono Bs_two h; omega)
  have HM2 : Hid (Y.length < X.length → V = 1) := fun h => by rw [← HV.out]; rw [HX.out, HY.out] at h; exact cmp3_gt (by have := dg_mono Bs_two h; omega)
  have hX0 : tl xs ≤ 1000000000 := by have := tl_le xs; omega
  have hY0 : tl ys ≤ 1000000000 := by have := tl_le ys; omega
  rw [HV.out]
  rw [LX.out] at P1 hX0
  rw [LY.out] at P2 hY0
  clear hx hn hy hm sx sy HX HY LX LY HV hcx hcy hl hl2
  go_enter Tryz.func68, Tryz.ntmps68
  go_wp2_with fail
  refine P1.mono ?_
  clear P1
  rintro e w ⟨rfl, rfl⟩
  go_wp2_with fail
  refine P2.mono ?_
  clear P2
  rintro e w ⟨rfl, rfl⟩
  go_wp2_with fail
  refine (cmpInt_any _ _ _).mono ?_
  rintro e w ⟨rfl, rfl⟩
  obtain ⟨o, Ho⟩ : ∃ o : Int, Hid (cmp3 (X.length : Int) (Y.length : Int) = o) := ⟨_, rfl⟩
  rw [Ho.out]
  have HO : Hid ((o = 0 ∧ X.length = Y.length) ∨ (o ≠ 0 ∧ o = V)) := by
    rcases Nat.lt_trichotomy X.length Y.length with h | h | h
    · exact .inr ⟨by rw [← Ho.out, cmp3_lt (by omega)]; decide, by rw [← Ho.out, cmp3_lt (by omega), HM1.out h]⟩
    · exact .inl ⟨by rw [← Ho.out, cmp3_eq (by omega)], h⟩
    · exact .inr ⟨by rw [← Ho.out, cmp3_gt (by omega)]; decide, by rw [← Ho.out, cmp3_gt (by omega), HM2.out h]⟩
  clear Ho
  go_wp2
  go_loopw [5, 6] (fun s5 s6 wr => ∃ (k q : Nat) (o : Int), s5 = .int .i64 o ∧ s6 = .int .i64 ((k : Int) - 1) ∧ k ≤ X.length ∧ wr = w.drewN q ∧ Hid ((o = 0 ∧ X.length = Y.length ∧ X.drop k = Y.drop k) ∨ (o ≠ 0 ∧ o = V))) (fun _ s _ => (intOf s + 1).toNat)
  case atStart =>
    refine ⟨X.length, 0, o, rfl, rfl, Nat.le_refl _, rfl, ?_⟩
    rcases HO.out with ⟨h1, h2⟩ | h
    · exact .inl ⟨h1, h2, by rw [List.drop_of_length_le (Nat.le_refl _), List.drop_of_length_le (by omega)]⟩
    · exact .inr h
  case round =>
    clear HO
    obtain ⟨k, q, o, rfl, rfl, hk, rfl, HO⟩ := hrel
    rcases k with _ | k
    · have HV0 : Hid (o = V) := by
        rcases HO.out with ⟨rfl, h1, h2⟩ | h
        · rw [List.drop_zero, List.drop_zero] at h2
          show _ = _
          rw [← HVX.out, cmp3_eq (by rw [h2])]
        · exact h.2
      clear HO
      have e0 : ((0 : Nat) : Int) - 1 = -1 := rfl
      rw [e0]
      go_wp2
      go_ret
      rw [HV0.out]
      exact ⟨rfl, q, rfl⟩
    · have e0 : ((k + 1 : Nat) : Int) - 1 = (k : Int) := by omega
      rw [e0]
      clear e0
      by_cases ho : o = 0
      · subst ho
        have HD : Hid (X.length = Y.length ∧ X.drop (k + 1) = Y.drop (k + 1)) := by
          rcases HO.out with ⟨_, h⟩ | h
          · exact h
          · exact absurd rfl h.1
        clear HO
        have hkX : k < X.length := by omega
        have hkY : k < Y.length := by have := HD.out.1; omega
        obtain ⟨gx, ox, rfl, hgx, cx'⟩ := RX.out.cell (by omega)
        obtain ⟨gy, oy, rfl, hgy, cy'⟩ := RY.out.cell (by omega)
        have c1 := cx' k hkX
        have c2 := cy' k hkY
        rw [getD_eq _ _ hkX] at c1
        rw [getD_eq _ _ hkY] at c2
        obtain ⟨x, Hx⟩ : ∃ x, Hid (X[k] = x) := ⟨X[k], (rfl : X[k] = X[k])⟩
        obtain ⟨y, Hy⟩ : ∃ y, Hid (Y[k] = y) := ⟨Y[k], (rfl : Y[k] = Y[k])⟩
        rw [Hx.out] at c1
        rw [Hy.out] at c2
        clear cx' cy'
        have C := cmpU_any (x : Int) (y : Int)
        have HN : Hid ((cmp3 (x : Int) (y : Int) = 0 ∧ X.length = Y.length ∧ X.drop k = Y.drop k) ∨ (cmp3 (x : Int) (y : Int) ≠ 0 ∧ cmp3 (x : Int) (y : Int) = V)) := by
          rcases Nat.lt_trichotomy x y with h | h | h
          · refine .inr ⟨by rw [cmp3_lt (by omega)]; decide, ?_⟩
            rw [cmp3_lt (by omega), ← HVX.out, cmp3_lt]
            have := limb_lt Bs_pos SX.out k hkX hkY HD.out.2 (by rw [Hx.out, Hy.out]; exact h)
            omega
          · refine .inl ⟨cmp3_eq (by omega), HD.out.1, ?_⟩
            rw [List.drop_eq_getElem_cons hkX, List.drop_eq_getElem_cons hkY, HD.out.2, Hx.out, Hy.out, h]
          · refine .inr ⟨by rw [cmp3_gt (by omega)]; decide, ?_⟩
            rw [cmp3_gt (by omega), ← HVX.out, cmp3_gt]
            have := limb_lt Bs_pos SY.out k hkY hkX HD.out.2.symm (by rw [Hx.out, Hy.out]; exact h)
            omega
        have hkYI : (k : Int) < (Y.length : Int) := by omega
        go_wp2
        go_quiet ((refine (C _).mono ?_; rintro e w' ⟨rfl, rfl⟩; exact ⟨rfl, _, rfl⟩))
        go_wp2
        go_roundw
        case rel => exact ⟨k, _, cmp3 (x : Int) (y : Int), rfl, rfl, by omega, rfl, HN⟩
        case measure => simp [intOf]
      · have HV0 : Hid (o = V) := by
          rcases HO.out with ⟨h, _⟩ | h
          · exact absurd h ho
          · exact h.2
        have hob : (o == 0) = false := by simpa using ho
        clear HO ho
        go_wp2
        go_ret
        rw [HV0.out]
        exact ⟨rfl, q, rfl⟩

end Go.Proofs.YtmngdaolgdhgmaaGreatDoor

namespace Go.Proofs.YtmngdaolgdhgmaaGreatDoor
open Go.RowKit

theorem cmp_nm (v u : Value) (xs ys : List Nat) (w : World) (hv : Nm w v xs) (hu : Nm w u ys) (h1 : xs.length ≤ 1000000000) (h2 : ys.length ≤ 1000000000) :
    Calls Tryz.prog 68 #[v, u] w fun e w' => e = .returned (.int .i64 (cmp3 (nv Bs xs) (nv Bs ys))) ∧ ∃ q, w' = w.drewN q := by
  obtain ⟨ax, cx, rfl, hcx, hx, sx⟩ := hv
  obtain ⟨ay, cy, rfl, hcy, hy, sy⟩ := hu
  exact cmp_any ax ay _ _ cx cy xs ys w hx rfl hcx hy rfl hcy sx sy h1 h2

/-- What proper answers, as a number. -/
theorem proper_nm (v : Value) (xs : List Nat) (w : World) (hv : Nm w v xs) (h1 : xs.length ≤ 1000000000) :
    ∃ (ao : Option Addr) (c : Nat) (X : List Nat), (Calls Tryz.prog 88 #[v] w fun e w' => e = .returned (.slice ao X.length c) ∧ w' = w) ∧ X.length ≤ c ∧ X.length ≤ xs.length ∧ Rn w ao X ∧ Sm Bs X ∧ X = dg Bs (nv Bs xs) := by
  obtain ⟨ax, cx, rfl, hcx, hx, sx⟩ := hv
  have P1 := proper_any ax _ cx xs w hx rfl hcx h1
  have ht := tl_le xs
  refine ⟨ax, cx, dg Bs (nv Bs xs), ?_, ?_, ?_, ?_, dg_sm Bs_two _, rfl⟩
  · rw [dg_length Bs_two sx]; exact P1
  · rw [dg_length Bs_two sx]; omega
  · rw [dg_length Bs_two sx]; omega
  · rw [← trim_dg Bs_two sx]; exact hx.take _

theorem nv_pad {B : Nat} (xs : List Nat) (n : Nat) : nv B (xs ++ List.replicate n 0) = nv B xs := by rw [nv_append, nv_zeros]; omega

theorem sum_fits {B : Nat} (hB : 2 ≤ B) {X Y : List Nat} (n : Nat) (h1 : Sm B X) (h2 : Sm B Y) (l1 : X.length < n) (l2 : Y.length < n) : nv B X + nv B Y < B ^ n := by
  have a1 := nv_lt (by omega) h1
  have a2 := nv_lt (by omega) h2
  have b1 : B ^ X.length ≤ B ^ (n - 1) := Nat.pow_le_pow_right (by omega) (by omega)
  have b2 : B ^ Y.length ≤ B ^ (n - 1) := Nat.pow_le_pow_right (by omega) (by omega)
  have e : B ^ n = B ^ (n - 1) * B := by rw [← Nat.pow_succ]; congr 1; omega
  have : B ^ (n - 1) * 2 ≤ B ^ (n - 1) * B := Nat.mul_le_mul_left _ hB
  omega

theorem sum_exact {B : Nat} (hB : 2 ≤ B) {X Y W : List Nat} (n c : Nat) (h1 : Sm B X) (h2 : Sm B Y) (l1 : X.length < n) (l2 : Y.length < n) (h : nv B W + B ^ n * c = nv B X + nv B Y) : nv B W = nv B X + nv B Y := by
  have h3 := sum_fits hB n h1 h2 l1 l2
  rcases c with _ | c
  · omega
  · rw [Nat.mul_succ] at h; omega

set_option maxHeartbeats 1000000 in
theorem add_nm (v u : Value) (xs ys : List Nat) (w : World) (hv : Nm w v xs) (hu : Nm w u ys) (h1 : xs.length ≤ 100000000) (h2 : ys.length ≤ 100000000) :
    Calls Tryz.prog 84 #[v, u] w fun e w' => ∃ r, e = .returned r ∧ Ow w' w.heap.size r (dg Bs (nv Bs xs + nv Bs ys)) ∧ Below w.heap.size w w' := by
  obtain ⟨ax, cx, X, P1, lx1, lx2, RX, SX, EX⟩ := proper_nm v xs w hv (by omega)
  obtain ⟨ay, cy, Y, P2, ly1, ly2, RY, SY, EY⟩ := proper_nm u ys w hu (by omega)
  have HE : Hid (nv Bs xs + nv Bs ys = nv Bs X + nv Bs Y) := by show _ = _; rw [EX, EY, dg_nv Bs_two, dg_nv Bs_two]
  rw [HE.out]
  have hX : X.length ≤ 100000000 := by omega
  have hY : Y.length ≤ 100000000 := by omega
  rcases Nat.lt_or_ge X.length Y.length with hxy | hxy
  · have C := copied_any ax X.length cx (Y.length + 1) X w RX rfl (by omega) (by omega)
    rw [show ((Y.length + 1 : Nat) : Int) = (Y.length : Int) + 1 from by omega] at C
    have HRY : Hid (Rn w ay Y) := RY
    have HSX : Hid (Sm Bs X) := SX
    have HSY : Hid (Sm Bs Y) := SY
    clear EX EY HE RX RY SX SY hv hu h1 h2 lx1 lx2 ly1 ly2
    go_enter Tryz.func84, Tryz.ntmps84
    go_wp2_with fail
    refine P1.mono ?_
    clear P1
    rintro e w ⟨rfl, rfl⟩
    go_wp2_with fail
    refine P2.mono ?_
    clear P2
    rintro e w ⟨rfl, rfl⟩
    go_wp2_with fail
    refine C.mono ?_
    clear C
    rintro e w1 ⟨rfl, hb, hbel, hsz⟩
    have HB1 : Hid (Below w.heap.size w w1 ∧ w1.heap.size = w.heap.size + 1) := ⟨hbel, hsz⟩
    clear hsz
    have C2 := putTo_any w.heap.size 0 (Y.length + 1) (Y.length + 1) Y.length cy ay [] (X ++ List.replicate (Y.length + 1 - X.length) 0) [] Y w1 (by simpa using hb) rfl (by simp; omega) rfl (HRY.out.below hbel (Nat.le_refl _)) (HRY.out.off _ (Nat.le_refl _)) (HSX.out.append (Sm.zeros _ Bs_pos)) HSY.out (by omega)
    clear hb hbel
    go_wp2_with fail
    refine C2.mono ?_
    clear C2
    rintro e w2 ⟨rfl, W, c, hbW, hlW, sW, heq, hc1, hbut, hs2⟩
    have HF : Hid (nv Bs W = nv Bs X + nv Bs Y) := by
      show _ = _
      rw [nv_pad, List.take_of_length_le (by omega)] at heq
      exact sum_exact Bs_two (Y.length + 1) c HSX.out HSY.out (by omega) (by omega) heq
    have C3 := proper_any (some ⟨w.heap.size, 0, none⟩) (Y.length + 1) (Y.length + 1) W w2 (by have := hbW; simp at this; exact this.rn) hlW.symm (Nat.le_refl _) (by omega)
    have HA : Hid (Ow w2 w.heap.size (.slice (some ⟨w.heap.size, 0, none⟩) (tl W) (Y.length + 1)) (dg Bs (nv Bs W))) := by
      have := Bl.proper (w := w2) (base := w.heap.size) (g := w.heap.size) (L := W) (by simpa using hbW) sW (Nat.le_refl _) (by omega)
      rw [hlW] at this
      exact this
    have HB2 : Hid (Below w.heap.size w w2) := HB1.out.1.trans (hbut.below HB1.out.1.size (Nat.le_refl _))
    clear hbW hlW sW heq hc1 hbut hs2
    go_wp2_with fail
    refine C3.mono ?_
    clear C3
    rintro e w2 ⟨rfl, rfl⟩
    go_wp2
    go_ret
    rw [← HF.out]
    exact ⟨_, rfl, HA.out, HB2.out⟩
  · have C := copied_any ax X.length cx (X.length + 1) X w RX rfl (by omega) (by omega)
    rw [show ((X.length + 1 : Nat) : Int) = (X.length : Int) + 1 from by omega] at C
    have HRY : Hid (Rn w ay Y) := RY
    have HSX : Hid (Sm Bs X) := SX
    have HSY : Hid (Sm Bs Y) := SY
    clear EX EY HE RX RY SX SY hv hu h1 h2 lx1 lx2 ly1 ly2
    go_enter Tryz.func84, Tryz.ntmps84
    go_wp2_with fail
    refine P1.mono ?_
    clear P1
    rintro e w ⟨rfl, rfl⟩
    go_wp2_with fail
    refine P2.mono ?_
    clear P2
    rintro e w ⟨rfl, rfl⟩
    go_wp2_with fail
    refine C.mono ?_
    clear C
    rintro e w1 ⟨rfl, hb, hbel, hsz⟩
    have HB1 : Hid (Below w.heap.size w w1 ∧ w1.heap.size = w.heap.size + 1) := ⟨hbel, hsz⟩
    clear hsz
    have C2 := putTo_any w.heap.size 0 (X.length + 1) (X.length + 1) Y.length cy ay [] (X ++ List.replicate (X.length + 1 - X.length) 0) [] Y w1 (by simpa using hb) rfl (by simp) rfl (HRY.out.below hbel (Nat.le_refl _)) (HRY.out.off _ (Nat.le_refl _)) (HSX.out.append (Sm.zeros _ Bs_pos)) HSY.out (by omega)
    clear hb hbel
    go_wp2_with fail
    refine C2.mono ?_
    clear C2
    rintro e w2 ⟨rfl, W, c, hbW, hlW, sW, heq, hc1, hbut, hs2⟩
    have HF : Hid (nv Bs W = nv Bs X + nv Bs Y) := by
      show _ = _
      rw [nv_pad, List.take_of_length_le (by omega)] at heq
      exact sum_exact Bs_two (X.length + 1) c HSX.out HSY.out (by omega) (by omega) heq
    have C3 := proper_any (some ⟨w.heap.size, 0, none⟩) (X.length + 1) (X.length + 1) W w2 (by have := hbW; simp at this; exact this.rn) hlW.symm (Nat.le_refl _) (by omega)
    have HA : Hid (Ow w2 w.heap.size (.slice (some ⟨w.heap.size, 0, none⟩) (tl W) (X.length + 1)) (dg Bs (nv Bs W))) := by
      have := Bl.proper (w := w2) (base := w.heap.size) (g := w.heap.size) (L := W) (by simpa using hbW) sW (Nat.le_refl _) (by omega)
      rw [hlW] at this
      exact this
    have HB2 : Hid (Below w.heap.size w w2) := HB1.out.1.trans (hbut.below HB1.out.1.size (Nat.le_refl _))
    clear hbW hlW sW heq hc1 hbut hs2
    go_wp2_with fail
    refine C3.mono ?_
    clear C3
    rintro e w2 ⟨rfl, rfl⟩
    go_wp2
    go_ret
    rw [← HF.out]
    exact ⟨_, rfl, HA.out, HB2.out⟩

end Go.Proofs.YtmngdaolgdhgmaaGreatDoor

namespace Go.Proofs.YtmngdaolgdhgmaaGreatDoor
open Go.RowKit

theorem mul_step (B i j T x Yj y N N' p v c c' : Nat) (h : N + B ^ (i + j) * c = T + B ^ i * (x * Yj)) (hset : N' + B ^ (i + j) * p = N + B ^ (i + j) * v) (hs : v + B * c' = c + (x * y + p)) :
    N' + B ^ (i + j + 1) * c' = T + B ^ i * (x * (Yj + B ^ j * y)) := by
  have h1 := congrArg (B ^ (i + j) * ·) hs
  simp only [Nat.mul_add, ← Nat.mul_assoc] at h1
  have h2 : B ^ i * (x * (B ^ j * y)) = B ^ (i + j) * x * y := by
    rw [Nat.pow_add, Nat.mul_left_comm x, ← Nat.mul_assoc, ← Nat.mul_assoc]
  rw [Nat.pow_succ, Nat.mul_add, Nat.mul_add, h2]
  omega
theorem mul_end (B i T x Y N N' c n : Nat) (h : N + B ^ (i + n) * c = T * Y + B ^ i * (x * Y)) (hset : N' + B ^ (i + n) * 0 = N + B ^ (i + n) * c) : N' = (T + B ^ i * x) * Y := by
  rw [Nat.add_mul, Nat.mul_assoc]
  omega

theorem nv_set' (B : Nat) (xs : List Nat) (k v p : Nat) (hk : k < xs.length) (hp : xs.getD k 0 = p) : nv B (xs.set k v) + B ^ k * p = nv B xs + B ^ k * v := by
  rw [← hp, getD_eq _ _ hk]; exact nv_set B xs k v hk
theorem getD_set_ne (xs : List Nat) (k j v : Nat) (h : k ≠ j) : (xs.set k v).getD j 0 = xs.getD j 0 := by
  rw [List.getD_eq_getElem?_getD, List.getElem?_set_ne h, List.getD_eq_getElem?_getD]
theorem Bl.limb {t : TypeId} {w : World} {g : Nat} {P : List Nat} (h : Bl t w g (P.map U)) (k p : Nat) (hk : k < P.length) (hp : P.getD k 0 = p) : w.cell? ⟨g, k, none⟩ = some (.int .u32 (p : Int)) := by
  rw [h.cell k (by simpa using hk), List.getElem_map, ← hp, getD_eq _ _ hk]; rfl
theorem Bl.setU {t : TypeId} {w : World} {g : Nat} {P : List Nat} (h : Bl t w g (P.map U)) (k v : Nat) : Bl t (w.setCell ⟨g, k, none⟩ (.int .u32 (v : Int))) g ((P.set k v).map U) := by
  have := h.set k (U v)
  rw [← List.map_set] at this
  exact this

theorem getD_zeros (n j : Nat) : (List.replicate n 0).getD j 0 = 0 := by
  rw [List.getD_eq_getElem?_getD, List.getElem?_replicate]
  split <;> rfl

/-- What stands while the product is made. -/
structure MS (w wr : World) (g n : Nat) (P : List Nat) : Prop where
  bl : Bl 51 wr g (P.map U)
  len : P.length = n
  sm : Sm Bs P
  bel : Below g w wr

theorem MS.set {w wr : World} {g n : Nat} {P : List Nat} (h : MS w wr g n P) (k v : Nat) (hv : v < 4294967296) : MS w (wr.setCell ⟨g, k, none⟩ (.int .u32 (v : Int))) g n (P.set k v) :=
  ⟨h.bl.setU k v, by rw [List.length_set]; exact h.len, h.sm.set k v hv, h.bel.setCell (Nat.le_refl _) _⟩

set_option maxHeartbeats 2000000 in
theorem mul_nm (v u : Value) (xs ys : List Nat) (w : World) (hv : Nm w v xs) (hu : Nm w u ys) (h1 : xs.length ≤ 100000000) (h2 : ys.length ≤ 100000000) :
    Calls Tryz.prog 81 #[v, u] w fun e w' => ∃ r, e = .returned r ∧ Ow w' w.heap.size r (dg Bs (nv Bs xs * nv Bs ys)) ∧ Below w.heap.size w w' := by
  obtain ⟨ax, cx, X, P1, lx1, lx2, RX, SX, EX⟩ := proper_nm v xs w hv (by omega)
  obtain ⟨ay, cy, Y, P2, ly1, ly2, RY, SY, EY⟩ := proper_nm u ys w hu (by omega)
  have HE : Hid (nv Bs xs * nv Bs ys = nv Bs X * nv Bs Y) := by show _ = _; rw [EX, EY, dg_nv Bs_two, dg_nv Bs_two]
  rw [HE.out]
  have hX : X.length ≤ 100000000 := by omega
  have hY : Y.length ≤ 100000000 := by omega
  obtain ⟨wm, hmk, hb, hbel, hsz⟩ := madeU w (X.length + Y.length) (by omega)
  rw [show ((X.length + Y.length : Nat) : Int) = (X.length : Int) + (Y.length : Int) from by omega] at hmk
  have HMS : Hid (MS w wm w.heap.size (X.length + Y.length) (List.replicate (X.length + Y.length) 0)) := ⟨hb, by simp, Sm.zeros _ Bs_pos, hbel⟩
  have HRX : Hid (Rn w ax X) := RX
  have HRY : Hid (Rn w ay Y) := RY
  have HSX : Hid (Sm Bs X) := SX
  have HSY : Hid (Sm Bs Y) := SY
  clear EX EY HE RX RY SX SY hv hu h1 h2 lx1 lx2 ly1 ly2 hb hbel hsz
  go_enter Tryz.func81, Tryz.ntmps81
  go_wp2_with fail
  refine P1.mono ?_
  clear P1
  rintro e w ⟨rfl, rfl⟩
  go_wp2_with fail
  refine P2.mono ?_
  clear P2
  rintro e w ⟨rfl, rfl⟩
  go_wp2
  clear hmk
  go_loopw [23] (fun s wr => ∃ (i : Nat) (P : List Nat), s = .int .i64 (i : Int) ∧ i ≤ X.length ∧ Hid (MS w wr w.heap.size (X.length + Y.length) P ∧ nv Bs P = nv Bs (X.take i) * nv Bs Y ∧ ∀ j, i + Y.length ≤ j → P.getD j 0 = 0)) (fun s _ => X.length - (intOf s).toNat)
  case atStart => exact ⟨0, _, rfl, Nat.zero_le _, HMS.out, by rw [nv_zeros, List.take_zero, nv]; omega, fun j _ => getD_zeros _ j⟩
  case round =>
    clear HMS
    obtain ⟨i, P, rfl, hi, HI⟩ := hrel
    by_cases hlt : i < X.length
    · obtain ⟨gx, ox, rfl, _, cx'⟩ := (HRX.out.below HI.out.1.bel (Nat.le_refl _)).cell (by omega)
      have c1 := cx' i hlt
      obtain ⟨x, Hx⟩ : ∃ x, Hid (X.getD i 0 = x) := ⟨_, rfl⟩
      rw [Hx.out] at c1
      have hx : x < 4294967296 := by rw [← Hx.out, ← Bs_eq]; exact HSX.out.getD Bs_pos i
      clear cx'
      have hiB : decide ((i : Int) < (X.length : Int)) = true := by simp; omega
      go_wp2
      clear c1 hiB
      go_loopw [8, 30] (fun s8 s30 wq => ∃ (j c : Nat) (P' : List Nat), s8 = .int .u64 (c : Int) ∧ s30 = .int .i64 (j : Int) ∧ j ≤ Y.length ∧ c < 4294967296 ∧ Hid (MS w wq w.heap.size (X.length + Y.length) P' ∧ nv Bs P' + Bs ^ (i + j) * c = nv Bs (X.take i) * nv Bs Y + Bs ^ i * (x * nv Bs (Y.take j)) ∧ ∀ j, i + Y.length ≤ j → P'.getD j 0 = 0)) (fun _ s _ => Y.length - (intOf s).toNat)
      case atStart => exact ⟨0, 0, P, rfl, rfl, Nat.zero_le _, by omega, HI.out.1, by rw [HI.out.2.1, List.take_zero, nv]; rfl, HI.out.2.2⟩
      case round =>
        clear HI
        obtain ⟨j, c, P', rfl, rfl, hj, hc, HI⟩ := hrel
        by_cases hlj : j < Y.length
        · obtain ⟨gy, oy, rfl, _, cy'⟩ := (HRY.out.below HI.out.1.bel (Nat.le_refl _)).cell (by omega)
          have c2 := cy' j hlj
          obtain ⟨y, Hy⟩ : ∃ y, Hid (Y.getD j 0 = y) := ⟨_, rfl⟩
          obtain ⟨p, Hp⟩ : ∃ p, Hid (P'.getD (i + j) 0 = p) := ⟨_, rfl⟩
          rw [Hy.out] at c2
          have hy : y < 4294967296 := by rw [← Hy.out, ← Bs_eq]; exact HSY.out.getD Bs_pos j
          have hp : p < 4294967296 := by rw [← Hp.out, ← Bs_eq]; exact HI.out.1.sm.getD Bs_pos (i + j)
          have c3 := HI.out.1.bl.limb (i + j) p (by rw [HI.out.1.len]; omega) Hp.out
          have gf := HI.out.1.bl.frozen (i + j)
          clear cy'
          obtain ⟨z, Hz⟩ : ∃ z, Hid (x * y = z) := ⟨_, rfl⟩
          have hz : z ≤ 18446744065119617025 := by rw [← Hz.out]; exact mul_lt_sq (by omega) (by omega)
          obtain ⟨s, Hs⟩ : ∃ s, Hid (c + (z + p) = s) := ⟨_, rfl⟩
          have hs : s < 18446744073709551616 := by rw [← Hs.out]; omega
          have e0 : (x : Int) * (y : Int) = (z : Int) := by rw [← Hz.out]; simp
          have e00 : IntKind.u64.wrap (z : Int) = (z : Int) := by rw [IntKind.wrap_u64]; omega
          have e01 : IntKind.u64.wrap ((z : Int) + (p : Int)) = ((z + p : Nat) : Int) := by rw [IntKind.wrap_u64]; have := Hs.out; omega
          have e1 : (c : Int) + ((z : Int) + (p : Int)) = (s : Int) := by have := Hs.out; omega
          have e11 : IntKind.u64.wrap (s : Int) = (s : Int) := by rw [IntKind.wrap_u64]; omega
          have e12 : (c : Int) + ((z + p : Nat) : Int) = (s : Int) := by have := Hs.out; omega
          have e3 : IntKind.u32.wrap (s : Int) = ((s % 4294967296 : Nat) : Int) := by rw [IntKind.wrap_u32]; omega
          go_wp2
          go_roundw
          case rel =>
            have e4 : (s : Int) / 4294967296 = ((s / 4294967296 : Nat) : Int) := by omega
            have e5 : (s : Int) % 4294967296 = ((s % 4294967296 : Nat) : Int) := by omega
            rw [e4, e5]
            refine ⟨j + 1, s / 4294967296, P'.set (i + j) (s % 4294967296), rfl, by go_num, by omega, by omega, HI.out.1.set _ _ (by omega), ?_, fun k hk => ?_⟩
            · rw [nv_take_succ, Hy.out]
              refine mul_step _ _ _ _ _ _ _ _ _ _ _ _ _ HI.out.2.1 (nv_set' Bs P' (i + j) (s % 4294967296) p (by rw [HI.out.1.len]; omega) Hp.out) ?_
              have h1 := Hs.out
              rw [Bs_eq, Hz.out]
              omega
            · rw [getD_set_ne _ _ _ _ (by omega)]
              exact HI.out.2.2 k hk
          case measure => simp [intOf]; omega
        · obtain rfl : j = Y.length := by omega
          have c3 := HI.out.1.bl.limb (i + Y.length) 0 (by rw [HI.out.1.len]; omega) (HI.out.2.2 _ (Nat.le_refl _))
          have gf := HI.out.1.bl.frozen (i + Y.length)
          have e3 : IntKind.u32.wrap (c : Int) = (c : Int) := by rw [IntKind.wrap_u32]; omega
          go_wp2
          go_roundw
          case rel =>
            refine ⟨i + 1, P'.set (i + Y.length) c, by go_num, by omega, HI.out.1.set _ _ hc, ?_, fun k hk => ?_⟩
            · rw [nv_take_succ, Hx.out]
              have h1 := HI.out.2.1
              rw [List.take_of_length_le (l := Y) (Nat.le_refl _)] at h1
              exact mul_end _ _ _ _ _ _ _ _ _ h1 (nv_set' Bs P' (i + Y.length) c 0 (by rw [HI.out.1.len]; omega) (HI.out.2.2 _ (Nat.le_refl _)))
            · rw [getD_set_ne _ _ _ _ (by omega)]
              exact HI.out.2.2 k (by omega)
          case measure => simp [intOf]; omega
    · obtain rfl : i = X.length := by omega
      have C3 := proper_any (some ⟨w.heap.size, 0, none⟩) (X.length + Y.length) (X.length + Y.length) P wr HI.out.1.bl.rn HI.out.1.len.symm (Nat.le_refl _) (by omega)
      have HA : Hid (Ow wr w.heap.size (.slice (some ⟨w.heap.size, 0, none⟩) (tl P) (X.length + Y.length)) (dg Bs (nv Bs X * nv Bs Y))) := by
        have := Bl.proper (w := wr) (base := w.heap.size) (g := w.heap.size) (L := P) HI.out.1.bl HI.out.1.sm (Nat.le_refl _) (by rw [HI.out.1.len]; omega)
        rw [HI.out.1.len, HI.out.2.1, List.take_of_length_le (Nat.le_refl _)] at this
        exact this
      go_wp2_with fail
      refine C3.mono ?_
      clear C3
      rintro e wr ⟨rfl, rfl⟩
      go_wp2
      go_ret
      exact ⟨_, rfl, HA.out, HI.out.1.bel⟩

end Go.Proofs.YtmngdaolgdhgmaaGreatDoor

namespace Go.Proofs.YtmngdaolgdhgmaaGreatDoor
open Go.RowKit

/-- The number of bytes, the most significant first. -/
def bv (l : List UInt8) : Nat := l.foldl (fun a c => a * 256 + c.toNat) 0
theorem MS.drewN {w wr : World} {g n : Nat} {P : List Nat} (h : MS w wr g n P) (q : Nat) : MS w (wr.drewN q) g n P := ⟨h.bl, h.len, h.sm, below_drewN h.bel q⟩

end Go.Proofs.YtmngdaolgdhgmaaGreatDoor
