import Derived.Test.YtmngdaolgdhgmaaGreatDoorRsApp7
import Derived.Test.YtmngdaolgdhgmaaGreatDoorNtZ5
import Derived.Test.YtmngdaolgdhgmaaGreatDoorNtZ8
namespace Go.Proofs.YtmngdaolgdhgmaaGreatDoor
open Go.RowKit

theorem s7_take_lt {B : Nat} (xs ys : List Nat) (k m : Nat) (hm : k ≤ m) (h : nv B (xs.take k) < nv B (ys.take k)) (he : ∀ j, k ≤ j → xs.getD j 0 = ys.getD j 0) : nv B (xs.take m) < nv B (ys.take m) := by
  induction m with
  | zero => rw [show k = 0 by omega] at h; exact h
  | succ m ih =>
    rcases Nat.lt_or_ge m k with h1 | h1
    · rw [show m + 1 = k by omega]; exact h
    · rw [nv_take_succ, nv_take_succ, he m h1]
      have := ih h1
      omega
theorem s7_limb_lt' {B : Nat} (hB : 0 < B) {xs ys : List Nat} (sx : Sm B xs) (k m : Nat) (hm : k < m) (hx : xs.length ≤ m) (hy : ys.length ≤ m) (he : ∀ j, k + 1 ≤ j → xs.getD j 0 = ys.getD j 0) (h : xs.getD k 0 < ys.getD k 0) : nv B xs < nv B ys := by
  have h1 : nv B (xs.take (k + 1)) < nv B (ys.take (k + 1)) := by
    rw [nv_take_succ, nv_take_succ]
    have h2 := nv_lt hB (sx.take k)
    have h3 : B ^ (xs.take k).length ≤ B ^ k := Nat.pow_le_pow_right hB (by rw [List.length_take]; omega)
    have h4 : B ^ k * (xs.getD k 0 + 1) ≤ B ^ k * ys.getD k 0 := Nat.mul_le_mul_left _ h
    rw [Nat.mul_add, Nat.mul_one] at h4
    omega
  have := s7_take_lt xs ys (k + 1) m (by omega) h1 he
  rwa [List.take_of_length_le hx, List.take_of_length_le hy] at this
theorem s7_nv_ext {B : Nat} (xs ys : List Nat) (he : ∀ j, xs.getD j 0 = ys.getD j 0) : nv B xs = nv B ys := by
  have h : ∀ m, nv B (xs.take m) = nv B (ys.take m) := fun m => by
    induction m with
    | zero => simp
    | succ m ih => rw [nv_take_succ, nv_take_succ, ih, he m]
  have := h (xs.length + ys.length)
  rwa [List.take_of_length_le (by omega), List.take_of_length_le (by omega)] at this
theorem s7_nv_low {B : Nat} (_hB : 0 < B) (ys : List Nat) (n : Nat) (h : nv B ys < B ^ n) : nv B (ys.take n) = nv B ys := by
  rcases Nat.lt_or_ge n ys.length with h1 | h1
  · have e := nv_split B ys n (by omega)
    rcases Nat.eq_zero_or_pos (nv B (ys.drop n)) with h2 | h2
    · rw [h2, Nat.mul_zero, Nat.add_zero] at e; exact e.symm
    · exfalso
      have : B ^ n * 1 ≤ B ^ n * nv B (ys.drop n) := Nat.mul_le_mul_left _ h2
      omega
  · rw [List.take_of_length_le h1]

/-- A number that, if it is nil, has no room. -/
def Nz (v : Value) : Prop := ∀ ao n c, v = .slice ao n c → ao = none → c = 0
theorem Ow.nz {w : World} {base : Nat} {v : Value} {xs : List Nat} (h : Ow w base v xs) : Nz v := fun ao n c e e2 => by
  rcases h.2 with ⟨h1, _⟩ | ⟨g, cap, cur, e', _⟩
  · rw [h1] at e; cases e; rfl
  · rw [e'] at e; cases e; cases e2

set_option maxHeartbeats 1000000 in
theorem trim_any (ao : Option Addr) (n c : Nat) (xs : List Nat) (w : World) (hx : Rn w ao xs) (sx : Sm Bs xs) (hn : n = xs.length) (hcap : n ≤ c) (hz0 : ao = none → c = 0) (hl : n ≤ 1000000000) (_hcl : c ≤ 9223372036854775807) :
    Calls Tryz.prog 126 #[.slice ao n c] w fun e w' => ∃ r, e = .returned r ∧ Ow w' w.heap.size r (dg Bs (nv Bs xs)) ∧ Below w.heap.size w w' := by
  have Hx : Hid (Rn w ao xs) := hx
  have Hn : Hid (n = xs.length) := hn
  have Hs : Hid (Sm Bs xs) := sx
  have HN : Hid (Ow w w.heap.size (.slice none 0 0) []) := Ow.nil _ _
  have HZ0 : Hid (ao = none → c = 0) := hz0
  clear hx hn sx hz0
  go_enter Tryz.func126, Tryz.ntmps126
  go_wp2
  go_loop [3] (fun s => ∃ k : Nat, s = .int .i64 (k : Int) ∧ k ≤ n ∧ Hid (∀ j, k ≤ j → xs.getD j 0 = 0)) (fun s => (intOf s).toNat)
  case atStart => exact ⟨n, rfl, Nat.le_refl _, fun j hj => getD_none _ _ (by have := Hn.out; omega)⟩
  case round =>
    obtain ⟨k, rfl, hk, Hz⟩ := hrel
    by_cases hz : 0 < k ∧ xs.getD (k - 1) 0 = 0
    · obtain ⟨k, rfl⟩ : ∃ j, k = j + 1 := ⟨k - 1, by omega⟩
      obtain ⟨g, off, rfl, _, hcell⟩ := Hx.out.cell (by have := Hn.out; omega)
      have gc := hcell k (by have := Hn.out; omega)
      rw [Nat.add_sub_cancel] at hz
      rw [hz.2] at gc
      have Hz1 : Hid (∀ j, k ≤ j → xs.getD j 0 = 0) := fun j hj => by
        rcases Nat.lt_or_ge k j with h | h
        · exact Hz.out j h
        · obtain rfl : j = k := by omega
          exact hz.2
      have e1 : ((k + 1 : Nat) : Int) - 1 = (k : Int) := by omega
      rw [show ((0 : Nat) : Int) = 0 from rfl] at gc
      clear hcell hz
      go_wp2
      go_round
      case rel => exact ⟨k, rfl, by omega, Hz1⟩
      case measure => simp [intOf]
    · have Ht : Hid (tl xs = k) := tl_of xs k (by have := Hn.out; omega) Hz.out (by omega)
      have HX : Hid (xs.take k = dg Bs (nv Bs xs)) := by show _ = _; rw [← Ht.out]; exact trim_dg Bs_two Hs.out
      have HZ : Hid (True → k = 0 ∨ xs.getD (k - 1) 0 ≠ 0) := fun _ => by omega
      have HR : Hid (Rn w ao (xs.take k)) := Hx.out.take k
      have HL : Hid ((xs.take k).length = k) := by show _ = _; rw [List.length_take]; have := Hn.out; omega
      clear hz Hz Ht
      have KEY : k = 0 ∨ ∃ (j g off x : Nat), k = j + 1 ∧ ao = some ⟨g, off, none⟩ ∧ w.cell? ⟨g, off + j, none⟩ = some (.int .u32 (x : Int)) ∧ (((x : Int) == 0) = false) := by
        rcases Nat.eq_zero_or_pos k with h | h
        · exact .inl h
        · obtain ⟨g, off, e, _, hcell⟩ := Hx.out.cell (by have := Hn.out; omega)
          refine .inr ⟨k - 1, g, off, xs.getD (k - 1) 0, by omega, e, hcell (k - 1) (by have := Hn.out; omega), ?_⟩
          have := HZ.out trivial
          simp only [beq_eq_false_iff_ne]
          omega
      clear HZ
      rcases KEY with rfl | ⟨j, g, off, x, rfl, rfl, gc, hxb⟩
      · have hao : ao = none → (0 : Nat) = 0 ∧ c = 0 := fun e => ⟨rfl, HZ0.out e⟩
        have Hao : Hid (ao = none → (0 : Nat) = 0 ∧ c = 0) := hao
        clear hao
        go_wp2_with (at_builtin; refine append_rn rfl (.tmp 19) (.tmp 22) rfl w.heap.size _ [] rfl HN.out ao 0 c (xs.take 0) rfl HL.out Hao.out HR.out (by rw [List.length_nil]; omega) (Nat.le_refl _) ?_; intro v5 w5 h5 h6)
        have HB : Hid (Below w.heap.size w w5) := (Below.refl _ _).grown h6 (Nat.le_refl _) (fun k h => by cases h)
        have HO : Hid (Ow w5 w.heap.size v5 (dg Bs (nv Bs xs))) := by rw [← HX.out]; exact h5
        clear h5 h6
        go_wp2
        go_ret
        exact ⟨v5, rfl, HO.out, HB.out⟩
      · have e1 : ((j + 1 : Nat) : Int) - 1 = (j : Int) := by omega
        go_wp2_with (at_builtin; refine append_rn rfl (.tmp 19) (.tmp 22) rfl w.heap.size _ [] rfl HN.out (some ⟨g, off, none⟩) (j + 1) c (xs.take (j + 1)) rfl HL.out (fun e => by cases e) HR.out (by rw [List.length_nil]; omega) (Nat.le_refl _) ?_; intro v5 w5 h5 h6)
        have HB : Hid (Below w.heap.size w w5) := (Below.refl _ _).grown h6 (Nat.le_refl _) (fun k h => by cases h)
        have HO : Hid (Ow w5 w.heap.size v5 (dg Bs (nv Bs xs))) := by rw [← HX.out]; exact h5
        clear h5 h6 gc hxb
        go_wp2
        go_ret
        exact ⟨v5, rfl, HO.out, HB.out⟩


set_option maxHeartbeats 1000000 in
theorem s7_rcmp_le (ax ay : Option Addr) (cx cy : Nat) (xs ys : List Nat) (w : World) (hx : Rn w ax xs) (hy : Rn w ay ys) (sx : Sm Bs xs) (sy : Sm Bs ys) (h1 : xs.length ≤ 1000000000) (_h2 : ys.length ≤ 1000000000) (hgt : ys.length ≤ xs.length) :
    Calls Tryz.prog 127 #[.slice ax xs.length cx, .slice ay ys.length cy] w fun e w' => e = .returned (.int .i64 (cmp3 (nv Bs xs) (nv Bs ys))) ∧ w' = w := by
  obtain ⟨V, HV⟩ : ∃ V : Int, Hid (cmp3 (nv Bs xs) (nv Bs ys) = V) := ⟨_, rfl⟩
  rw [HV.out]
  have HX : Hid (Rn w ax xs) := hx
  have HY : Hid (Rn w ay ys) := hy
  have HSX : Hid (Sm Bs xs) := sx
  have HSY : Hid (Sm Bs ys) := sy
  have hmI : ¬ ((xs.length : Int) < (ys.length : Int)) := by omega
  clear hx hy sx sy
  go_enter Tryz.func127, Tryz.ntmps127
  go_wp2
  go_loopw [5] (fun s wr => ∃ k : Nat, s = .int .i64 ((k : Int) - 1) ∧ k ≤ xs.length ∧ wr = w ∧ Hid (∀ j, k ≤ j → xs.getD j 0 = ys.getD j 0)) (fun s _ => (intOf s + 1).toNat)
  case atStart => exact ⟨xs.length, rfl, Nat.le_refl _, rfl, fun j hj => by rw [getD_none _ _ (by omega), getD_none _ _ (by omega)]⟩
  case round =>
    obtain ⟨k, rfl, hk, rfl, HI⟩ := hrel
    rcases k with _ | k
    · have HV0 : Hid (V = 0) := by show _ = _; rw [← HV.out, cmp3_eq (by rw [s7_nv_ext xs ys (fun j => HI.out j (Nat.zero_le _))])]
      have e0 : ((0 : Nat) : Int) - 1 = -1 := rfl
      rw [e0]
      go_wp2
      go_ret
      rw [HV0.out]
      exact ⟨rfl, rfl⟩
    · have e0 : ((k + 1 : Nat) : Int) - 1 = (k : Int) := by omega
      rw [e0]
      clear e0
      have C1 := s7_rlimb_any ax xs.length cx k xs wr HX.out HSX.out rfl
      have C2 := s7_rlimb_any ay ys.length cy k ys wr HY.out HSY.out rfl
      obtain ⟨x, Hx⟩ : ∃ x, Hid (xs.getD k 0 = x) := ⟨_, rfl⟩
      obtain ⟨y, Hy⟩ : ∃ y, Hid (ys.getD k 0 = y) := ⟨_, rfl⟩
      rw [Hx.out] at C1
      rw [Hy.out] at C2
      rcases Nat.lt_trichotomy x y with h | h | h
      · have HV0 : Hid (V = -1) := by
          show _ = _
          rw [← HV.out]
          have := s7_limb_lt' Bs_pos HSX.out k xs.length (by omega) (by omega) (by omega) HI.out (by rw [Hx.out, Hy.out]; exact h)
          exact cmp3_lt (by omega)
        have hb1 : decide ((x : Int) < (y : Int)) = true := decide_eq_true (by omega)
        go_wp2_with fail
        refine C1.mono ?_
        rintro e wr ⟨rfl, rfl⟩
        go_wp2_with fail
        refine C2.mono ?_
        rintro e wr ⟨rfl, rfl⟩
        go_wp2
        go_ret
        rw [HV0.out]
        exact ⟨rfl, rfl⟩
      · subst h
        have HI1 : Hid (∀ j, k ≤ j → xs.getD j 0 = ys.getD j 0) := fun j hj => by
          rcases Nat.lt_or_ge k j with h | h
          · exact HI.out j h
          · obtain rfl : j = k := by omega
            rw [Hx.out, Hy.out]
        have hb1 : decide ((x : Int) < (x : Int)) = false := decide_eq_false (by omega)
        have hb2 : decide ((x : Int) > (x : Int)) = false := decide_eq_false (by omega)
        go_wp2_with fail
        refine C1.mono ?_
        rintro e wr ⟨rfl, rfl⟩
        go_wp2_with fail
        refine C2.mono ?_
        rintro e wr ⟨rfl, rfl⟩
        go_wp2_with fail
        refine C1.mono ?_
        rintro e wr ⟨rfl, rfl⟩
        go_wp2_with fail
        refine C2.mono ?_
        rintro e wr ⟨rfl, rfl⟩
        go_wp2
        go_roundw
        case rel => first | exact ⟨k, rfl, by omega, rfl, HI1⟩ | exact ⟨k, rfl, by omega, trivial, HI1⟩
        case measure => simp [intOf]
      · have HV0 : Hid (V = 1) := by
          show _ = _
          rw [← HV.out]
          have := s7_limb_lt' Bs_pos HSY.out k xs.length (by omega) (by omega) (by omega) (fun j hj => (HI.out j hj).symm) (by rw [Hx.out, Hy.out]; exact h)
          exact cmp3_gt (by omega)
        have hb1 : decide ((x : Int) < (y : Int)) = false := decide_eq_false (by omega)
        have hb2 : decide ((x : Int) > (y : Int)) = true := decide_eq_true (by omega)
        go_wp2_with fail
        refine C1.mono ?_
        rintro e wr ⟨rfl, rfl⟩
        go_wp2_with fail
        refine C2.mono ?_
        rintro e wr ⟨rfl, rfl⟩
        go_wp2_with fail
        refine C1.mono ?_
        rintro e wr ⟨rfl, rfl⟩
        go_wp2_with fail
        refine C2.mono ?_
        rintro e wr ⟨rfl, rfl⟩
        go_wp2
        go_ret
        rw [HV0.out]
        exact ⟨rfl, rfl⟩

set_option maxHeartbeats 1000000 in
theorem s7_rcmp_gt (ax ay : Option Addr) (cx cy : Nat) (xs ys : List Nat) (w : World) (hx : Rn w ax xs) (hy : Rn w ay ys) (sx : Sm Bs xs) (sy : Sm Bs ys) (h1 : xs.length ≤ 1000000000) (h2 : ys.length ≤ 1000000000) (hgt : xs.length < ys.length) :
    Calls Tryz.prog 127 #[.slice ax xs.length cx, .slice ay ys.length cy] w fun e w' => e = .returned (.int .i64 (cmp3 (nv Bs xs) (nv Bs ys))) ∧ w' = w := by
  obtain ⟨V, HV⟩ : ∃ V : Int, Hid (cmp3 (nv Bs xs) (nv Bs ys) = V) := ⟨_, rfl⟩
  rw [HV.out]
  have HX : Hid (Rn w ax xs) := hx
  have HY : Hid (Rn w ay ys) := hy
  have HSX : Hid (Sm Bs xs) := sx
  have HSY : Hid (Sm Bs ys) := sy
  have hmI : ((xs.length : Int) < (ys.length : Int)) := by omega
  clear hx hy sx sy
  go_enter Tryz.func127, Tryz.ntmps127
  go_wp2
  go_loopw [5] (fun s wr => ∃ k : Nat, s = .int .i64 ((k : Int) - 1) ∧ k ≤ ys.length ∧ wr = w ∧ Hid (∀ j, k ≤ j → xs.getD j 0 = ys.getD j 0)) (fun s _ => (intOf s + 1).toNat)
  case atStart => exact ⟨ys.length, rfl, Nat.le_refl _, rfl, fun j hj => by rw [getD_none _ _ (by omega), getD_none _ _ (by omega)]⟩
  case round =>
    obtain ⟨k, rfl, hk, rfl, HI⟩ := hrel
    rcases k with _ | k
    · have HV0 : Hid (V = 0) := by show _ = _; rw [← HV.out, cmp3_eq (by rw [s7_nv_ext xs ys (fun j => HI.out j (Nat.zero_le _))])]
      have e0 : ((0 : Nat) : Int) - 1 = -1 := rfl
      rw [e0]
      go_wp2
      go_ret
      rw [HV0.out]
      exact ⟨rfl, rfl⟩
    · have e0 : ((k + 1 : Nat) : Int) - 1 = (k : Int) := by omega
      rw [e0]
      clear e0
      have C1 := s7_rlimb_any ax xs.length cx k xs wr HX.out HSX.out rfl
      have C2 := s7_rlimb_any ay ys.length cy k ys wr HY.out HSY.out rfl
      obtain ⟨x, Hx⟩ : ∃ x, Hid (xs.getD k 0 = x) := ⟨_, rfl⟩
      obtain ⟨y, Hy⟩ : ∃ y, Hid (ys.getD k 0 = y) := ⟨_, rfl⟩
      rw [Hx.out] at C1
      rw [Hy.out] at C2
      rcases Nat.lt_trichotomy x y with h | h | h
      · have HV0 : Hid (V = -1) := by
          show _ = _
          rw [← HV.out]
          have := s7_limb_lt' Bs_pos HSX.out k ys.length (by omega) (by omega) (by omega) HI.out (by rw [Hx.out, Hy.out]; exact h)
          exact cmp3_lt (by omega)
        have hb1 : decide ((x : Int) < (y : Int)) = true := decide_eq_true (by omega)
        go_wp2_with fail
        refine C1.mono ?_
        rintro e wr ⟨rfl, rfl⟩
        go_wp2_with fail
        refine C2.mono ?_
        rintro e wr ⟨rfl, rfl⟩
        go_wp2
        go_ret
        rw [HV0.out]
        exact ⟨rfl, rfl⟩
      · subst h
        have HI1 : Hid (∀ j, k ≤ j → xs.getD j 0 = ys.getD j 0) := fun j hj => by
          rcases Nat.lt_or_ge k j with h | h
          · exact HI.out j h
          · obtain rfl : j = k := by omega
            rw [Hx.out, Hy.out]
        have hb1 : decide ((x : Int) < (x : Int)) = false := decide_eq_false (by omega)
        have hb2 : decide ((x : Int) > (x : Int)) = false := decide_eq_false (by omega)
        go_wp2_with fail
        refine C1.mono ?_
        rintro e wr ⟨rfl, rfl⟩
        go_wp2_with fail
        refine C2.mono ?_
        rintro e wr ⟨rfl, rfl⟩
        go_wp2_with fail
        refine C1.mono ?_
        rintro e wr ⟨rfl, rfl⟩
        go_wp2_with fail
        refine C2.mono ?_
        rintro e wr ⟨rfl, rfl⟩
        go_wp2
        go_roundw
        case rel => first | exact ⟨k, rfl, by omega, rfl, HI1⟩ | exact ⟨k, rfl, by omega, trivial, HI1⟩
        case measure => simp [intOf]
      · have HV0 : Hid (V = 1) := by
          show _ = _
          rw [← HV.out]
          have := s7_limb_lt' Bs_pos HSY.out k ys.length (by omega) (by omega) (by omega) (fun j hj => (HI.out j hj).symm) (by rw [Hx.out, Hy.out]; exact h)
          exact cmp3_gt (by omega)
        have hb1 : decide ((x : Int) < (y : Int)) = false := decide_eq_false (by omega)
        have hb2 : decide ((x : Int) > (y : Int)) = true := decide_eq_true (by omega)
        go_wp2_with fail
        refine C1.mono ?_
        rintro e wr ⟨rfl, rfl⟩
        go_wp2_with fail
        refine C2.mono ?_
        rintro e wr ⟨rfl, rfl⟩
        go_wp2_with fail
        refine C1.mono ?_
        rintro e wr ⟨rfl, rfl⟩
        go_wp2_with fail
        refine C2.mono ?_
        rintro e wr ⟨rfl, rfl⟩
        go_wp2
        go_ret
        rw [HV0.out]
        exact ⟨rfl, rfl⟩

theorem s7_rcmp_nm (v u : Value) (xs ys : List Nat) (w : World) (hv : Nm w v xs) (hu : Nm w u ys) (h1 : xs.length ≤ 1000000000) (h2 : ys.length ≤ 1000000000) :
    Calls Tryz.prog 127 #[v, u] w fun e w' => e = .returned (.int .i64 (cmp3 (nv Bs xs) (nv Bs ys))) ∧ w' = w := by
  obtain ⟨ax, cx, rfl, hcx, hx, sx⟩ := hv
  obtain ⟨ay, cy, rfl, hcy, hy, sy⟩ := hu
  rcases Nat.lt_or_ge xs.length ys.length with h | h
  · exact s7_rcmp_gt ax ay cx cy xs ys w hx hy sx sy h1 h2 h
  · exact s7_rcmp_le ax ay cx cy xs ys w hx hy sx sy h1 h2 h
theorem trim_nm (v : Value) (xs : List Nat) (w : World) (hv : Nm w v xs) (hz : Nz v) (hc : ∀ a n c, v = .slice a n c → c ≤ 9223372036854775807) (h1 : xs.length ≤ 1000000000) :
    Calls Tryz.prog 126 #[v] w fun e w' => ∃ r, e = .returned r ∧ Ow w' w.heap.size r (dg Bs (nv Bs xs)) ∧ Below w.heap.size w w' := by
  obtain ⟨ax, cx, rfl, hcx, hx, sx⟩ := hv
  exact trim_any ax _ cx xs w hx sx rfl hcx (fun e => hz _ _ _ rfl e) h1 (hc _ _ _ rfl)
theorem Ow.cap {w : World} {base : Nat} {v : Value} {xs : List Nat} (h : Ow w base v xs) : ∀ a n c, v = .slice a n c → c ≤ 9223372036854775807 := fun a n c e => by
  rcases h.2 with ⟨h1, _⟩ | ⟨g, cap, cur, e', _, _, _, h4, _⟩
  · rw [h1] at e; cases e; exact Nat.zero_le _
  · rw [e'] at e; cases e; unfold maxLen at h4; omega
/-- What Trim makes of a row of one's own. -/
theorem OB.trim {w wr : World} {v : Value} {ds : List Nat} (h : OB w.heap.size w wr v ds) (sd : Sm Bs ds) (hl : ds.length ≤ 1000000000) :
    Calls Tryz.prog 126 #[v] wr fun e w' => ∃ r, e = .returned r ∧ Ow w' w.heap.size r (dg Bs (nv Bs ds)) ∧ Below w.heap.size w w' := by
  refine (trim_nm v ds wr (h.own.nm sd) h.own.nz h.own.cap hl).mono ?_
  rintro e w' ⟨r, rfl, h1, h2⟩
  exact ⟨r, rfl, h1.base h.bel.size, h.bel.trans (h2.mono h.bel.size)⟩

set_option maxHeartbeats 1000000 in
theorem plus_le (ax ay : Option Addr) (cx cY : Nat) (xs ys : List Nat) (w : World) (hx : Rn w ax xs) (hy : Rn w ay ys) (sx : Sm Bs xs) (sy : Sm Bs ys) (h1 : xs.length ≤ 100000000) (_h2 : ys.length ≤ 100000000) (hgt : ys.length ≤ xs.length) :
    Calls Tryz.prog 104 #[.slice ax xs.length cx, .slice ay ys.length cY] w fun e w' => ∃ r, e = .returned r ∧ Ow w' w.heap.size r (dg Bs (nv Bs xs + nv Bs ys)) ∧ Below w.heap.size w w' := by
  have HX : Hid (Rn w ax xs) := hx
  have HY : Hid (Rn w ay ys) := hy
  have HSX : Hid (Sm Bs xs) := sx
  have HSY : Hid (Sm Bs ys) := sy
  have HN0 : Hid (OB w.heap.size w w (.slice none 0 0) []) := OB.nil w
  have hmI : ¬ ((xs.length : Int) < (ys.length : Int)) := by omega
  clear hx hy sx sy
  go_enter Tryz.func104, Tryz.ntmps104
  go_wp2
  go_loopw [5, 6, 7] (fun s5 s6 s7 wr => ∃ (i cy : Nat) (ds : List Nat), s6 = .int .u64 (cy : Int) ∧ s7 = .int .i64 (i : Int) ∧ i ≤ xs.length + 1 ∧ cy ≤ 1 ∧ Hid (OB w.heap.size w wr s5 ds ∧ ds.length = i ∧ Sm Bs ds ∧ nv Bs ds + Bs ^ i * cy = nv Bs (xs.take i) + nv Bs (ys.take i))) (fun _ _ s _ => xs.length + 1 - (intOf s).toNat)
  case atStart => exact ⟨0, 0, [], rfl, rfl, Nat.zero_le _, by omega, HN0.out, rfl, Sm.nil _, by simp [nv]⟩
  case round =>
    clear HN0
    obtain ⟨i, cy, ds, rfl, rfl, hi, hcy, HI⟩ := hrel
    have HDl : Hid (ds.length ≤ 1000000000) := by show _ ≤ _; rw [HI.out.2.1]; omega
    by_cases hlt : i < xs.length + 1
    · have C1 := s7_rlimb_any ax xs.length cx i xs wr (HX.out.below HI.out.1.bel (Nat.le_refl _)) HSX.out rfl
      have C2 := s7_rlimb_any ay ys.length cY i ys wr (HY.out.below HI.out.1.bel (Nat.le_refl _)) HSY.out rfl
      obtain ⟨x, Hx⟩ : ∃ x, Hid (xs.getD i 0 = x) := ⟨_, rfl⟩
      obtain ⟨y, Hy⟩ : ∃ y, Hid (ys.getD i 0 = y) := ⟨_, rfl⟩
      have hx : x < 4294967296 := by rw [← Hx.out, ← Bs_eq]; exact HSX.out.getD Bs_pos i
      have hy : y < 4294967296 := by rw [← Hy.out, ← Bs_eq]; exact HSY.out.getD Bs_pos i
      rw [Hx.out] at C1
      rw [Hy.out] at C2
      obtain ⟨t, Ht⟩ : ∃ t, Hid (x + y + cy = t) := ⟨_, rfl⟩
      have ht : t < 8589934592 := by rw [← Ht.out]; omega
      have e0 : IntKind.u64.wrap ((x : Int) + (y : Int)) = ((x + y : Nat) : Int) := by rw [IntKind.wrap_u64]; omega
      have e1 : ((x + y : Nat) : Int) + (cy : Int) = (t : Int) := by have := Ht.out; omega
      have e1' : (x : Int) + (y : Int) + (cy : Int) = (t : Int) := by have := Ht.out; omega
      have e11 : IntKind.u64.wrap (t : Int) = (t : Int) := by rw [IntKind.wrap_u64]; omega
      obtain ⟨z, Hz⟩ : ∃ z, Hid (t % 4294967296 = z) := ⟨_, rfl⟩
      obtain ⟨c', Hc'⟩ : ∃ z, Hid (t / 4294967296 = z) := ⟨_, rfl⟩
      have hz : z < 4294967296 := by rw [← Hz.out]; omega
      have hc' : c' ≤ 1 := by rw [← Hc'.out]; omega
      have eand : bits .and .u64 (t : Int) 4294967295 = (z : Int) := by
        have := u64_and_nat t 4294967295 (by omega) (by decide)
        rw [show (4294967295 : Nat) = 2 ^ 32 - 1 from rfl, Nat.and_two_pow_sub_one_eq_mod] at this
        rw [← Hz.out]
        exact this
      have e3' : (t : Int) / 4294967296 = (c' : Int) := by rw [← Hc'.out]; omega
      have e5 : IntKind.u32.wrap (z : Int) = (z : Int) := by rw [IntKind.wrap_u32]; omega
      have HN : Hid ((ds ++ [z]).length = i + 1 ∧ Sm Bs (ds ++ [z]) ∧ nv Bs (ds ++ [z]) + Bs ^ (i + 1) * c' = nv Bs (xs.take (i + 1)) + nv Bs (ys.take (i + 1))) := by
        refine ⟨by rw [List.length_append, HI.out.2.1]; rfl, HI.out.2.2.1.snoc (by rw [Bs_eq]; omega), ?_⟩
        rw [nv_snoc, nv_take_succ, nv_take_succ, HI.out.2.1, Hx.out, Hy.out, Nat.pow_succ]
        exact add_step _ _ _ _ _ _ _ _ _ _ HI.out.2.2.2 (by have := Ht.out; have := Hz.out; have := Hc'.out; rw [Bs_eq]; omega)
      clear Hz Hc'
      have hiI : (i : Int) ≤ (xs.length : Int) := by omega
      go_wp2_with fail
      refine C1.mono ?_
      clear C1
      rintro e wr ⟨rfl, rfl⟩
      go_wp2_with fail
      refine C2.mono ?_
      clear C2
      rintro e wr ⟨rfl, rfl⟩
      go_wp2_with (at_builtin; refine append_one (w := w) rfl (.tmp 27) (.tmp 31) rfl w.heap.size _ ds z rfl HI.out.1 rfl HDl.out (Nat.le_refl _) ?_; intro v5 w5 h5)
      have HO : Hid (OB w.heap.size w w5 v5 (ds ++ [z])) := h5
      clear h5
      go_wp2
      go_roundw
      case rel =>
        exact ⟨i + 1, c', ds ++ [z], rfl, by go_num, by omega, hc', HO.out, HN.out⟩
      case measure => simp [intOf]; omega
    · obtain rfl : i = xs.length + 1 := by omega
      have hiI : ¬ (((xs.length + 1 : Nat) : Int) ≤ (xs.length : Int)) := by omega
      have hval := HI.out.2.2.2
      rw [List.take_of_length_le (by omega), List.take_of_length_le (by omega)] at hval
      have HV : Hid (nv Bs ds = nv Bs xs + nv Bs ys) := sum_exact Bs_two (xs.length + 1) cy HSX.out HSY.out (by omega) (by omega) hval
      clear hval
      have C := HI.out.1.trim HI.out.2.2.1 HDl.out
      rw [HV.out] at C
      go_wp2_with fail
      refine C.mono ?_
      clear C
      rintro e w6 ⟨r, rfl, h6, h7⟩
      have HR : Hid (Ow w6 w.heap.size r (dg Bs (nv Bs xs + nv Bs ys)) ∧ Below w.heap.size w w6) := ⟨h6, h7⟩
      clear h6 h7
      go_wp2
      go_ret
      exact ⟨r, rfl, HR.out⟩

set_option maxHeartbeats 1000000 in
theorem plus_gt (ax ay : Option Addr) (cx cY : Nat) (xs ys : List Nat) (w : World) (hx : Rn w ax xs) (hy : Rn w ay ys) (sx : Sm Bs xs) (sy : Sm Bs ys) (h1 : xs.length ≤ 100000000) (h2 : ys.length ≤ 100000000) (hgt : xs.length < ys.length) :
    Calls Tryz.prog 104 #[.slice ax xs.length cx, .slice ay ys.length cY] w fun e w' => ∃ r, e = .returned r ∧ Ow w' w.heap.size r (dg Bs (nv Bs xs + nv Bs ys)) ∧ Below w.heap.size w w' := by
  have HX : Hid (Rn w ax xs) := hx
  have HY : Hid (Rn w ay ys) := hy
  have HSX : Hid (Sm Bs xs) := sx
  have HSY : Hid (Sm Bs ys) := sy
  have HN0 : Hid (OB w.heap.size w w (.slice none 0 0) []) := OB.nil w
  have hmI : ((xs.length : Int) < (ys.length : Int)) := by omega
  clear hx hy sx sy
  go_enter Tryz.func104, Tryz.ntmps104
  go_wp2
  go_loopw [5, 6, 7] (fun s5 s6 s7 wr => ∃ (i cy : Nat) (ds : List Nat), s6 = .int .u64 (cy : Int) ∧ s7 = .int .i64 (i : Int) ∧ i ≤ ys.length + 1 ∧ cy ≤ 1 ∧ Hid (OB w.heap.size w wr s5 ds ∧ ds.length = i ∧ Sm Bs ds ∧ nv Bs ds + Bs ^ i * cy = nv Bs (xs.take i) + nv Bs (ys.take i))) (fun _ _ s _ => ys.length + 1 - (intOf s).toNat)
  case atStart => exact ⟨0, 0, [], rfl, rfl, Nat.zero_le _, by omega, HN0.out, rfl, Sm.nil _, by simp [nv]⟩
  case round =>
    clear HN0
    obtain ⟨i, cy, ds, rfl, rfl, hi, hcy, HI⟩ := hrel
    have HDl : Hid (ds.length ≤ 1000000000) := by show _ ≤ _; rw [HI.out.2.1]; omega
    by_cases hlt : i < ys.length + 1
    · have C1 := s7_rlimb_any ax xs.length cx i xs wr (HX.out.below HI.out.1.bel (Nat.le_refl _)) HSX.out rfl
      have C2 := s7_rlimb_any ay ys.length cY i ys wr (HY.out.below HI.out.1.bel (Nat.le_refl _)) HSY.out rfl
      obtain ⟨x, Hx⟩ : ∃ x, Hid (xs.getD i 0 = x) := ⟨_, rfl⟩
      obtain ⟨y, Hy⟩ : ∃ y, Hid (ys.getD i 0 = y) := ⟨_, rfl⟩
      have hx : x < 4294967296 := by rw [← Hx.out, ← Bs_eq]; exact HSX.out.getD Bs_pos i
      have hy : y < 4294967296 := by rw [← Hy.out, ← Bs_eq]; exact HSY.out.getD Bs_pos i
      rw [Hx.out] at C1
      rw [Hy.out] at C2
      obtain ⟨t, Ht⟩ : ∃ t, Hid (x + y + cy = t) := ⟨_, rfl⟩
      have ht : t < 8589934592 := by rw [← Ht.out]; omega
      have e0 : IntKind.u64.wrap ((x : Int) + (y : Int)) = ((x + y : Nat) : Int) := by rw [IntKind.wrap_u64]; omega
      have e1 : ((x + y : Nat) : Int) + (cy : Int) = (t : Int) := by have := Ht.out; omega
      have e1' : (x : Int) + (y : Int) + (cy : Int) = (t : Int) := by have := Ht.out; omega
      have e11 : IntKind.u64.wrap (t : Int) = (t : Int) := by rw [IntKind.wrap_u64]; omega
      obtain ⟨z, Hz⟩ : ∃ z, Hid (t % 4294967296 = z) := ⟨_, rfl⟩
      obtain ⟨c', Hc'⟩ : ∃ z, Hid (t / 4294967296 = z) := ⟨_, rfl⟩
      have hz : z < 4294967296 := by rw [← Hz.out]; omega
      have hc' : c' ≤ 1 := by rw [← Hc'.out]; omega
      have eand : bits .and .u64 (t : Int) 4294967295 = (z : Int) := by
        have := u64_and_nat t 4294967295 (by omega) (by decide)
        rw [show (4294967295 : Nat) = 2 ^ 32 - 1 from rfl, Nat.and_two_pow_sub_one_eq_mod] at this
        rw [← Hz.out]
        exact this
      have e3' : (t : Int) / 4294967296 = (c' : Int) := by rw [← Hc'.out]; omega
      have e5 : IntKind.u32.wrap (z : Int) = (z : Int) := by rw [IntKind.wrap_u32]; omega
      have HN : Hid ((ds ++ [z]).length = i + 1 ∧ Sm Bs (ds ++ [z]) ∧ nv Bs (ds ++ [z]) + Bs ^ (i + 1) * c' = nv Bs (xs.take (i + 1)) + nv Bs (ys.take (i + 1))) := by
        refine ⟨by rw [List.length_append, HI.out.2.1]; rfl, HI.out.2.2.1.snoc (by rw [Bs_eq]; omega), ?_⟩
        rw [nv_snoc, nv_take_succ, nv_take_succ, HI.out.2.1, Hx.out, Hy.out, Nat.pow_succ]
        exact add_step _ _ _ _ _ _ _ _ _ _ HI.out.2.2.2 (by have := Ht.out; have := Hz.out; have := Hc'.out; rw [Bs_eq]; omega)
      clear Hz Hc'
      have hiI : (i : Int) ≤ (ys.length : Int) := by omega
      go_wp2_with fail
      refine C1.mono ?_
      clear C1
      rintro e wr ⟨rfl, rfl⟩
      go_wp2_with fail
      refine C2.mono ?_
      clear C2
      rintro e wr ⟨rfl, rfl⟩
      go_wp2_with (at_builtin; refine append_one (w := w) rfl (.tmp 27) (.tmp 31) rfl w.heap.size _ ds z rfl HI.out.1 rfl HDl.out (Nat.le_refl _) ?_; intro v5 w5 h5)
      have HO : Hid (OB w.heap.size w w5 v5 (ds ++ [z])) := h5
      clear h5
      go_wp2
      go_roundw
      case rel =>
        exact ⟨i + 1, c', ds ++ [z], rfl, by go_num, by omega, hc', HO.out, HN.out⟩
      case measure => simp [intOf]; omega
    · obtain rfl : i = ys.length + 1 := by omega
      have hiI : ¬ (((ys.length + 1 : Nat) : Int) ≤ (ys.length : Int)) := by omega
      have hval := HI.out.2.2.2
      rw [List.take_of_length_le (by omega), List.take_of_length_le (by omega)] at hval
      have HV : Hid (nv Bs ds = nv Bs xs + nv Bs ys) := sum_exact Bs_two (ys.length + 1) cy HSX.out HSY.out (by omega) (by omega) hval
      clear hval
      have C := HI.out.1.trim HI.out.2.2.1 HDl.out
      rw [HV.out] at C
      go_wp2_with fail
      refine C.mono ?_
      clear C
      rintro e w6 ⟨r, rfl, h6, h7⟩
      have HR : Hid (Ow w6 w.heap.size r (dg Bs (nv Bs xs + nv Bs ys)) ∧ Below w.heap.size w w6) := ⟨h6, h7⟩
      clear h6 h7
      go_wp2
      go_ret
      exact ⟨r, rfl, HR.out⟩

theorem plus_nm (v u : Value) (xs ys : List Nat) (w : World) (hv : Nm w v xs) (hu : Nm w u ys) (h1 : xs.length ≤ 100000000) (h2 : ys.length ≤ 100000000) :
    Calls Tryz.prog 104 #[v, u] w fun e w' => ∃ r, e = .returned r ∧ Ow w' w.heap.size r (dg Bs (nv Bs xs + nv Bs ys)) ∧ Below w.heap.size w w' := by
  obtain ⟨ax, cx, rfl, hcx, hx, sx⟩ := hv
  obtain ⟨ay, cy, rfl, hcy, hy, sy⟩ := hu
  rcases Nat.lt_or_ge xs.length ys.length with h | h
  · exact plus_gt ax ay cx cy xs ys w hx hy sx sy h1 h2 h
  · exact plus_le ax ay cx cy xs ys w hx hy sx sy h1 h2 h


theorem s7_sub_limb (x y bw : Nat) (hx : x < 4294967296) (hy : y < 4294967296) (hb : bw ≤ 1) : ∃ z b' : Nat, z < 4294967296 ∧ b' ≤ 1 ∧ z + bw + 1 * y = x + 4294967296 * b' ∧ (x < y + bw → b' = 1 ∧ (x : Int) + 4294967296 - ((y + bw : Nat) : Int) = (z : Int)) ∧ (¬ x < y + bw → b' = 0 ∧ (x : Int) - ((y + bw : Nat) : Int) = (z : Int)) := by
  by_cases h : x < y + bw
  · exact ⟨x + 4294967296 - (y + bw), 1, by omega, by omega, by omega, fun _ => ⟨rfl, by omega⟩, fun h2 => absurd h h2⟩
  · exact ⟨x - (y + bw), 0, by omega, by omega, by omega, fun h2 => absurd h2 h, fun _ => ⟨rfl, by omega⟩⟩

set_option maxHeartbeats 1000000 in
theorem minus_any (ax ay : Option Addr) (cx cY : Nat) (xs ys : List Nat) (w : World) (hx : Rn w ax xs) (hy : Rn w ay ys) (sx : Sm Bs xs) (sy : Sm Bs ys) (h1 : xs.length ≤ 100000000) (hg : nv Bs ys ≤ nv Bs xs) :
    Calls Tryz.prog 105 #[.slice ax xs.length cx, .slice ay ys.length cY] w fun e w' => ∃ r, e = .returned r ∧ Ow w' w.heap.size r (dg Bs (nv Bs xs - nv Bs ys)) ∧ Below w.heap.size w w' := by
  have HX : Hid (Rn w ax xs) := hx
  have HY : Hid (Rn w ay ys) := hy
  have HSX : Hid (Sm Bs xs) := sx
  have HSY : Hid (Sm Bs ys) := sy
  have HG : Hid (nv Bs ys ≤ nv Bs xs) := hg
  have HN0 : Hid (OB w.heap.size w w (.slice none 0 0) []) := OB.nil w
  clear hx hy sx sy hg
  go_enter Tryz.func105, Tryz.ntmps105
  go_wp2
  go_loopw [5, 6, 7] (fun s6 s7 s8 wr => ∃ (i bw : Nat) (ds : List Nat), s7 = .int .u64 (bw : Int) ∧ s8 = .int .i64 (i : Int) ∧ i ≤ xs.length ∧ bw ≤ 1 ∧ Hid (OB w.heap.size w wr s6 ds ∧ ds.length = i ∧ Sm Bs ds ∧ nv Bs ds + 1 * nv Bs (ys.take i) = nv Bs (xs.take i) + Bs ^ i * bw)) (fun _ _ s _ => xs.length - (intOf s).toNat)
  case atStart => exact ⟨0, 0, [], rfl, rfl, Nat.zero_le _, by omega, HN0.out, rfl, Sm.nil _, by simp [nv]⟩
  case round =>
    clear HN0
    obtain ⟨i, bw, ds, rfl, rfl, hi, hbw, HI⟩ := hrel
    have HDl : Hid (ds.length ≤ 1000000000) := by show _ ≤ _; rw [HI.out.2.1]; omega
    by_cases hlt : i < xs.length
    · have C1 := s7_rlimb_any ax xs.length cx i xs wr (HX.out.below HI.out.1.bel (Nat.le_refl _)) HSX.out rfl
      have C2 := s7_rlimb_any ay ys.length cY i ys wr (HY.out.below HI.out.1.bel (Nat.le_refl _)) HSY.out rfl
      obtain ⟨x, Hx⟩ : ∃ x, Hid (xs.getD i 0 = x) := ⟨_, rfl⟩
      obtain ⟨y, Hy⟩ : ∃ y, Hid (ys.getD i 0 = y) := ⟨_, rfl⟩
      have hx : x < 4294967296 := by rw [← Hx.out, ← Bs_eq]; exact HSX.out.getD Bs_pos i
      have hy : y < 4294967296 := by rw [← Hy.out, ← Bs_eq]; exact HSY.out.getD Bs_pos i
      rw [Hx.out] at C1
      rw [Hy.out] at C2
      obtain ⟨z, b', hz, hb', hzb, hlo1, hlo2⟩ := s7_sub_limb x y bw hx hy hbw
      have HN : Hid ((ds ++ [z]).length = i + 1 ∧ Sm Bs (ds ++ [z]) ∧ nv Bs (ds ++ [z]) + 1 * nv Bs (ys.take (i + 1)) = nv Bs (xs.take (i + 1)) + Bs ^ (i + 1) * b') := by
        refine ⟨by rw [List.length_append, HI.out.2.1]; rfl, HI.out.2.2.1.snoc (by rw [Bs_eq]; omega), ?_⟩
        rw [nv_snoc, nv_take_succ, nv_take_succ, HI.out.2.1, Hx.out, Hy.out, Nat.pow_succ]
        exact take_step _ _ _ _ _ _ _ _ _ _ _ HI.out.2.2.2 (by rw [Bs_eq]; exact hzb)
      clear hzb
      obtain ⟨yb, Hyb⟩ : ∃ yb, Hid (y + bw = yb) := ⟨_, rfl⟩
      have eyb : (y : Int) + (bw : Int) = (yb : Int) := by rw [← Hyb.out]; omega
      have ebw : IntKind.u64.wrap (yb : Int) = (yb : Int) := by rw [IntKind.wrap_u64, ← Hyb.out]; omega
      have hyb : yb ≤ 4294967296 := by rw [← Hyb.out]; omega
      have e5 : IntKind.u32.wrap (z : Int) = (z : Int) := by rw [IntKind.wrap_u32]; omega
      rw [Hyb.out] at hlo1 hlo2
      by_cases hxy : x < yb
      · skip
        have hc1 : decide ((x : Int) < (yb : Int)) = true := decide_eq_true (by omega)
        have hb1 := (hlo1 (by omega)).1
        have hz1 := (hlo1 (by omega)).2

        have ew1 : IntKind.u64.wrap ((x : Int) + 4294967296) = (x : Int) + 4294967296 := by rw [IntKind.wrap_u64]; omega
        have ew2 : IntKind.u64.wrap (z : Int) = (z : Int) := by rw [IntKind.wrap_u64]; omega
        subst hb1
        clear hlo1 hlo2 hxy
        go_wp2_with fail
        refine C1.mono ?_
        clear C1
        rintro e wr ⟨rfl, rfl⟩
        go_wp2_with fail
        refine C2.mono ?_
        clear C2
        rintro e wr ⟨rfl, rfl⟩
        go_wp2_with (at_builtin; refine append_one (w := w) rfl (.tmp 29) (.tmp 34) rfl w.heap.size _ ds z rfl HI.out.1 rfl HDl.out (Nat.le_refl _) ?_; intro v5 w5 h5)
        have HO : Hid (OB w.heap.size w w5 v5 (ds ++ [z])) := h5
        clear h5
        go_wp2
        go_roundw
        case rel => exact ⟨i + 1, 1, ds ++ [z], rfl, by go_num, by omega, by omega, HO.out, HN.out⟩
        case measure => simp [intOf]; omega
      · skip
        have hc1 : decide ((x : Int) < (yb : Int)) = false := decide_eq_false (by omega)
        have hb1 := (hlo2 (by omega)).1
        have hz1 := (hlo2 (by omega)).2

        have ew2 : IntKind.u64.wrap (z : Int) = (z : Int) := by rw [IntKind.wrap_u64]; omega
        subst hb1
        clear hlo1 hlo2 hxy
        go_wp2_with fail
        refine C1.mono ?_
        clear C1
        rintro e wr ⟨rfl, rfl⟩
        go_wp2_with fail
        refine C2.mono ?_
        clear C2
        rintro e wr ⟨rfl, rfl⟩
        go_wp2_with (at_builtin; refine append_one (w := w) rfl (.tmp 29) (.tmp 34) rfl w.heap.size _ ds z rfl HI.out.1 rfl HDl.out (Nat.le_refl _) ?_; intro v5 w5 h5)
        have HO : Hid (OB w.heap.size w w5 v5 (ds ++ [z])) := h5
        clear h5
        go_wp2
        go_roundw
        case rel => exact ⟨i + 1, 0, ds ++ [z], rfl, by go_num, by omega, by omega, HO.out, HN.out⟩
        case measure => simp [intOf]; omega
    · obtain rfl : i = xs.length := by omega
      have hval := HI.out.2.2.2
      rw [List.take_of_length_le (l := xs) (Nat.le_refl _), s7_nv_low Bs_pos ys xs.length (Nat.lt_of_le_of_lt HG.out (nv_lt Bs_pos HSX.out))] at hval
      have HV : Hid (nv Bs ds = nv Bs xs - nv Bs ys) := diff_exact Bs_pos xs.length bw _ _ HI.out.2.2.1 HI.out.2.1 (nv_lt Bs_pos HSX.out) HG.out hval
      have C := HI.out.1.trim HI.out.2.2.1 (by rw [HI.out.2.1]; omega)
      rw [HV.out] at C
      clear hval
      go_wp2_with fail
      refine C.mono ?_
      clear C
      rintro e w6 ⟨r, rfl, h6, h7⟩
      have HR : Hid (Ow w6 w.heap.size r (dg Bs (nv Bs xs - nv Bs ys)) ∧ Below w.heap.size w w6) := ⟨h6, h7⟩
      clear h6 h7
      go_wp2
      go_ret
      exact ⟨r, rfl, HR.out⟩

theorem minus_nm (v u : Value) (xs ys : List Nat) (w : World) (hv : Nm w v xs) (hu : Nm w u ys) (h1 : xs.length ≤ 100000000) (hg : nv Bs ys ≤ nv Bs xs) :
    Calls Tryz.prog 105 #[v, u] w fun e w' => ∃ r, e = .returned r ∧ Ow w' w.heap.size r (dg Bs (nv Bs xs - nv Bs ys)) ∧ Below w.heap.size w w' := by
  obtain ⟨ax, cx, rfl, hcx, hx, sx⟩ := hv
  obtain ⟨ay, cy, rfl, hcy, hy, sy⟩ := hu
  exact minus_any ax ay cx cy xs ys w hx hy sx sy h1 hg

end Go.Proofs.YtmngdaolgdhgmaaGreatDoor

namespace Go.Proofs.YtmngdaolgdhgmaaGreatDoor
open Go.RowKit

theorem u64_low (t : Nat) (h : t < 18446744073709551616) : bits .and .u64 (t : Int) 4294967295 = ((t % 4294967296 : Nat) : Int) := by
  have := u64_and_nat t 4294967295 (by omega) (by decide)
  rw [show (4294967295 : Nat) = 2 ^ 32 - 1 from rfl, Nat.and_two_pow_sub_one_eq_mod] at this
  exact this

set_option maxHeartbeats 2000000 in
theorem times_any (ax ay : Option Addr) (cx cy : Nat) (X Y : List Nat) (w : World) (hx : Rn w ax X) (hy : Rn w ay Y) (sx : Sm Bs X) (sy : Sm Bs Y) (hX : X.length ≤ 100000000) (hY : Y.length ≤ 100000000) :
    Calls Tryz.prog 106 #[.slice ax X.length cx, .slice ay Y.length cy] w fun e w' => ∃ r, e = .returned r ∧ Ow w' w.heap.size r (dg Bs (nv Bs X * nv Bs Y)) ∧ Below w.heap.size w w' := by
  obtain ⟨wm, hmk, hb, hbel, hsz⟩ := madeU w (X.length + Y.length) (by omega)
  rw [show ((X.length + Y.length : Nat) : Int) = (X.length : Int) + (Y.length : Int) from by omega] at hmk
  have HMS : Hid (MS w wm w.heap.size (X.length + Y.length) (List.replicate (X.length + Y.length) 0)) := ⟨hb, by simp, Sm.zeros _ Bs_pos, hbel⟩
  have HRX : Hid (Rn w ax X) := hx
  have HRY : Hid (Rn w ay Y) := hy
  have HSX : Hid (Sm Bs X) := sx
  have HSY : Hid (Sm Bs Y) := sy
  clear hx hy sx sy hb hbel hsz
  go_enter Tryz.func106, Tryz.ntmps106
  go_wp2
  clear hmk
  go_loopw [6] (fun s wr => ∃ (i : Nat) (P : List Nat), s = .int .i64 (i : Int) ∧ i ≤ X.length ∧ Hid (MS w wr w.heap.size (X.length + Y.length) P ∧ nv Bs P = nv Bs (X.take i) * nv Bs Y ∧ ∀ j, i + Y.length ≤ j → P.getD j 0 = 0)) (fun s _ => X.length - (intOf s).toNat)
  case atStart => exact ⟨0, _, rfl, Nat.zero_le _, HMS.out, by rw [nv_zeros, List.take_zero, nv]; omega, fun j _ => getD_zeros _ j⟩
  case round =>
    clear HMS
    obtain ⟨i, P, rfl, hi, HI⟩ := hrel
    by_cases hlt : i < X.length
    · obtain ⟨gx, ox, rfl, _, cx'⟩ := HRX.out.cell (by omega)
      obtain ⟨x, Hx⟩ : ∃ x, Hid (X.getD i 0 = x) := ⟨_, rfl⟩
      have HcX : Hid (w.cell? ⟨gx, ox + i, none⟩ = some (.int .u32 (x : Int))) := by rw [← Hx.out]; exact cx' i hlt
      have hx : x < 4294967296 := by rw [← Hx.out, ← Bs_eq]; exact HSX.out.getD Bs_pos i
      clear cx'
      have hiB : decide ((i : Int) < (X.length : Int)) = true := by simp; omega
      go_wp2
      go_loopw [7, 8] (fun s8 s30 wq => ∃ (j c : Nat) (P' : List Nat), s8 = .int .u64 (c : Int) ∧ s30 = .int .i64 (j : Int) ∧ j ≤ Y.length ∧ c < 4294967296 ∧ Hid (MS w wq w.heap.size (X.length + Y.length) P' ∧ nv Bs P' + Bs ^ (i + j) * c = nv Bs (X.take i) * nv Bs Y + Bs ^ i * (x * nv Bs (Y.take j)) ∧ ∀ j, i + Y.length ≤ j → P'.getD j 0 = 0)) (fun _ s _ => Y.length - (intOf s).toNat)
      case atStart => exact ⟨0, 0, P, rfl, rfl, Nat.zero_le _, by omega, HI.out.1, by rw [HI.out.2.1, List.take_zero, nv]; rfl, HI.out.2.2⟩
      case round =>
        clear HI
        obtain ⟨j, c, P', rfl, rfl, hj, hc, HI⟩ := hrel
        by_cases hlj : j < Y.length
        · obtain ⟨gy, oy, rfl, _, cy'⟩ := (HRY.out.below HI.out.1.bel (Nat.le_refl _)).cell (by omega)
          have c2 := cy' j hlj
          have c1 := cell_below HcX.out HI.out.1.bel (Nat.le_refl _)
          obtain ⟨y, Hy⟩ : ∃ y, Hid (Y.getD j 0 = y) := ⟨_, rfl⟩
          obtain ⟨p, Hp⟩ : ∃ p, Hid (P'.getD (i + j) 0 = p) := ⟨_, rfl⟩
          rw [Hy.out] at c2
          have hy : y < 4294967296 := by rw [← Hy.out, ← Bs_eq]; exact HSY.out.getD Bs_pos j
          have hp : p < 4294967296 := by rw [← Hp.out, ← Bs_eq]; exact HI.out.1.sm.getD Bs_pos (i + j)
          have c3 := HI.out.1.bl.limb (i + j) p (by rw [HI.out.1.len]; omega) Hp.out
          have gf := HI.out.1.bl.frozen (i + j)
          clear cy'
          obtain ⟨z, Hz⟩ : ∃ z, Hid (x * y = z) := ⟨_, rfl⟩
          have hz : z ≤ 18446744065119617025 := by rw [← Hz.out]; exact mul_lt_sq (by omega) (by omega)
          obtain ⟨s, Hs⟩ : ∃ s, Hid (c + (z + p) = s) := ⟨_, rfl⟩
          have hs : s < 18446744073709551616 := by rw [← Hs.out]; omega
          have e0 : (x : Int) * (y : Int) = (z : Int) := by rw [← Hz.out]; simp
          have e00 : IntKind.u64.wrap (z : Int) = (z : Int) := by rw [IntKind.wrap_u64]; omega
          have e01 : IntKind.u64.wrap ((p : Int) + (z : Int)) = ((p + z : Nat) : Int) := by rw [IntKind.wrap_u64]; have := Hs.out; omega
          have e1 : (p : Int) + (z : Int) + (c : Int) = (s : Int) := by have := Hs.out; omega
          have e11 : IntKind.u64.wrap (s : Int) = (s : Int) := by rw [IntKind.wrap_u64]; omega
          have e12 : ((p + z : Nat) : Int) + (c : Int) = (s : Int) := by have := Hs.out; omega
          have eand := u64_low s hs
          obtain ⟨lo, Hlo⟩ : ∃ lo, Hid (s % 4294967296 = lo) := ⟨_, rfl⟩
          have hlo : lo < 4294967296 := by rw [← Hlo.out]; omega
          rw [Hlo.out] at eand
          have e3 : IntKind.u32.wrap (lo : Int) = (lo : Int) := by rw [IntKind.wrap_u32]; omega
          have hjI : ((j : Int) < (Y.length : Int)) := by omega
          go_wp2
          go_quiet (fail)
          go_wp2
          go_roundw
          case rel =>
            have e4 : (s : Int) / 4294967296 = ((s / 4294967296 : Nat) : Int) := by omega
            rw [e4]
            refine ⟨j + 1, s / 4294967296, P'.set (i + j) lo, rfl, by go_num, by omega, by omega, (HI.out.1.drewN _).set _ _ hlo, ?_, fun k hk => ?_⟩
            · rw [nv_take_succ, Hy.out]
              refine mul_step _ _ _ _ _ _ _ _ _ _ _ _ _ HI.out.2.1 (nv_set' Bs P' (i + j) lo p (by rw [HI.out.1.len]; omega) Hp.out) ?_
              have h1 := Hs.out
              rw [Bs_eq, Hz.out, ← Hlo.out]
              omega
            · rw [getD_set_ne _ _ _ _ (by omega)]
              exact HI.out.2.2 k hk
          case measure => simp [intOf]; omega
        · obtain rfl : j = Y.length := by omega
          have c3 := HI.out.1.bl.limb (i + Y.length) 0 (by rw [HI.out.1.len]; omega) (HI.out.2.2 _ (Nat.le_refl _))
          have gf := HI.out.1.bl.frozen (i + Y.length)
          have e3 : IntKind.u32.wrap (c : Int) = (c : Int) := by rw [IntKind.wrap_u32]; omega
          go_wp2
          go_roundw
          case rel =>
            refine ⟨i + 1, P'.set (i + Y.length) c, by go_num, by omega, HI.out.1.set _ _ hc, ?_, fun k hk => ?_⟩
            · rw [nv_take_succ, Hx.out]
              have h1 := HI.out.2.1
              rw [List.take_of_length_le (l := Y) (Nat.le_refl _)] at h1
              exact mul_end _ _ _ _ _ _ _ _ _ h1 (nv_set' Bs P' (i + Y.length) c 0 (by rw [HI.out.1.len]; omega) (HI.out.2.2 _ (Nat.le_refl _)))
            · rw [getD_set_ne _ _ _ _ (by omega)]
              exact HI.out.2.2 k (by omega)
          case measure => simp [intOf]; omega
    · obtain rfl : i = X.length := by omega
      have HO : Hid (Ow wr w.heap.size (.slice (some ⟨w.heap.size, 0, none⟩) (X.length + Y.length) (X.length + Y.length)) P) := by
        have := Bl.ow (w := wr) (base := w.heap.size) (g := w.heap.size) (L := P) HI.out.1.bl P.length (Nat.le_refl _) (Nat.le_refl _) (by rw [HI.out.1.len]; omega)
        rw [List.take_of_length_le (Nat.le_refl _), HI.out.1.len] at this
        exact this
      have HOB : Hid (OB w.heap.size w wr (.slice (some ⟨w.heap.size, 0, none⟩) (X.length + Y.length) (X.length + Y.length)) P) := ⟨HO.out, HI.out.1.bel⟩
      have C := HOB.out.trim HI.out.1.sm (by rw [HI.out.1.len]; omega)
      rw [HI.out.2.1, List.take_of_length_le (Nat.le_refl _)] at C
      go_wp2_with fail
      refine C.mono ?_
      clear C
      rintro e w6 ⟨r, rfl, h6, h7⟩
      have HR : Hid (Ow w6 w.heap.size r (dg Bs (nv Bs X * nv Bs Y)) ∧ Below w.heap.size w w6) := ⟨h6, h7⟩
      clear h6 h7
      go_wp2
      go_ret
      exact ⟨_, rfl, HR.out⟩
theorem times_nm (v u : Value) (xs ys : List Nat) (w : World) (hv : Nm w v xs) (hu : Nm w u ys) (h1 : xs.length ≤ 100000000) (h2 : ys.length ≤ 100000000) :
    Calls Tryz.prog 106 #[v, u] w fun e w' => ∃ r, e = .returned r ∧ Ow w' w.heap.size r (dg Bs (nv Bs xs * nv Bs ys)) ∧ Below w.heap.size w w' := by
  obtain ⟨ax, cx, rfl, hcx, hx, sx⟩ := hv
  obtain ⟨ay, cy, rfl, hcy, hy, sy⟩ := hu
  exact times_any ax ay cx cy xs ys w hx hy sx sy h1 h2

end Go.Proofs.YtmngdaolgdhgmaaGreatDoor

namespace Go.Proofs.YtmngdaolgdhgmaaGreatDoor
open Go.RowKit

set_option maxHeartbeats 1000000 in
theorem s7_rbit_any (k : Nat) (ax : Option Addr) (cx : Nat) (xs : List Nat) (w : World) (hx : Rn w ax xs) (sx : Sm Bs xs) (hk : k ≤ 9223372036854775807) :
    Calls Tryz.prog 141 #[.slice ax xs.length cx, .int .i64 (k : Int)] w fun e w' => e = .returned (.bool (decide (nv Bs xs / 2 ^ k % 2 = 1))) ∧ w' = w := by
  obtain ⟨q, hq⟩ : ∃ q, k / 32 = q := ⟨_, rfl⟩
  obtain ⟨s, hs⟩ : ∃ s, k % 32 = s := ⟨_, rfl⟩
  have hs32 : s < 32 := by omega
  have eq1 : Int.tdiv (k : Int) 32 = (q : Int) := by rw [Int.tdiv_eq_ediv_of_nonneg (by omega)]; omega
  have eq2 : (k : Int) / 32 = (q : Int) := by omega
  have es1 : Int.tmod (k : Int) 32 = (s : Int) := by rw [Int.tmod_eq_emod_of_nonneg (by omega)]; omega
  have es2 : (k : Int) % 32 = (s : Int) := by omega
  have hq64 : q ≤ 288230376151711744 := by omega
  have eqw : wrap64 (q : Int) = (q : Int) := by unfold wrap64; omega
  have HV : Hid (nv Bs xs / 2 ^ k % 2 = xs.getD q 0 / 2 ^ s % 2) := by
    have := bit_div xs sx q s
    rw [show 32 * q + s = k by omega] at this
    rcases this with h | h
    · exact h
    · omega
  have C := s7_rlimb_any ax xs.length cx q xs w hx sx rfl
  obtain ⟨x, Hx⟩ : ∃ x, Hid (xs.getD q 0 = x) := ⟨_, rfl⟩
  have hxb : x < 4294967296 := by rw [← Hx.out, ← Bs_eq]; exact sx.getD Bs_pos q
  rw [Hx.out] at C HV
  obtain ⟨y, Hy⟩ : ∃ y, Hid (x / 2 ^ s = y) := ⟨_, rfl⟩
  have hy : y < 4294967296 := by rw [← Hy.out]; exact Nat.lt_of_le_of_lt (Nat.div_le_self _ _) hxb
  have ey : (x : Int) / 2 ^ s = (y : Int) := by rw [← Hy.out]; simp
  rw [Hy.out] at HV
  have hand : bits .and .u64 (y : Int) 1 = ((y % 2 : Nat) : Int) := by
    have := u64_and_nat y 1 (by omega) (by decide)
    rw [Nat.and_one_is_mod] at this
    exact this
  obtain ⟨z, Hz⟩ : ∃ z, Hid (y % 2 = z) := ⟨_, rfl⟩
  rw [Hz.out] at hand HV
  have hz : z ≤ 1 := by rw [← Hz.out]; omega
  clear hx sx hq hs Hy Hz
  go_enter Tryz.func141, Tryz.ntmps141
  go_wp2_with fail
  refine C.mono ?_
  clear C
  rintro e w ⟨rfl, rfl⟩
  go_wp2
  go_ret
  refine ⟨?_, rfl⟩
  rw [HV.out]
  congr 2
  rcases Nat.eq_zero_or_pos z with h | h
  · subst h; rfl
  · obtain rfl : z = 1 := by omega
    rfl

/-- A limb shifted by one, with what came out below. -/
theorem dbl_limb (x c : Nat) (_hx : x < 4294967296) (hc : c ≤ 1) : bits .or .u32 (((2 * x) % 4294967296 : Nat) : Int) (c : Int) = (((2 * x) % 4294967296 + c : Nat) : Int) := by
  rw [u32_or_nat _ _ (by omega) (by omega)]
  congr 1
  have h : ((2 * x) % 4294967296) = 2 ^ 1 * ((2 * x) % 4294967296 / 2) := by omega
  rw [h, ← Nat.two_pow_add_eq_or_of_lt (by omega)]
theorem dblr_step (B p N N' V R x v c top b : Nat) (h : N + p * c = V + R + b) (hset : N' + p * x = N + p * v) (hs : v + B * top = 2 * x + c) : N' + (p * B) * top = V + (R + p * x) + b := by
  have h1 := congrArg (p * ·) hs
  simp only [Nat.mul_add, ← Nat.mul_assoc] at h1
  have h2 : p * 2 * x = p * x + p * x := by rw [Nat.mul_comm p 2, Nat.mul_assoc]; omega
  omega
theorem subr_step (B p N N' V Y x y z bw b' : Nat) (h : N + Y = V + p * bw) (hset : N' + p * x = N + p * z) (hs : z + bw + 1 * y = x + B * b') : N' + (Y + p * y) = V + (p * B) * b' := by
  have h1 := congrArg (p * ·) hs
  simp only [Nat.mul_add, ← Nat.mul_assoc, Nat.one_mul] at h1
  omega
/-- The quotient's and the rest's next digit. -/
theorem quo_step (A D i : Nat) (hD : D ≠ 0) : (D ≤ 2 * (A / 2 ^ (i + 1) % D) + A / 2 ^ i % 2 → A / 2 ^ i / D * 2 ^ i = A / 2 ^ (i + 1) / D * 2 ^ (i + 1) + 2 ^ i ∧ A / 2 ^ i % D = 2 * (A / 2 ^ (i + 1) % D) + A / 2 ^ i % 2 - D) ∧
    (2 * (A / 2 ^ (i + 1) % D) + A / 2 ^ i % 2 < D → A / 2 ^ i / D * 2 ^ i = A / 2 ^ (i + 1) / D * 2 ^ (i + 1) ∧ A / 2 ^ i % D = 2 * (A / 2 ^ (i + 1) % D) + A / 2 ^ i % 2) := by
  have e : A / 2 ^ (i + 1) = A / 2 ^ i / 2 := by rw [Nat.pow_succ, Nat.div_div_eq_div_mul]
  rw [e]
  generalize A / 2 ^ i = F
  have hF : F = 2 * (F / 2) + F % 2 := by omega
  have h1 := Nat.div_add_mod (F / 2) D
  generalize hq : F / 2 / D = q at *
  generalize hr : F / 2 % D = r at *
  have hrlt : r < D := by rw [← hr]; exact Nat.mod_lt _ (by omega)
  have hb : F % 2 ≤ 1 := by omega
  generalize F % 2 = b at *
  have hv : F = D * (2 * q) + (2 * r + b) := by rw [hF, ← h1, Nat.mul_add, Nat.mul_left_comm]; omega
  rw [Nat.pow_succ]
  constructor
  · intro h
    have e1 : F = D * (2 * q + 1) + (2 * r + b - D) := by rw [hv, Nat.mul_add, Nat.mul_one]; omega
    have e2 : F / D = 2 * q + 1 := by rw [e1, Nat.mul_add_div (by omega), Nat.div_eq_of_lt (by omega), Nat.add_zero]
    refine ⟨?_, by rw [e1, Nat.mul_add_mod, Nat.mod_eq_of_lt (by omega)]⟩
    rw [e2, Nat.add_mul, Nat.one_mul, Nat.mul_comm 2 q, Nat.mul_assoc, Nat.mul_comm 2]
  · intro h
    have e2 : F / D = 2 * q := by rw [hv, Nat.mul_add_div (by omega), Nat.div_eq_of_lt h, Nat.add_zero]
    refine ⟨?_, by rw [hv, Nat.mul_add_mod, Nat.mod_eq_of_lt h]⟩
    rw [e2, Nat.mul_comm 2 q, Nat.mul_assoc, Nat.mul_comm 2]
/-- The quotient's limb takes in a digit that wasn't there. -/
theorem quo_limb (Q : List Nat) (k s m : Nat) (hs : s < 32) (sQ : Sm Bs Q) (h : nv Bs Q = m * 2 ^ (32 * k + s + 1)) : bits .or .u32 ((Q.getD k 0 : Nat) : Int) ((2 ^ s : Nat) : Int) = ((Q.getD k 0 + 2 ^ s : Nat) : Int) ∧ Q.getD k 0 + 2 ^ s < 4294967296 := by
  have hp : Q.getD k 0 < 4294967296 := by have := sQ.getD Bs_pos k; rwa [Bs_eq] at this
  have h2s : 2 ^ s < 4294967296 := by
    have : 2 ^ s ≤ 2 ^ 31 := Nat.pow_le_pow_right (by decide) (by omega)
    have e : (2 : Nat) ^ 31 = 2147483648 := by decide
    omega
  have hlimb : Q.getD k 0 = m * 2 ^ (s + 1) % 4294967296 := by
    rw [nv_getD Bs_pos sQ k, h, Bs_eq]
    congr 1
    rw [show 32 * k + s + 1 = (s + 1) + 32 * k by omega, Nat.pow_add, Nat.pow_mul, ← Nat.mul_assoc, show (2 : Nat) ^ 32 = 4294967296 by decide, Nat.mul_div_cancel _ (Nat.pow_pos (by decide))]
  have hdiv : Q.getD k 0 = 2 ^ (s + 1) * (Q.getD k 0 / 2 ^ (s + 1)) := by
    have hd : 2 ^ (s + 1) ∣ Q.getD k 0 := by
      rw [hlimb]
      refine (Nat.dvd_mod_iff ?_).2 (Nat.dvd_mul_left _ _)
      exact ⟨2 ^ (31 - s), by rw [← Nat.pow_add, show s + 1 + (31 - s) = 32 by omega]⟩
    rw [Nat.mul_div_cancel' hd]
  have hor : (Q.getD k 0 ||| 2 ^ s) = Q.getD k 0 + 2 ^ s := by
    have := Nat.two_pow_add_eq_or_of_lt (i := s + 1) (b := 2 ^ s) (Nat.pow_lt_pow_right (by decide) (by omega)) (Q.getD k 0 / 2 ^ (s + 1))
    rw [← hdiv] at this
    exact this.symm
  refine ⟨by rw [u32_or_nat _ _ hp h2s, hor], ?_⟩
  rw [← hor]
  exact Nat.or_lt_two_pow (n := 32) hp h2s

end Go.Proofs.YtmngdaolgdhgmaaGreatDoor

namespace Go.Proofs.YtmngdaolgdhgmaaGreatDoor
open Go.RowKit

/-- What stands while a division goes on: the quotient's and the rest's limbs, all older blocks as they were. -/
structure DV (w wr : World) (Q R : List Nat) : Prop where
  q : Bl 51 wr w.heap.size (Q.map U)
  r : Bl 51 wr (w.heap.size + 1) (R.map U)
  bel : Below w.heap.size w wr
theorem DV.setR {w wr : World} {Q R : List Nat} (h : DV w wr Q R) (k v : Nat) : DV w (wr.setCell ⟨w.heap.size + 1, k, none⟩ (.int .u32 (v : Int))) Q (R.set k v) :=
  ⟨h.q.but ((But.refl _ (w.heap.size + 1)).set _ _) (by omega), h.r.setU k v, h.bel.setCell (by show w.heap.size ≤ w.heap.size + 1; omega) _⟩
theorem DV.setQ {w wr : World} {Q R : List Nat} (h : DV w wr Q R) (k v : Nat) : DV w (wr.setCell ⟨w.heap.size, k, none⟩ (.int .u32 (v : Int))) (Q.set k v) R :=
  ⟨h.q.setU k v, h.r.but ((But.refl _ w.heap.size).set _ _) (by omega), h.bel.setCell (Nat.le_refl _) _⟩
theorem DV.drewN {w wr : World} {Q R : List Nat} (h : DV w wr Q R) (q : Nat) : DV w (wr.drewN q) Q R := ⟨h.q, h.r, below_drewN h.bel q⟩

theorem OB.trim2 {w wr : World} {v : Value} {ds : List Nat} (h : OB w.heap.size w wr v ds) (sd : Sm Bs ds) (hl : ds.length ≤ 1000000000) :
    Calls Tryz.prog 126 #[v] wr fun e w' => ∃ r, e = .returned r ∧ Ow w' w.heap.size r (dg Bs (nv Bs ds)) ∧ Below w.heap.size w w' ∧ Below wr.heap.size wr w' := by
  refine (trim_nm v ds wr (h.own.nm sd) h.own.nz h.own.cap hl).mono ?_
  rintro e w' ⟨r, rfl, h1, h2⟩
  exact ⟨r, rfl, h1.base h.bel.size, h.bel.trans (h2.mono h.bel.size), h2⟩
theorem dbl_end (N P B c V b D : Nat) (h : N + P * B * c = V + V + b) (hV : V < D) (hD : D < P) (hB : 2 ≤ B) (hc : c ≤ 1) (hb : b ≤ 1) : N = 2 * V + b := by
  rcases (by omega : c = 0 ∨ c = 1) with h6 | h6
  · subst h6; rw [Nat.mul_zero] at h; omega
  · exfalso
    subst h6
    have := Nat.mul_le_mul_left P hB
    rw [Nat.mul_one] at h
    omega
theorem sub_end (T D R P bw : Nat) (h : T + D = R + P * bw) (hT : T < P) (hR : D ≤ R) (hbw : bw ≤ 1) : T = R - D := by
  rcases (by omega : bw = 0 ∨ bw = 1) with h6 | h6
  · subst h6; rw [Nat.mul_zero] at h; omega
  · exfalso; subst h6; rw [Nat.mul_one] at h; omega
theorem quo_end (N' N P p pw : Nat) (h : N' + P * p = N + P * (p + pw)) : N' = N + P * pw := by
  rw [Nat.mul_add] at h
  omega

set_option maxRecDepth 100000 in
set_option maxHeartbeats 8000000 in
theorem rdivide_any (v u : Value) (xs ys : List Nat) (A D : Nat) (w : World) (hv : Nm w v xs) (hzv : Nz v) (hcv : ∀ a n c, v = .slice a n c → c ≤ 9223372036854775807) (hu : Nm w u ys) (hzu : Nz u) (hcu : ∀ a n c, u = .slice a n c → c ≤ 9223372036854775807) (hA : nv Bs xs = A) (hD : nv Bs ys = D) (h1 : xs.length ≤ 10000000) (h2 : ys.length ≤ 10000000) (hD0 : D ≠ 0) :
    Calls Tryz.prog 129 #[v, u] w fun e w' => ∃ q r, e = .returned (.tuple #[q, r]) ∧ Ow w' w.heap.size q (dg Bs (A / D)) ∧ Ow w' w.heap.size r (dg Bs (A % D)) ∧ Below w.heap.size w w' := by
  have CT := trim_nm v xs w hv hzv hcv (by omega)
  rw [hA] at CT
  have HU : Hid (Nm w u ys) := hu
  have HZU : Hid (Nz u ∧ ∀ a n c, u = .slice a n c → c ≤ 9223372036854775807) := ⟨hzu, hcu⟩
  have HDv : Hid (nv Bs ys = D) := hD
  have HD0 : Hid (D ≠ 0) := hD0
  have HlX : Hid ((dg Bs A).length ≤ 10000000) := by rw [← hA]; exact Nat.le_trans (dgl_arg xs xs.length hv.sm (Nat.le_refl _)) h1
  have HlY : Hid ((dg Bs D).length ≤ 10000000) := by rw [← hD]; exact Nat.le_trans (dgl_arg ys ys.length hu.sm (Nat.le_refl _)) h2
  have hl2 : ys.length ≤ 1000000000 := by omega
  clear hv hzv hcv hu hzu hcu hA hD hD0 h1 h2
  go_enter Tryz.func129, Tryz.ntmps129
  go_wp2_with fail
  refine CT.mono ?_
  clear CT
  rintro e w1 ⟨a', rfl, hoa, hb1⟩
  have HB1 : Hid (Below w.heap.size w w1) := hb1
  have HNa : Hid (Nm w1 a' (dg Bs A)) := hoa.nm (dg_sm Bs_two _)
  clear hoa hb1
  have CT := trim_nm u ys w1 (HU.out.below HB1.out (Nat.le_refl _)) HZU.out.1 HZU.out.2 hl2
  rw [HDv.out] at CT
  go_wp2_with fail
  refine CT.mono ?_
  clear CT
  rintro e w2 ⟨d', rfl, hod, hb2⟩
  have HB2 : Hid (Below _ _ _) := HB1.out.trans (hb2.mono HB1.out.size)
  have HNd : Hid (Nm w2 d' (dg Bs D)) := hod.nm (dg_sm Bs_two _)
  have HNa2 : Hid (Nm w2 a' (dg Bs A)) := HNa.out.below hb2 (Nat.le_refl _)
  clear hod hb2 HNa HB1 HU HZU HDv hl2
  obtain ⟨X, HXe⟩ : ∃ X, Hid (dg Bs A = X) := ⟨_, rfl⟩
  obtain ⟨Y, HYe⟩ : ∃ Y, Hid (dg Bs D = Y) := ⟨_, rfl⟩
  have HX : Hid (nv Bs X = A) := by rw [← HXe.out]; exact dg_nv Bs_two A
  have HY : Hid (nv Bs Y = D) := by rw [← HYe.out]; exact dg_nv Bs_two D
  rw [HXe.out] at HNa2 HlX
  rw [HYe.out] at HNd HlY
  obtain ⟨ax, cx, rfl, hcx, rx, sx⟩ := HNa2.out
  obtain ⟨ay, cy, rfl, hcy, ry, sy⟩ := HNd.out
  have HRX : Hid (Rn w2 ax X) := rx
  have HRY : Hid (Rn w2 ay Y) := ry
  have HSX : Hid (Sm Bs X) := sx
  have HSY : Hid (Sm Bs Y) := sy
  have hlX := HlX.out
  have hlY := HlY.out
  obtain ⟨wm, hmk, hbl, hbel, hsz⟩ := madeU w2 X.length (by omega)
  obtain ⟨wm2, hmk2, hbl2, hbel2, hsz2⟩ := madeU wm (Y.length + 1) (by omega)
  rw [show ((Y.length + 1 : Nat) : Int) = (Y.length : Int) + 1 from by omega, hsz] at hmk2
  rw [hsz] at hbl2 hbel2 hsz2
  have HDV : Hid (DV w2 wm2 (List.replicate X.length 0) (List.replicate (Y.length + 1) 0)) := ⟨hbl.below hbel2 (by omega), hbl2, hbel.trans (hbel2.mono (by omega))⟩
  clear rx ry sx sy HNa2 HNd HlX HlY hbl hbel hbl2 hbel2 hsz2 hsz HXe HYe
  go_wp2
  clear hmk hmk2
  go_loopw [8] (fun s wr => ∃ (t : Nat) (Q R : List Nat), s = .int .i64 ((t : Int) - 1) ∧ t ≤ 32 * X.length ∧ Hid (DV w2 wr Q R ∧ Q.length = X.length ∧ R.length = Y.length + 1 ∧ Sm Bs Q ∧ Sm Bs R ∧ nv Bs Q = A / 2 ^ t / D * 2 ^ t ∧ nv Bs R = A / 2 ^ t % D)) (fun s _ => (intOf s + 1).toNat)
  case atStart =>
    have h0 : A / 2 ^ (32 * X.length) = 0 := Nat.div_eq_of_lt (by rw [← Bs_pow X.length _ rfl, ← HX.out]; exact nv_lt Bs_pos HSX.out)
    exact ⟨32 * X.length, _, _, by go_num, Nat.le_refl _, HDV.out, by simp, by simp, Sm.zeros _ Bs_pos, Sm.zeros _ Bs_pos, by rw [nv_zeros, h0, Nat.zero_div, Nat.zero_mul], by rw [nv_zeros, h0, Nat.zero_mod]⟩
  case round =>
    clear HDV
    obtain ⟨t, Q, R, rfl, ht, HI⟩ := hrel
    rcases t with _ | i
    · have e0 : ((0 : Nat) : Int) - 1 = -1 := rfl
      rw [e0]
      have HOq : Hid (OB w.heap.size w wr (.slice (some ⟨w2.heap.size, 0, none⟩) X.length X.length) Q) := by
        have h := Bl.ow (w := wr) (base := w.heap.size) (g := w2.heap.size) (L := Q) HI.out.1.q Q.length (Nat.le_refl _) HB2.out.size (by rw [HI.out.2.1]; omega)
        rw [List.take_of_length_le (Nat.le_refl _), HI.out.2.1] at h
        exact ⟨h, HB2.out.trans (HI.out.1.bel.mono HB2.out.size)⟩
      have C := HOq.out.trim2 HI.out.2.2.2.1 (by rw [HI.out.2.1]; omega)
      rw [HI.out.2.2.2.2.2.1, Nat.pow_zero, Nat.div_one, Nat.mul_one] at C
      go_wp2_with fail
      refine C.mono ?_
      clear C
      rintro e w6 ⟨q, rfl, h6, h7, h67⟩
      have C9 := trim_nm (.slice (some ⟨w2.heap.size + 1, 0, none⟩) (Y.length + 1) (Y.length + 1)) R w6 ⟨_, _, by rw [HI.out.2.2.1], by rw [HI.out.2.2.1]; exact Nat.le_refl _, (HI.out.1.r.below h67 HI.out.1.r.lt).rn, HI.out.2.2.2.2.1⟩ (fun _ _ _ e e2 => by cases e; cases e2) (fun _ _ _ e => by cases e; omega) (by rw [HI.out.2.2.1]; omega)
      rw [HI.out.2.2.2.2.2.2, Nat.pow_zero, Nat.div_one] at C9
      clear h67
      have HQ6 : Hid (Ow w6 w.heap.size q (dg Bs (A / D)) ∧ Below w.heap.size w w6) := ⟨h6, h7⟩
      clear h6 h7
      go_wp2_with fail
      refine C9.mono ?_
      clear C9
      rintro e w7 ⟨r, rfl, h8, h9⟩
      have HR7 : Hid (Ow w7 w.heap.size q (dg Bs (A / D)) ∧ Ow w7 w.heap.size r (dg Bs (A % D)) ∧ Below w.heap.size w w7) := ⟨HQ6.out.1.below h9 (Nat.le_refl _), h8.base HQ6.out.2.size, HQ6.out.2.trans (h9.mono HQ6.out.2.size)⟩
      clear h8 h9
      go_wp2
      go_ret2
      exact ⟨q, r, rfl, HR7.out⟩
    · have e0 : ((i + 1 : Nat) : Int) - 1 = (i : Int) := by omega
      rw [e0]
      clear e0
      have C := s7_rbit_any i ax cx X wr (HRX.out.below HI.out.1.bel (Nat.le_refl _)) HSX.out (by omega)
      rw [HX.out] at C
      by_cases hbit : A / 2 ^ i % 2 = 1
      · rw [decide_eq_true hbit] at C
        have HB : Hid (A / 2 ^ i % 2 = 1) := hbit
        go_wp2_with fail
        refine C.mono ?_
        clear C
        rintro e wx ⟨rfl, rfl⟩
        clear hbit
        have HMS0 : Hid (∀ j, 0 ≤ j → R.getD j 0 = R.getD j 0) := fun _ _ => rfl
        go_wp2
        go_loopw [9, 10] (fun s9 s10 wq => ∃ (k c : Nat) (R' : List Nat), s9 = .int .u32 (c : Int) ∧ s10 = .int .i64 (k : Int) ∧ k ≤ Y.length + 1 ∧ c ≤ 1 ∧ Hid (DV w2 wq Q R' ∧ R'.length = Y.length + 1 ∧ Sm Bs R' ∧ nv Bs R' + Bs ^ k * c = nv Bs R + nv Bs (R.take k) + 1 ∧ ∀ j, k ≤ j → R'.getD j 0 = R.getD j 0)) (fun _ s _ => Y.length + 1 - (intOf s).toNat)
        case atStart => exact ⟨0, 1, R, rfl, rfl, Nat.zero_le _, by omega, HI.out.1, HI.out.2.2.1, HI.out.2.2.2.2.1, by rw [List.take_zero, Nat.pow_zero]; show _ = _ + 0 + _; omega, fun _ _ => rfl⟩
        case round =>
          obtain ⟨k, c, R', rfl, rfl, hk, hc, HJ⟩ := hrel
          by_cases hlk : k < Y.length + 1
          · obtain ⟨x, Hx⟩ : ∃ x, Hid (R.getD k 0 = x) := ⟨_, rfl⟩
            have Hx' : Hid (R'.getD k 0 = x) := by show _ = _; rw [HJ.out.2.2.2.2 k (Nat.le_refl _)]; exact Hx.out
            have hx : x < 4294967296 := by rw [← Hx'.out, ← Bs_eq]; exact HJ.out.2.2.1.getD Bs_pos k
            have c1 := HJ.out.1.r.limb k x (by rw [HJ.out.2.1]; omega) Hx'.out
            have gf := HJ.out.1.r.frozen k
            have edb := dbl_limb x c hx hc
            obtain ⟨dd, Hdd⟩ : ∃ dd, Hid ((2 * x) % 4294967296 = dd) := ⟨_, rfl⟩
            obtain ⟨top, Htop⟩ : ∃ top, Hid (2 * x / 4294967296 = top) := ⟨_, rfl⟩
            have hdd : dd < 4294967296 := by rw [← Hdd.out]; omega
            have hdd2 : dd + c < 4294967296 := by rw [← Hdd.out]; omega
            have htop : top ≤ 1 := by rw [← Htop.out]; omega
            rw [Hdd.out] at edb
            have et1 : (x : Int) / 2147483648 = (top : Int) := by rw [← Htop.out]; omega
            have et2 : IntKind.u32.wrap ((x : Int) * 2) = (dd : Int) := by rw [IntKind.wrap_u32, ← Hdd.out]; omega
            have et3 : ((x : Int) * 2) % 4294967296 = (dd : Int) := by rw [← Hdd.out]; omega
            have hkI : (k : Int) < (Y.length : Int) + 1 := by omega
            obtain ⟨vv, Hvv⟩ : ∃ vv, Hid (dd + c = vv) := ⟨_, rfl⟩
            rw [Hvv.out] at edb hdd2
            have HN : Hid (nv Bs (R'.set k vv) + Bs ^ (k + 1) * top = nv Bs R + nv Bs (R.take (k + 1)) + 1) := by
              show _ = _
              rw [Nat.pow_succ, nv_take_succ, Hx.out]
              exact dblr_step _ _ _ _ _ _ _ _ _ _ _ HJ.out.2.2.2.1 (nv_set' Bs R' k vv x (by rw [HJ.out.2.1]; omega) Hx'.out) (by have := Hvv.out; have := Hdd.out; have := Htop.out; rw [Bs_eq]; omega)
            go_wp2
            go_roundw
            case rel => exact ⟨k + 1, top, R'.set k vv, rfl, by go_num, by omega, htop, HJ.out.1.setR _ _, by rw [List.length_set]; exact HJ.out.2.1, HJ.out.2.2.1.set k vv (by rw [Bs_eq]; exact hdd2), HN.out, fun j hj => by rw [getD_set_ne _ _ _ _ (by omega)]; exact HJ.out.2.2.2.2 j (by omega)⟩
            case measure => simp [intOf]; omega
          · obtain rfl : k = Y.length + 1 := by omega
            have hkI : ¬ (((Y.length + 1 : Nat) : Int) < (Y.length : Int) + 1) := by omega
            have HV : Hid (nv Bs R' = 2 * (A / 2 ^ (i + 1) % D) + 1) := by
              have h1 := HJ.out.2.2.2.1
              rw [List.take_of_length_le (by rw [HI.out.2.2.1]; exact Nat.le_refl _), HI.out.2.2.2.2.2.2] at h1
              have h2 : A / 2 ^ (i + 1) % D < D := Nat.mod_lt _ (Nat.pos_of_ne_zero HD0.out)
              have h3 : D < Bs ^ Y.length := by rw [← HY.out]; exact nv_lt Bs_pos HSY.out
              rw [Nat.pow_succ] at h1
              exact dbl_end _ _ _ _ _ _ _ h1 h2 h3 Bs_two hc (by decide)
            have CC := s7_rcmp_nm (.slice (some ⟨w2.heap.size + 1, 0, none⟩) (Y.length + 1) (Y.length + 1)) (.slice ay Y.length cy) R' Y _ ⟨_, _, by rw [HJ.out.2.1], by rw [HJ.out.2.1]; exact Nat.le_refl _, HJ.out.1.r.rn, HJ.out.2.2.1⟩ ⟨_, _, rfl, hcy, HRY.out.below HJ.out.1.bel (Nat.le_refl _), HSY.out⟩ (by rw [HJ.out.2.1]; omega) (by omega)
            rw [HV.out, HY.out] at CC
            have HQ := quo_step A D i HD0.out
            rw [HB.out] at HQ
            by_cases hge : D ≤ 2 * (A / 2 ^ (i + 1) % D) + 1
            · obtain ⟨o, Ho, hoB⟩ : ∃ o : Int, Hid (cmp3 ((2 * (A / 2 ^ (i + 1) % D) + 1 : Nat) : Int) ((D : Nat) : Int) = o) ∧ decide (o ≥ 0) = true := by
                rcases Nat.lt_or_ge D (2 * (A / 2 ^ (i + 1) % D) + 1) with h | h
                · exact ⟨1, cmp3_gt (by omega), by decide⟩
                · exact ⟨0, cmp3_eq (by omega), by decide⟩
              rw [Ho.out] at CC
              have HQ1 : Hid (A / 2 ^ i / D * 2 ^ i = A / 2 ^ (i + 1) / D * 2 ^ (i + 1) + 2 ^ i ∧ A / 2 ^ i % D = 2 * (A / 2 ^ (i + 1) % D) + 1 - D) := HQ.1 hge
              have HGE : Hid (D ≤ nv Bs R') := by rw [HV.out]; exact hge
              clear hge HQ
              go_wp2_with fail
              refine CC.mono ?_
              clear CC
              rintro e wx ⟨rfl, rfl⟩
              go_wp2
              go_loopw [12, 13] (fun s12 s13 wq => ∃ (k bw : Nat) (T : List Nat), s12 = .int .u64 (bw : Int) ∧ s13 = .int .i64 (k : Int) ∧ k ≤ Y.length + 1 ∧ bw ≤ 1 ∧ Hid (DV w2 wq Q T ∧ T.length = Y.length + 1 ∧ Sm Bs T ∧ nv Bs T + nv Bs (Y.take k) = nv Bs R' + Bs ^ k * bw ∧ ∀ j, k ≤ j → T.getD j 0 = R'.getD j 0)) (fun _ s _ => Y.length + 1 - (intOf s).toNat)
              case atStart => exact ⟨0, 0, R', rfl, rfl, Nat.zero_le _, by omega, HJ.out.1, HJ.out.2.1, HJ.out.2.2.1, by rw [List.take_zero, Nat.mul_zero]; rfl, fun _ _ => rfl⟩
              case round =>
                obtain ⟨k, bw, T, rfl, rfl, hk, hbw, HK⟩ := hrel
                by_cases hlk : k < Y.length + 1
                · obtain ⟨x, Hx⟩ : ∃ x, Hid (T.getD k 0 = x) := ⟨_, rfl⟩
                  obtain ⟨y, Hy⟩ : ∃ y, Hid (Y.getD k 0 = y) := ⟨_, rfl⟩
                  have hx : x < 4294967296 := by rw [← Hx.out, ← Bs_eq]; exact HK.out.2.2.1.getD Bs_pos k
                  have hy : y < 4294967296 := by rw [← Hy.out, ← Bs_eq]; exact HSY.out.getD Bs_pos k
                  have C2 := s7_rlimb_any ay Y.length cy k Y _ (HRY.out.below HK.out.1.bel (Nat.le_refl _)) HSY.out rfl
                  rw [Hy.out] at C2
                  have c1 := HK.out.1.r.limb k x (by rw [HK.out.2.1]; omega) Hx.out
                  have gf := HK.out.1.r.frozen k
                  obtain ⟨z, b', hz, hb', hzb, hlo1, hlo2⟩ := s7_sub_limb x y bw hx hy hbw
                  have HN : Hid (nv Bs (T.set k z) + nv Bs (Y.take (k + 1)) = nv Bs R' + Bs ^ (k + 1) * b') := by
                    show _ = _
                    rw [Nat.pow_succ, nv_take_succ, Hy.out]
                    exact subr_step _ _ _ _ _ _ _ _ _ _ _ HK.out.2.2.2.1 (nv_set' Bs T k z x (by rw [HK.out.2.1]; omega) Hx.out) (by rw [Bs_eq]; exact hzb)
                  clear hzb
                  obtain ⟨yb, Hyb⟩ : ∃ yb, Hid (y + bw = yb) := ⟨_, rfl⟩
                  have eyb : (y : Int) + (bw : Int) = (yb : Int) := by rw [← Hyb.out]; omega
                  have ebw : IntKind.u64.wrap (yb : Int) = (yb : Int) := by rw [IntKind.wrap_u64, ← Hyb.out]; omega
                  have hyb : yb ≤ 4294967296 := by rw [← Hyb.out]; omega
                  have e5 : IntKind.u32.wrap (z : Int) = (z : Int) := by rw [IntKind.wrap_u32]; omega
                  have ew2 : IntKind.u64.wrap (z : Int) = (z : Int) := by rw [IntKind.wrap_u64]; omega
                  have hkI : (k : Int) < (Y.length : Int) + 1 := by omega
                  rw [Hyb.out] at hlo1 hlo2
                  have HRL : Hid (∀ v : Nat, v < 4294967296 → (T.set k v).length = Y.length + 1 ∧ Sm Bs (T.set k v) ∧ ∀ j, k + 1 ≤ j → (T.set k v).getD j 0 = R'.getD j 0) := fun v hv => ⟨by rw [List.length_set]; exact HK.out.2.1, HK.out.2.2.1.set k v (by rw [Bs_eq]; exact hv), fun j hj => by rw [getD_set_ne _ _ _ _ (by omega)]; exact HK.out.2.2.2.2 j (by omega)⟩
                  by_cases hxy : x < yb
                  · have hc1 : decide ((x : Int) < (yb : Int)) = true := decide_eq_true (by omega)
                    have hb1 := (hlo1 (by omega)).1
                    have hz1 := (hlo1 (by omega)).2
                    have ew1 : IntKind.u64.wrap ((x : Int) + 4294967296) = (x : Int) + 4294967296 := by rw [IntKind.wrap_u64]; omega
                    subst hb1
                    clear hlo1 hlo2 hxy
                    go_wp2_with fail
                    refine C2.mono ?_
                    clear C2
                    rintro e wx ⟨rfl, rfl⟩
                    go_wp2
                    go_roundw
                    case rel => exact ⟨k + 1, 1, T.set k z, rfl, by go_num, by omega, by omega, HK.out.1.setR _ _, (HRL.out z hz).1, (HRL.out z hz).2.1, HN.out, (HRL.out z hz).2.2⟩
                    case measure => simp [intOf]; omega
                  · have hc1 : decide ((x : Int) < (yb : Int)) = false := decide_eq_false (by omega)
                    have hb1 := (hlo2 (by omega)).1
                    have hz1 := (hlo2 (by omega)).2
                    subst hb1
                    clear hlo1 hlo2 hxy
                    go_wp2_with fail
                    refine C2.mono ?_
                    clear C2
                    rintro e wx ⟨rfl, rfl⟩
                    go_wp2
                    go_roundw
                    case rel => exact ⟨k + 1, 0, T.set k z, rfl, by go_num, by omega, by omega, HK.out.1.setR _ _, (HRL.out z hz).1, (HRL.out z hz).2.1, HN.out, (HRL.out z hz).2.2⟩
                    case measure => simp [intOf]; omega
                · obtain rfl : k = Y.length + 1 := by omega
                  have hkI : ¬ (((Y.length + 1 : Nat) : Int) < (Y.length : Int) + 1) := by omega
                  have HT : Hid (nv Bs T = A / 2 ^ i % D) := by
                    have h1 := HK.out.2.2.2.1
                    rw [List.take_of_length_le (by omega), HY.out] at h1
                    have h2 := nv_lt Bs_pos HK.out.2.2.1
                    rw [HK.out.2.1] at h2
                    show _ = _
                    rw [HQ1.out.2, ← HV.out]
                    exact sub_end _ _ _ _ _ h1 h2 HGE.out hbw
                  obtain ⟨kk, hkk⟩ : ∃ kk, i / 32 = kk := ⟨_, rfl⟩
                  obtain ⟨ss, hss⟩ : ∃ ss, i % 32 = ss := ⟨_, rfl⟩
                  have hs32 : ss < 32 := by omega
                  have hkX : kk < X.length := by omega
                  have HL := quo_limb Q kk ss (A / 2 ^ (i + 1) / D) hs32 HI.out.2.2.2.1 (by rw [show 32 * kk + ss + 1 = i + 1 by omega]; exact HI.out.2.2.2.2.2.1)
                  obtain ⟨p, Hp⟩ : ∃ p, Hid (Q.getD kk 0 = p) := ⟨_, rfl⟩
                  obtain ⟨pw, Hpw⟩ : ∃ pw : Nat, Hid (2 ^ ss = pw) := ⟨2 ^ ss, (rfl : (2 : Nat) ^ ss = 2 ^ ss)⟩
                  rw [Hp.out, Hpw.out] at HL
                  have hor := HL.1
                  have hps := HL.2
                  have hpw : pw < 4294967296 := by omega
                  have c1 := HK.out.1.q.limb kk p (by rw [HI.out.2.1]; omega) Hp.out
                  have gf := HK.out.1.q.frozen kk
                  have eq1 : Int.tdiv (i : Int) 32 = (kk : Int) := by rw [Int.tdiv_eq_ediv_of_nonneg (by omega)]; omega
                  have eq2 : (i : Int) / 32 = (kk : Int) := by omega
                  have es1 : Int.tmod (i : Int) 32 = (ss : Int) := by rw [Int.tmod_eq_emod_of_nonneg (by omega)]; omega
                  have es2 : (i : Int) % 32 = (ss : Int) := by omega
                  have epw : (2 : Int) ^ ss = (pw : Int) := by rw [← Hpw.out]; simp
                  have epw1 : IntKind.u32.wrap (pw : Int) = (pw : Int) := by rw [IntKind.wrap_u32]; omega
                  have hp : p < 4294967296 := by omega
                  have HN : Hid (nv Bs (Q.set kk (p + pw)) = A / 2 ^ i / D * 2 ^ i) := by
                    show _ = _
                    have h1 := nv_set' Bs Q kk (p + pw) p (by rw [HI.out.2.1]; omega) Hp.out
                    have h2 : Bs ^ kk * pw = 2 ^ i := by rw [← Hpw.out, Bs_pow kk (32 * kk) rfl, ← Nat.pow_add]; congr 1; omega
                    rw [HQ1.out.1, ← HI.out.2.2.2.2.2.1, ← h2]
                    exact quo_end _ _ _ _ _ h1
                  clear HL hkk hss
                  obtain ⟨nw, Hnw⟩ : ∃ nw, Hid (p + pw = nw) := ⟨_, rfl⟩
                  rw [Hnw.out] at hor hps HN
                  go_wp2
                  go_roundw
                  case rel => exact ⟨i, Q.set kk nw, T, rfl, by omega, HK.out.1.setQ _ _, by rw [List.length_set]; exact HI.out.2.1, HK.out.2.1, HI.out.2.2.2.1.set kk nw (by rw [Bs_eq]; exact hps), HK.out.2.2.1, HN.out, HT.out⟩
                  case measure => simp [intOf]
            · have hoB : decide (cmp3 ((2 * (A / 2 ^ (i + 1) % D) + 1 : Nat) : Int) ((D : Nat) : Int) ≥ 0) = false := by rw [cmp3_lt (by omega)]; rfl
              have HQ1 : Hid (A / 2 ^ i / D * 2 ^ i = A / 2 ^ (i + 1) / D * 2 ^ (i + 1) ∧ A / 2 ^ i % D = 2 * (A / 2 ^ (i + 1) % D) + 1) := HQ.2 (by omega)
              generalize cmp3 ((2 * (A / 2 ^ (i + 1) % D) + 1 : Nat) : Int) ((D : Nat) : Int) = o at CC hoB
              clear hge HQ
              go_wp2_with fail
              refine CC.mono ?_
              clear CC
              rintro e wx ⟨rfl, rfl⟩
              go_wp2
              go_roundw
              case rel => exact ⟨i, Q, R', rfl, by omega, HJ.out.1, HI.out.2.1, HJ.out.2.1, HI.out.2.2.2.1, HJ.out.2.2.1, by rw [HI.out.2.2.2.2.2.1, HQ1.out.1], by rw [HV.out, HQ1.out.2]⟩
              case measure => simp [intOf]
      · rw [decide_eq_false hbit] at C
        have HB : Hid (A / 2 ^ i % 2 = 0) := by show _ = _; omega
        go_wp2_with fail
        refine C.mono ?_
        clear C
        rintro e wx ⟨rfl, rfl⟩
        clear hbit
        have HMS0 : Hid (∀ j, 0 ≤ j → R.getD j 0 = R.getD j 0) := fun _ _ => rfl
        go_wp2
        go_loopw [9, 10] (fun s9 s10 wq => ∃ (k c : Nat) (R' : List Nat), s9 = .int .u32 (c : Int) ∧ s10 = .int .i64 (k : Int) ∧ k ≤ Y.length + 1 ∧ c ≤ 1 ∧ Hid (DV w2 wq Q R' ∧ R'.length = Y.length + 1 ∧ Sm Bs R' ∧ nv Bs R' + Bs ^ k * c = nv Bs R + nv Bs (R.take k) + 0 ∧ ∀ j, k ≤ j → R'.getD j 0 = R.getD j 0)) (fun _ s _ => Y.length + 1 - (intOf s).toNat)
        case atStart => exact ⟨0, 0, R, rfl, rfl, Nat.zero_le _, by omega, HI.out.1, HI.out.2.2.1, HI.out.2.2.2.2.1, by rw [List.take_zero, Nat.pow_zero]; show _ = _ + 0 + _; omega, fun _ _ => rfl⟩
        case round =>
          obtain ⟨k, c, R', rfl, rfl, hk, hc, HJ⟩ := hrel
          by_cases hlk : k < Y.length + 1
          · obtain ⟨x, Hx⟩ : ∃ x, Hid (R.getD k 0 = x) := ⟨_, rfl⟩
            have Hx' : Hid (R'.getD k 0 = x) := by show _ = _; rw [HJ.out.2.2.2.2 k (Nat.le_refl _)]; exact Hx.out
            have hx : x < 4294967296 := by rw [← Hx'.out, ← Bs_eq]; exact HJ.out.2.2.1.getD Bs_pos k
            have c1 := HJ.out.1.r.limb k x (by rw [HJ.out.2.1]; omega) Hx'.out
            have gf := HJ.out.1.r.frozen k
            have edb := dbl_limb x c hx hc
            obtain ⟨dd, Hdd⟩ : ∃ dd, Hid ((2 * x) % 4294967296 = dd) := ⟨_, rfl⟩
            obtain ⟨top, Htop⟩ : ∃ top, Hid (2 * x / 4294967296 = top) := ⟨_, rfl⟩
            have hdd : dd < 4294967296 := by rw [← Hdd.out]; omega
            have hdd2 : dd + c < 4294967296 := by rw [← Hdd.out]; omega
            have htop : top ≤ 1 := by rw [← Htop.out]; omega
            rw [Hdd.out] at edb
            have et1 : (x : Int) / 2147483648 = (top : Int) := by rw [← Htop.out]; omega
            have et2 : IntKind.u32.wrap ((x : Int) * 2) = (dd : Int) := by rw [IntKind.wrap_u32, ← Hdd.out]; omega
            have et3 : ((x : Int) * 2) % 4294967296 = (dd : Int) := by rw [← Hdd.out]; omega
            have hkI : (k : Int) < (Y.length : Int) + 1 := by omega
            obtain ⟨vv, Hvv⟩ : ∃ vv, Hid (dd + c = vv) := ⟨_, rfl⟩
            rw [Hvv.out] at edb hdd2
            have HN : Hid (nv Bs (R'.set k vv) + Bs ^ (k + 1) * top = nv Bs R + nv Bs (R.take (k + 1)) + 0) := by
              show _ = _
              rw [Nat.pow_succ, nv_take_succ, Hx.out]
              exact dblr_step _ _ _ _ _ _ _ _ _ _ _ HJ.out.2.2.2.1 (nv_set' Bs R' k vv x (by rw [HJ.out.2.1]; omega) Hx'.out) (by have := Hvv.out; have := Hdd.out; have := Htop.out; rw [Bs_eq]; omega)
            go_wp2
            go_roundw
            case rel => exact ⟨k + 1, top, R'.set k vv, rfl, by go_num, by omega, htop, HJ.out.1.setR _ _, by rw [List.length_set]; exact HJ.out.2.1, HJ.out.2.2.1.set k vv (by rw [Bs_eq]; exact hdd2), HN.out, fun j hj => by rw [getD_set_ne _ _ _ _ (by omega)]; exact HJ.out.2.2.2.2 j (by omega)⟩
            case measure => simp [intOf]; omega
          · obtain rfl : k = Y.length + 1 := by omega
            have hkI : ¬ (((Y.length + 1 : Nat) : Int) < (Y.length : Int) + 1) := by omega
            have HV : Hid (nv Bs R' = 2 * (A / 2 ^ (i + 1) % D) + 0) := by
              have h1 := HJ.out.2.2.2.1
              rw [List.take_of_length_le (by rw [HI.out.2.2.1]; exact Nat.le_refl _), HI.out.2.2.2.2.2.2] at h1
              have h2 : A / 2 ^ (i + 1) % D < D := Nat.mod_lt _ (Nat.pos_of_ne_zero HD0.out)
              have h3 : D < Bs ^ Y.length := by rw [← HY.out]; exact nv_lt Bs_pos HSY.out
              rw [Nat.pow_succ] at h1
              exact dbl_end _ _ _ _ _ _ _ h1 h2 h3 Bs_two hc (by decide)
            have CC := s7_rcmp_nm (.slice (some ⟨w2.heap.size + 1, 0, none⟩) (Y.length + 1) (Y.length + 1)) (.slice ay Y.length cy) R' Y _ ⟨_, _, by rw [HJ.out.2.1], by rw [HJ.out.2.1]; exact Nat.le_refl _, HJ.out.1.r.rn, HJ.out.2.2.1⟩ ⟨_, _, rfl, hcy, HRY.out.below HJ.out.1.bel (Nat.le_refl _), HSY.out⟩ (by rw [HJ.out.2.1]; omega) (by omega)
            rw [HV.out, HY.out] at CC
            have HQ := quo_step A D i HD0.out
            rw [HB.out] at HQ
            by_cases hge : D ≤ 2 * (A / 2 ^ (i + 1) % D) + 0
            · obtain ⟨o, Ho, hoB⟩ : ∃ o : Int, Hid (cmp3 ((2 * (A / 2 ^ (i + 1) % D) + 0 : Nat) : Int) ((D : Nat) : Int) = o) ∧ decide (o ≥ 0) = true := by
                rcases Nat.lt_or_ge D (2 * (A / 2 ^ (i + 1) % D) + 0) with h | h
                · exact ⟨1, cmp3_gt (by omega), by decide⟩
                · exact ⟨0, cmp3_eq (by omega), by decide⟩
              rw [Ho.out] at CC
              have HQ1 : Hid (A / 2 ^ i / D * 2 ^ i = A / 2 ^ (i + 1) / D * 2 ^ (i + 1) + 2 ^ i ∧ A / 2 ^ i % D = 2 * (A / 2 ^ (i + 1) % D) + 0 - D) := HQ.1 hge
              have HGE : Hid (D ≤ nv Bs R') := by rw [HV.out]; exact hge
              clear hge HQ
              go_wp2_with fail
              refine CC.mono ?_
              clear CC
              rintro e wx ⟨rfl, rfl⟩
              go_wp2
              go_loopw [12, 13] (fun s12 s13 wq => ∃ (k bw : Nat) (T : List Nat), s12 = .int .u64 (bw : Int) ∧ s13 = .int .i64 (k : Int) ∧ k ≤ Y.length + 1 ∧ bw ≤ 1 ∧ Hid (DV w2 wq Q T ∧ T.length = Y.length + 1 ∧ Sm Bs T ∧ nv Bs T + nv Bs (Y.take k) = nv Bs R' + Bs ^ k * bw ∧ ∀ j, k ≤ j → T.getD j 0 = R'.getD j 0)) (fun _ s _ => Y.length + 1 - (intOf s).toNat)
              case atStart => exact ⟨0, 0, R', rfl, rfl, Nat.zero_le _, by omega, HJ.out.1, HJ.out.2.1, HJ.out.2.2.1, by rw [List.take_zero, Nat.mul_zero]; rfl, fun _ _ => rfl⟩
              case round =>
                obtain ⟨k, bw, T, rfl, rfl, hk, hbw, HK⟩ := hrel
                by_cases hlk : k < Y.length + 1
                · obtain ⟨x, Hx⟩ : ∃ x, Hid (T.getD k 0 = x) := ⟨_, rfl⟩
                  obtain ⟨y, Hy⟩ : ∃ y, Hid (Y.getD k 0 = y) := ⟨_, rfl⟩
                  have hx : x < 4294967296 := by rw [← Hx.out, ← Bs_eq]; exact HK.out.2.2.1.getD Bs_pos k
                  have hy : y < 4294967296 := by rw [← Hy.out, ← Bs_eq]; exact HSY.out.getD Bs_pos k
                  have C2 := s7_rlimb_any ay Y.length cy k Y _ (HRY.out.below HK.out.1.bel (Nat.le_refl _)) HSY.out rfl
                  rw [Hy.out] at C2
                  have c1 := HK.out.1.r.limb k x (by rw [HK.out.2.1]; omega) Hx.out
                  have gf := HK.out.1.r.frozen k
                  obtain ⟨z, b', hz, hb', hzb, hlo1, hlo2⟩ := s7_sub_limb x y bw hx hy hbw
                  have HN : Hid (nv Bs (T.set k z) + nv Bs (Y.take (k + 1)) = nv Bs R' + Bs ^ (k + 1) * b') := by
                    show _ = _
                    rw [Nat.pow_succ, nv_take_succ, Hy.out]
                    exact subr_step _ _ _ _ _ _ _ _ _ _ _ HK.out.2.2.2.1 (nv_set' Bs T k z x (by rw [HK.out.2.1]; omega) Hx.out) (by rw [Bs_eq]; exact hzb)
                  clear hzb
                  obtain ⟨yb, Hyb⟩ : ∃ yb, Hid (y + bw = yb) := ⟨_, rfl⟩
                  have eyb : (y : Int) + (bw : Int) = (yb : Int) := by rw [← Hyb.out]; omega
                  have ebw : IntKind.u64.wrap (yb : Int) = (yb : Int) := by rw [IntKind.wrap_u64, ← Hyb.out]; omega
                  have hyb : yb ≤ 4294967296 := by rw [← Hyb.out]; omega
                  have e5 : IntKind.u32.wrap (z : Int) = (z : Int) := by rw [IntKind.wrap_u32]; omega
                  have ew2 : IntKind.u64.wrap (z : Int) = (z : Int) := by rw [IntKind.wrap_u64]; omega
                  have hkI : (k : Int) < (Y.length : Int) + 1 := by omega
                  rw [Hyb.out] at hlo1 hlo2
                  have HRL : Hid (∀ v : Nat, v < 4294967296 → (T.set k v).length = Y.length + 1 ∧ Sm Bs (T.set k v) ∧ ∀ j, k + 1 ≤ j → (T.set k v).getD j 0 = R'.getD j 0) := fun v hv => ⟨by rw [List.length_set]; exact HK.out.2.1, HK.out.2.2.1.set k v (by rw [Bs_eq]; exact hv), fun j hj => by rw [getD_set_ne _ _ _ _ (by omega)]; exact HK.out.2.2.2.2 j (by omega)⟩
                  by_cases hxy : x < yb
                  · have hc1 : decide ((x : Int) < (yb : Int)) = true := decide_eq_true (by omega)
                    have hb1 := (hlo1 (by omega)).1
                    have hz1 := (hlo1 (by omega)).2
                    have ew1 : IntKind.u64.wrap ((x : Int) + 4294967296) = (x : Int) + 4294967296 := by rw [IntKind.wrap_u64]; omega
                    subst hb1
                    clear hlo1 hlo2 hxy
                    go_wp2_with fail
                    refine C2.mono ?_
                    clear C2
                    rintro e wx ⟨rfl, rfl⟩
                    go_wp2
                    go_roundw
                    case rel => exact ⟨k + 1, 1, T.set k z, rfl, by go_num, by omega, by omega, HK.out.1.setR _ _, (HRL.out z hz).1, (HRL.out z hz).2.1, HN.out, (HRL.out z hz).2.2⟩
                    case measure => simp [intOf]; omega
                  · have hc1 : decide ((x : Int) < (yb : Int)) = false := decide_eq_false (by omega)
                    have hb1 := (hlo2 (by omega)).1
                    have hz1 := (hlo2 (by omega)).2
                    subst hb1
                    clear hlo1 hlo2 hxy
                    go_wp2_with fail
                    refine C2.mono ?_
                    clear C2
                    rintro e wx ⟨rfl, rfl⟩
                    go_wp2
                    go_roundw
                    case rel => exact ⟨k + 1, 0, T.set k z, rfl, by go_num, by omega, by omega, HK.out.1.setR _ _, (HRL.out z hz).1, (HRL.out z hz).2.1, HN.out, (HRL.out z hz).2.2⟩
                    case measure => simp [intOf]; omega
                · obtain rfl : k = Y.length + 1 := by omega
                  have hkI : ¬ (((Y.length + 1 : Nat) : Int) < (Y.length : Int) + 1) := by omega
                  have HT : Hid (nv Bs T = A / 2 ^ i % D) := by
                    have h1 := HK.out.2.2.2.1
                    rw [List.take_of_length_le (by omega), HY.out] at h1
                    have h2 := nv_lt Bs_pos HK.out.2.2.1
                    rw [HK.out.2.1] at h2
                    show _ = _
                    rw [HQ1.out.2, ← HV.out]
                    exact sub_end _ _ _ _ _ h1 h2 HGE.out hbw
                  obtain ⟨kk, hkk⟩ : ∃ kk, i / 32 = kk := ⟨_, rfl⟩
                  obtain ⟨ss, hss⟩ : ∃ ss, i % 32 = ss := ⟨_, rfl⟩
                  have hs32 : ss < 32 := by omega
                  have hkX : kk < X.length := by omega
                  have HL := quo_limb Q kk ss (A / 2 ^ (i + 1) / D) hs32 HI.out.2.2.2.1 (by rw [show 32 * kk + ss + 1 = i + 1 by omega]; exact HI.out.2.2.2.2.2.1)
                  obtain ⟨p, Hp⟩ : ∃ p, Hid (Q.getD kk 0 = p) := ⟨_, rfl⟩
                  obtain ⟨pw, Hpw⟩ : ∃ pw : Nat, Hid (2 ^ ss = pw) := ⟨2 ^ ss, (rfl : (2 : Nat) ^ ss = 2 ^ ss)⟩
                  rw [Hp.out, Hpw.out] at HL
                  have hor := HL.1
                  have hps := HL.2
                  have hpw : pw < 4294967296 := by omega
                  have c1 := HK.out.1.q.limb kk p (by rw [HI.out.2.1]; omega) Hp.out
                  have gf := HK.out.1.q.frozen kk
                  have eq1 : Int.tdiv (i : Int) 32 = (kk : Int) := by rw [Int.tdiv_eq_ediv_of_nonneg (by omega)]; omega
                  have eq2 : (i : Int) / 32 = (kk : Int) := by omega
                  have es1 : Int.tmod (i : Int) 32 = (ss : Int) := by rw [Int.tmod_eq_emod_of_nonneg (by omega)]; omega
                  have es2 : (i : Int) % 32 = (ss : Int) := by omega
                  have epw : (2 : Int) ^ ss = (pw : Int) := by rw [← Hpw.out]; simp
                  have epw1 : IntKind.u32.wrap (pw : Int) = (pw : Int) := by rw [IntKind.wrap_u32]; omega
                  have hp : p < 4294967296 := by omega
                  have HN : Hid (nv Bs (Q.set kk (p + pw)) = A / 2 ^ i / D * 2 ^ i) := by
                    show _ = _
                    have h1 := nv_set' Bs Q kk (p + pw) p (by rw [HI.out.2.1]; omega) Hp.out
                    have h2 : Bs ^ kk * pw = 2 ^ i := by rw [← Hpw.out, Bs_pow kk (32 * kk) rfl, ← Nat.pow_add]; congr 1; omega
                    rw [HQ1.out.1, ← HI.out.2.2.2.2.2.1, ← h2]
                    exact quo_end _ _ _ _ _ h1
                  clear HL hkk hss
                  obtain ⟨nw, Hnw⟩ : ∃ nw, Hid (p + pw = nw) := ⟨_, rfl⟩
                  rw [Hnw.out] at hor hps HN
                  go_wp2
                  go_roundw
                  case rel => exact ⟨i, Q.set kk nw, T, rfl, by omega, HK.out.1.setQ _ _, by rw [List.length_set]; exact HI.out.2.1, HK.out.2.1, HI.out.2.2.2.1.set kk nw (by rw [Bs_eq]; exact hps), HK.out.2.2.1, HN.out, HT.out⟩
                  case measure => simp [intOf]
            · have hoB : decide (cmp3 ((2 * (A / 2 ^ (i + 1) % D) + 0 : Nat) : Int) ((D : Nat) : Int) ≥ 0) = false := by rw [cmp3_lt (by omega)]; rfl
              have HQ1 : Hid (A / 2 ^ i / D * 2 ^ i = A / 2 ^ (i + 1) / D * 2 ^ (i + 1) ∧ A / 2 ^ i % D = 2 * (A / 2 ^ (i + 1) % D) + 0) := HQ.2 (by omega)
              generalize cmp3 ((2 * (A / 2 ^ (i + 1) % D) + 0 : Nat) : Int) ((D : Nat) : Int) = o at CC hoB
              clear hge HQ
              go_wp2_with fail
              refine CC.mono ?_
              clear CC
              rintro e wx ⟨rfl, rfl⟩
              go_wp2
              go_roundw
              case rel => exact ⟨i, Q, R', rfl, by omega, HJ.out.1, HI.out.2.1, HJ.out.2.1, HI.out.2.2.2.1, HJ.out.2.2.1, by rw [HI.out.2.2.2.2.2.1, HQ1.out.1], by rw [HV.out, HQ1.out.2]⟩
              case measure => simp [intOf]

end Go.Proofs.YtmngdaolgdhgmaaGreatDoor
