import Derived.Test.YtecapoknnnoheaaApp
import Derived.Test.YtecapoknnnoheaaLsame
namespace Go.Proofs.Ytecapoknnnoheaa
open Go.RowKit

theorem take_lt {B : Nat} (xs ys : List Nat) (k m : Nat) (hm : k ≤ m) (h : nv B (xs.take k) < nv B (ys.take k)) (he : ∀ j, k ≤ j → xs.getD j 0 = ys.getD j 0) : nv B (xs.take m) < nv B (ys.take m) := by
  induction m with
  | zero => rw [show k = 0 by omega] at h; exact h
  | succ m ih =>
    rcases Nat.lt_or_ge m k with h1 | h1
    · rw [show m + 1 = k by omega]; exact h
    · rw [nv_take_succ, nv_take_succ, he m h1]
      have := ih h1
      omega
theorem limb_lt' {B : Nat} (hB : 0 < B) {xs ys : List Nat} (sx : Sm B xs) (k m : Nat) (hm : k < m) (hx : xs.length ≤ m) (hy : ys.length ≤ m) (he : ∀ j, k + 1 ≤ j → xs.getD j 0 = ys.getD j 0) (h : xs.getD k 0 < ys.getD k 0) : nv B xs < nv B ys := by
  have h1 : nv B (xs.take (k + 1)) < nv B (ys.take (k + 1)) := by
    rw [nv_take_succ, nv_take_succ]
    have h2 := nv_lt hB (sx.take k)
    have h3 : B ^ (xs.take k).length ≤ B ^ k := Nat.pow_le_pow_right hB (by rw [List.length_take]; omega)
    have h4 : B ^ k * (xs.getD k 0 + 1) ≤ B ^ k * ys.getD k 0 := Nat.mul_le_mul_left _ h
    rw [Nat.mul_add, Nat.mul_one] at h4
    omega
  have := take_lt xs ys (k + 1) m (by omega) h1 he
  rwa [List.take_of_length_le hx, List.take_of_length_le hy] at this
theorem nv_ext {B : Nat} (xs ys : List Nat) (he : ∀ j, xs.getD j 0 = ys.getD j 0) : nv B xs = nv B ys := by
  have h : ∀ m, nv B (xs.take m) = nv B (ys.take m) := fun m => by
    induction m with
    | zero => simp
    | succ m ih => rw [nv_take_succ, nv_take_succ, ih, he m]
  have := h (xs.length + ys.length)
  rwa [List.take_of_length_le (by omega), List.take_of_length_le (by omega)] at this
theorem nv_low {B : Nat} (_hB : 0 < B) (ys : List Nat) (n : Nat) (h : nv B ys < B ^ n) : nv B (ys.take n) = nv B ys := by
  rcases Nat.lt_or_ge n ys.length with h1 | h1
  · have e := nv_split B ys n (by omega)
    rcases Nat.eq_zero_or_pos (nv B (ys.drop n)) with h2 | h2
    · rw [h2, Nat.mul_zero, Nat.add_zero] at e; exact e.symm
    · exfalso
      have : B ^ n * 1 ≤ B ^ n * nv B (ys.drop n) := Nat.mul_le_mul_left _ h2
      omega
  · rw [List.take_of_length_le h1]

/-- A number that, if it is nil, has no room. -/
def Nz (v : Value) : Prop := ∀ ao n c, v = .slice ao n c → ao = none → c = 0
theorem Ow.nz {w : World} {base : Nat} {v : Value} {xs : List Nat} (h : Ow w base v xs) : Nz v := fun ao n c e e2 => by
  rcases h.2 with ⟨h1, _⟩ | ⟨g, cap, cur, e', _⟩
  · rw [h1] at e; cases e; rfl
  · rw [e'] at e; cases e; cases e2

set_option maxHeartbeats 1000000 in
theorem trim_any (ao : Option Addr) (n c : Nat) (xs : List Nat) (w : World) (hx : Rn w ao xs) (sx : Sm Bs xs) (hn : n = xs.length) (hcap : n ≤ c) (hz0 : ao = none → c = 0) (hl : n ≤ 1000000000) (_hcl : c ≤ 9223372036854775807) :
    Calls Try.prog 39 #[.slice ao n c] w fun e w' => ∃ r, e = .returned r ∧ Ow w' w.heap.size r (dg Bs (nv Bs xs)) ∧ Below w.heap.size w w' := by
  have Hx : Hid (Rn w ao xs) := hx
  have Hn : Hid (n = xs.length) := hn
  have Hs : Hid (Sm Bs xs) := sx
  have HN : Hid (Ow w w.heap.size (.slice none 0 0) []) := Ow.nil _ _
  have HZ0 : Hid (ao = none → c = 0) := hz0
  clear hx hn sx hz0
  go_enter Try.func39, Try.ntmps39
  go_wp2
  go_loop [3] (fun s => ∃ k : Nat, s = .int .i64 (k : Int) ∧ k ≤ n ∧ Hid (∀ j, k ≤ j → xs.getD j 0 = 0)) (fun s => (intOf s).toNat)
  case atStart => exact ⟨n, rfl, Nat.le_refl _, fun j hj => getD_none _ _ (by have := Hn.out; omega)⟩
  case round =>
    obtain ⟨k, rfl, hk, Hz⟩ := hrel
    by_cases hz : 0 < k ∧ xs.getD (k - 1) 0 = 0
    · obtain ⟨k, rfl⟩ : ∃ j, k = j + 1 := ⟨k - 1, by omega⟩
      obtain ⟨g, off, rfl, _, hcell⟩ := Hx.out.cell (by have := Hn.out; omega)
      have gc := hcell k (by have := Hn.out; omega)
      rw [Nat.add_sub_cancel] at hz
      rw [hz.2] at gc
      have Hz1 : Hid (∀ j, k ≤ j → xs.getD j 0 = 0) := fun j hj => by
        rcases Nat.lt_or_ge k j with h | h
        · exact Hz.out j h
        · obtain rfl : j = k := by omega
          exact hz.2
      have e1 : ((k + 1 : Nat) : Int) - 1 = (k : Int) := by omega
      rw [show ((0 : Nat) : Int) = 0 from rfl] at gc
      clear hcell hz
      go_wp2
      go_round
      case rel => exact ⟨k, rfl, by omega, Hz1⟩
      case measure => simp [intOf]
    · have Ht : Hid (tl xs = k) := tl_of xs k (by have := Hn.out; omega) Hz.out (by omega)
      have HX : Hid (xs.take k = dg Bs (nv Bs xs)) := by show _ = _; rw [← Ht.out]; exact trim_dg Bs_two Hs.out
      have HZ : Hid (True → k = 0 ∨ xs.getD (k - 1) 0 ≠ 0) := fun _ => by omega
      have HR : Hid (Rn w ao (xs.take k)) := Hx.out.take k
      have HL : Hid ((xs.take k).length = k) := by show _ = _; rw [List.length_take]; have := Hn.out; omega
      clear hz Hz Ht
      have KEY : k = 0 ∨ ∃ (j g off x : Nat), k = j + 1 ∧ ao = some ⟨g, off, none⟩ ∧ w.cell? ⟨g, off + j, none⟩ = some (.int .u32 (x : Int)) ∧ (((x : Int) == 0) = false) := by
        rcases Nat.eq_zero_or_pos k with h | h
        · exact .inl h
        · obtain ⟨g, off, e, _, hcell⟩ := Hx.out.cell (by have := Hn.out; omega)
          refine .inr ⟨k - 1, g, off, xs.getD (k - 1) 0, by omega, e, hcell (k - 1) (by have := Hn.out; omega), ?_⟩
          have := HZ.out trivial
          simp only [beq_eq_false_iff_ne]
          omega
      clear HZ
      rcases KEY with rfl | ⟨j, g, off, x, rfl, rfl, gc, hxb⟩
      · have hao : ao = none → (0 : Nat) = 0 ∧ c = 0 := fun e => ⟨rfl, HZ0.out e⟩
        have Hao : Hid (ao = none → (0 : Nat) = 0 ∧ c = 0) := hao
        clear hao
        go_wp2_with (at_builtin; refine append_rn rfl (.tmp 19) (.tmp 22) rfl w.heap.size _ [] rfl HN.out ao 0 c (xs.take 0) rfl HL.out Hao.out HR.out (by rw [List.length_nil]; omega) (Nat.le_refl _) ?_; intro v5 w5 h5 h6)
        have HB : Hid (Below w.heap.size w w5) := (Below.refl _ _).grown h6 (Nat.le_refl _) (fun k h => by cases h)
        have HO : Hid (Ow w5 w.heap.size v5 (dg Bs (nv Bs xs))) := by rw [← HX.out]; exact h5
        clear h5 h6
        go_wp2
        go_ret
        exact ⟨v5, rfl, HO.out, HB.out⟩
      · have e1 : ((j + 1 : Nat) : Int) - 1 = (j : Int) := by omega
        go_wp2_with (at_builtin; refine append_rn rfl (.tmp 19) (.tmp 22) rfl w.heap.size _ [] rfl HN.out (some ⟨g, off, none⟩) (j + 1) c (xs.take (j + 1)) rfl HL.out (fun e => by cases e) HR.out (by rw [List.length_nil]; omega) (Nat.le_refl _) ?_; intro v5 w5 h5 h6)
        have HB : Hid (Below w.heap.size w w5) := (Below.refl _ _).grown h6 (Nat.le_refl _) (fun k h => by cases h)
        have HO : Hid (Ow w5 w.heap.size v5 (dg Bs (nv Bs xs))) := by rw [← HX.out]; exact h5
        clear h5 h6 gc hxb
        go_wp2
        go_ret
        exact ⟨v5, rfl, HO.out, HB.out⟩


set_option maxHeartbeats 1000000 in
theorem rcmp_le (ax ay : Option Addr) (cx cy : Nat) (xs ys : List Nat) (w : World) (hx : Rn w ax xs) (hy : Rn w ay ys) (sx : Sm Bs xs) (sy : Sm Bs ys) (h1 : xs.length ≤ 1000000000) (_h2 : ys.length ≤ 1000000000) (hgt : ys.length ≤ xs.length) :
    Calls Try.prog 58 #[.slice ax xs.length cx, .slice ay ys.length cy] w fun e w' => e = .returned (.int .i64 (cmp3 (nv Bs xs) (nv Bs ys))) ∧ w' = w := by
  obtain ⟨V, HV⟩ : ∃ V : Int, Hid (cmp3 (nv Bs xs) (nv Bs ys) = V) := ⟨_, rfl⟩
  rw [HV.out]
  have HX : Hid (Rn w ax xs) := hx
  have HY : Hid (Rn w ay ys) := hy
  have HSX : Hid (Sm Bs xs) := sx
  have HSY : Hid (Sm Bs ys) := sy
  have hmI : ¬ ((xs.length : Int) < (ys.length : Int)) := by omega
  clear hx hy sx sy
  go_enter Try.func58, Try.ntmps58
  go_wp2
  go_loopw [5] (fun s wr => ∃ k : Nat, s = .int .i64 ((k : Int) - 1) ∧ k ≤ xs.length ∧ wr = w ∧ Hid (∀ j, k ≤ j → xs.getD j 0 = ys.getD j 0)) (fun s _ => (intOf s + 1).toNat)
  case atStart => exact ⟨xs.length, rfl, Nat.le_refl _, rfl, fun j hj => by rw [getD_none _ _ (by omega), getD_none _ _ (by omega)]⟩
  case round =>
    obtain ⟨k, rfl, hk, rfl, HI⟩ := hrel
    rcases k with _ | k
    · have HV0 : Hid (V = 0) := by show _ = _; rw [← HV.out, cmp3_eq (by rw [nv_ext xs ys (fun j => HI.out j (Nat.zero_le _))])]
      have e0 : ((0 : Nat) : Int) - 1 = -1 := rfl
      rw [e0]
      go_wp2
      go_ret
      rw [HV0.out]
      exact ⟨rfl, rfl⟩
    · have e0 : ((k + 1 : Nat) : Int) - 1 = (k : Int) := by omega
      rw [e0]
      clear e0
      have C1 := rlimb_any ax xs.length cx k xs wr HX.out HSX.out rfl
      have C2 := rlimb_any ay ys.length cy k ys wr HY.out HSY.out rfl
      obtain ⟨x, Hx⟩ : ∃ x, Hid (xs.getD k 0 = x) := ⟨_, rfl⟩
      obtain ⟨y, Hy⟩ : ∃ y, Hid (ys.getD k 0 = y) := ⟨_, rfl⟩
      rw [Hx.out] at C1
      rw [Hy.out] at C2
      rcases Nat.lt_trichotomy x y with h | h | h
      · have HV0 : Hid (V = -1) := by
          show _ = _
          rw [← HV.out]
          have := limb_lt' Bs_pos HSX.out k xs.length (by omega) (by omega) (by omega) HI.out (by rw [Hx.out, Hy.out]; exact h)
          exact cmp3_lt (by omega)
        have hb1 : decide ((x : Int) < (y : Int)) = true := decide_eq_true (by omega)
        go_wp2_with fail
        refine C1.mono ?_
        rintro e wr ⟨rfl, rfl⟩
        go_wp2_with fail
        refine C2.mono ?_
        rintro e wr ⟨rfl, rfl⟩
        go_wp2
        go_ret
        rw [HV0.out]
        exact ⟨rfl, rfl⟩
      · subst h
        have HI1 : Hid (∀ j, k ≤ j → xs.getD j 0 = ys.getD j 0) := fun j hj => by
          rcases Nat.lt_or_ge k j with h | h
          · exact HI.out j h
          · obtain rfl : j = k := by omega
            rw [Hx.out, Hy.out]
        have hb1 : decide ((x : Int) < (x : Int)) = false := decide_eq_false (by omega)
        have hb2 : decide ((x : Int) > (x : Int)) = false := decide_eq_false (by omega)
        go_wp2_with fail
        refine C1.mono ?_
        rintro e wr ⟨rfl, rfl⟩
        go_wp2_with fail
        refine C2.mono ?_
        rintro e wr ⟨rfl, rfl⟩
        go_wp2_with fail
        refine C1.mono ?_
        rintro e wr ⟨rfl, rfl⟩
        go_wp2_with fail
        refine C2.mono ?_
        rintro e wr ⟨rfl, rfl⟩
        go_wp2
        go_roundw
        case rel => first | exact ⟨k, rfl, by omega, rfl, HI1⟩ | exact ⟨k, rfl, by omega, trivial, HI1⟩
        case measure => simp [intOf]
      · have HV0 : Hid (V = 1) := by
          show _ = _
          rw [← HV.out]
          have := limb_lt' Bs_pos HSY.out k xs.length (by omega) (by omega) (by omega) (fun j hj => (HI.out j hj).symm) (by rw [Hx.out, Hy.out]; exact h)
          exact cmp3_gt (by omega)
        have hb1 : decide ((x : Int) < (y : Int)) = false := decide_eq_false (by omega)
        have hb2 : decide ((x : Int) > (y : Int)) = true := decide_eq_true (by omega)
        go_wp2_with fail
        refine C1.mono ?_
        rintro e wr ⟨rfl, rfl⟩
        go_wp2_with fail
        refine C2.mono ?_
        rintro e wr ⟨rfl, rfl⟩
        go_wp2_with fail
        refine C1.mono ?_
        rintro e wr ⟨rfl, rfl⟩
        go_wp2_with fail
        refine C2.mono ?_
        rintro e wr ⟨rfl, rfl⟩
        go_wp2
        go_ret
        rw [HV0.out]
        exact ⟨rfl, rfl⟩

set_option maxHeartbeats 1000000 in
theorem rcmp_gt (ax ay : Option Addr) (cx cy : Nat) (xs ys : List Nat) (w : World) (hx : Rn w ax xs) (hy : Rn w ay ys) (sx : Sm Bs xs) (sy : Sm Bs ys) (h1 : xs.length ≤ 1000000000) (h2 : ys.length ≤ 1000000000) (hgt : xs.length < ys.length) :
    Calls Try.prog 58 #[.slice ax xs.length cx, .slice ay ys.length cy] w fun e w' => e = .returned (.int .i64 (cmp3 (nv Bs xs) (nv Bs ys))) ∧ w' = w := by
  obtain ⟨V, HV⟩ : ∃ V : Int, Hid (cmp3 (nv Bs xs) (nv Bs ys) = V) := ⟨_, rfl⟩
  rw [HV.out]
  have HX : Hid (Rn w ax xs) := hx
  have HY : Hid (Rn w ay ys) := hy
  have HSX : Hid (Sm Bs xs) := sx
  have HSY : Hid (Sm Bs ys) := sy
  have hmI : ((xs.length : Int) < (ys.length : Int)) := by omega
  clear hx hy sx sy
  go_enter Try.func58, Try.ntmps58
  go_wp2
  go_loopw [5] (fun s wr => ∃ k : Nat, s = .int .i64 ((k : Int) - 1) ∧ k ≤ ys.length ∧ wr = w ∧ Hid (∀ j, k ≤ j → xs.getD j 0 = ys.getD j 0)) (fun s _ => (intOf s + 1).toNat)
  case atStart => exact ⟨ys.length, rfl, Nat.le_refl _, rfl, fun j hj => by rw [getD_none _ _ (by omega), getD_none _ _ (by omega)]⟩
  case round =>
    obtain ⟨k, rfl, hk, rfl, HI⟩ := hrel
    rcases k with _ | k
    · have HV0 : Hid (V = 0) := by show _ = _; rw [← HV.out, cmp3_eq (by rw [nv_ext xs ys (fun j => HI.out j (Nat.zero_le _))])]
      have e0 : ((0 : Nat) : Int) - 1 = -1 := rfl
      rw [e0]
      go_wp2
      go_ret
      rw [HV0.out]
      exact ⟨rfl, rfl⟩
    · have e0 : ((k + 1 : Nat) : Int) - 1 = (k : Int) := by omega
      rw [e0]
      clear e0
      have C1 := rlimb_any ax xs.length cx k xs wr HX.out HSX.out rfl
      have C2 := rlimb_any ay ys.length cy k ys wr HY.out HSY.out rfl
      obtain ⟨x, Hx⟩ : ∃ x, Hid (xs.getD k 0 = x) := ⟨_, rfl⟩
      obtain ⟨y, Hy⟩ : ∃ y, Hid (ys.getD k 0 = y) := ⟨_, rfl⟩
      rw [Hx.out] at C1
      rw [Hy.out] at C2
      rcases Nat.lt_trichotomy x y with h | h | h
      · have HV0 : Hid (V = -1) := by
          show _ = _
          rw [← HV.out]
          have := limb_lt' Bs_pos HSX.out k ys.length (by omega) (by omega) (by omega) HI.out (by rw [Hx.out, Hy.out]; exact h)
          exact cmp3_lt (by omega)
        have hb1 : decide ((x : Int) < (y : Int)) = true := decide_eq_true (by omega)
        go_wp2_with fail
        refine C1.mono ?_
        rintro e wr ⟨rfl, rfl⟩
        go_wp2_with fail
        refine C2.mono ?_
        rintro e wr ⟨rfl, rfl⟩
        go_wp2
        go_ret
        rw [HV0.out]
        exact ⟨rfl, rfl⟩
      · subst h
        have HI1 : Hid (∀ j, k ≤ j → xs.getD j 0 = ys.getD j 0) := fun j hj => by
          rcases Nat.lt_or_ge k j with h | h
          · exact HI.out j h
          · obtain rfl : j = k := by omega
            rw [Hx.out, Hy.out]
        have hb1 : decide ((x : Int) < (x : Int)) = false := decide_eq_false (by omega)
        have hb2 : decide ((x : Int) > (x : Int)) = false := decide_eq_false (by omega)
        go_wp2_with fail
        refine C1.mono ?_
        rintro e wr ⟨rfl, rfl⟩
        go_wp2_with fail
        refine C2.mono ?_
        rintro e wr ⟨rfl, rfl⟩
        go_wp2_with fail
        refine C1.mono ?_
        rintro e wr ⟨rfl, rfl⟩
        go_wp2_with fail
        refine C2.mono ?_
        rintro e wr ⟨rfl, rfl⟩
        go_wp2
        go_roundw
        case rel => first | exact ⟨k, rfl, by omega, rfl, HI1⟩ | exact ⟨k, rfl, by omega, trivial, HI1⟩
        case measure => simp [intOf]
      · have HV0 : Hid (V = 1) := by
          show _ = _
          rw [← HV.out]
          have := limb_lt' Bs_pos HSY.out k ys.length (by omega) (by omega) (by omega) (fun j hj => (HI.out j hj).symm) (by rw [Hx.out, Hy.out]; exact h)
          exact cmp3_gt (by omega)
        have hb1 : decide ((x : Int) < (y : Int)) = false := decide_eq_false (by omega)
        have hb2 : decide ((x : Int) > (y : Int)) = true := decide_eq_true (by omega)
        go_wp2_with fail
        refine C1.mono ?_
        rintro e wr ⟨rfl, rfl⟩
        go_wp2_with fail
        refine C2.mono ?_
        rintro e wr ⟨rfl, rfl⟩
        go_wp2_with fail
        refine C1.mono ?_
        rintro e wr ⟨rfl, rfl⟩
        go_wp2_with fail
        refine C2.mono ?_
        rintro e wr ⟨rfl, rfl⟩
        go_wp2
        go_ret
        rw [HV0.out]
        exact ⟨rfl, rfl⟩

theorem rcmp_nm (v u : Value) (xs ys : List Nat) (w : World) (hv : Nm w v xs) (hu : Nm w u ys) (h1 : xs.length ≤ 1000000000) (h2 : ys.length ≤ 1000000000) :
    Calls Try.prog 58 #[v, u] w fun e w' => e = .returned (.int .i64 (cmp3 (nv Bs xs) (nv Bs ys))) ∧ w' = w := by
  obtain ⟨ax, cx, rfl, hcx, hx, sx⟩ := hv
  obtain ⟨ay, cy, rfl, hcy, hy, sy⟩ := hu
  rcases Nat.lt_or_ge xs.length ys.length with h | h
  · exact rcmp_gt ax ay cx cy xs ys w hx hy sx sy h1 h2 h
  · exact rcmp_le ax ay cx cy xs ys w hx hy sx sy h1 h2 h
theorem trim_nm (v : Value) (xs : List Nat) (w : World) (hv : Nm w v xs) (hz : Nz v) (hc : ∀ a n c, v = .slice a n c → c ≤ 9223372036854775807) (h1 : xs.length ≤ 1000000000) :
    Calls Try.prog 39 #[v] w fun e w' => ∃ r, e = .returned r ∧ Ow w' w.heap.size r (dg Bs (nv Bs xs)) ∧ Below w.heap.size w w' := by
  obtain ⟨ax, cx, rfl, hcx, hx, sx⟩ := hv
  exact trim_any ax _ cx xs w hx sx rfl hcx (fun e => hz _ _ _ rfl e) h1 (hc _ _ _ rfl)
theorem Ow.cap {w : World} {base : Nat} {v : Value} {xs : List Nat} (h : Ow w base v xs) : ∀ a n c, v = .slice a n c → c ≤ 9223372036854775807 := fun a n c e => by
  rcases h.2 with ⟨h1, _⟩ | ⟨g, cap, cur, e', _, _, _, h4, _⟩
  · rw [h1] at e; cases e; exact Nat.zero_le _
  · rw [e'] at e; cases e; unfold maxLen at h4; omega
/-- What Trim makes of a row of one's own. -/
theorem OB.trim {w wr : World} {v : Value} {ds : List Nat} (h : OB w.heap.size w wr v ds) (sd : Sm Bs ds) (hl : ds.length ≤ 1000000000) :
    Calls Try.prog 39 #[v] wr fun e w' => ∃ r, e = .returned r ∧ Ow w' w.heap.size r (dg Bs (nv Bs ds)) ∧ Below w.heap.size w w' := by
  refine (trim_nm v ds wr (h.own.nm sd) h.own.nz h.own.cap hl).mono ?_
  rintro e w' ⟨r, rfl, h1, h2⟩
  exact ⟨r, rfl, h1.base h.bel.size, h.bel.trans (h2.mono h.bel.size)⟩

set_option maxHeartbeats 1000000 in
theorem plus_le (ax ay : Option Addr) (cx cY : Nat) (xs ys : List Nat) (w : World) (hx : Rn w ax xs) (hy : Rn w ay ys) (sx : Sm Bs xs) (sy : Sm Bs ys) (h1 : xs.length ≤ 100000000) (_h2 : ys.length ≤ 100000000) (hgt : ys.length ≤ xs.length) :
    Calls Try.prog 55 #[.slice ax xs.length cx, .slice ay ys.length cY] w fun e w' => ∃ r, e = .returned r ∧ Ow w' w.heap.size r (dg Bs (nv Bs xs + nv Bs ys)) ∧ Below w.heap.size w w' := by
  have HX : Hid (Rn w ax xs) := hx
  have HY : Hid (Rn w ay ys) := hy
  have HSX : Hid (Sm Bs xs) := sx
  have HSY : Hid (Sm Bs ys) := sy
  have HN0 : Hid (OB w.heap.size w w (.slice none 0 0) []) := OB.nil w
  have hmI : ¬ ((xs.length : Int) < (ys.length : Int)) := by omega
  clear hx hy sx sy
  go_enter Try.func55, Try.ntmps55
  go_wp2
  go_loopw [5, 6, 7] (fun s5 s6 s7 wr => ∃ (i cy : Nat) (ds : List Nat), s6 = .int .u64 (cy : Int) ∧ s7 = .int .i64 (i : Int) ∧ i ≤ xs.length + 1 ∧ cy ≤ 1 ∧ Hid (OB w.heap.size w wr s5 ds ∧ ds.length = i ∧ Sm Bs ds ∧ nv Bs ds + Bs ^ i * cy = nv Bs (xs.take i) + nv Bs (ys.take i))) (fun _ _ s _ => xs.length + 1 - (intOf s).toNat)
  case atStart => exact ⟨0, 0, [], rfl, rfl, Nat.zero_le _, by omega, HN0.out, rfl, Sm.nil _, by simp [nv]⟩
  case round =>
    clear HN0
    obtain ⟨i, cy, ds, rfl, rfl, hi, hcy, HI⟩ := hrel
    have HDl : Hid (ds.length ≤ 1000000000) := by show _ ≤ _; rw [HI.out.2.1]; omega
    by_cases hlt : i < xs.length + 1
    · have C1 := rlimb_any ax xs.length cx i xs wr (HX.out.below HI.out.1.bel (Nat.le_refl _)) HSX.out rfl
      have C2 := rlimb_any ay ys.length cY i ys wr (HY.out.below HI.out.1.bel (Nat.le_refl _)) HSY.out rfl
      obtain ⟨x, Hx⟩ : ∃ x, Hid (xs.getD i 0 = x) := ⟨_, rfl⟩
      obtain ⟨y, Hy⟩ : ∃ y, Hid (ys.getD i 0 = y) := ⟨_, rfl⟩
      have hx : x < 4294967296 := by rw [← Hx.out, ← Bs_eq]; exact HSX.out.getD Bs_pos i
      have hy : y < 4294967296 := by rw [← Hy.out, ← Bs_eq]; exact HSY.out.getD Bs_pos i
      rw [Hx.out] at C1
      rw [Hy.out] at C2
      obtain ⟨t, Ht⟩ : ∃ t, Hid (x + y + cy = t) := ⟨_, rfl⟩
      have ht : t < 8589934592 := by rw [← Ht.out]; omega
      have e0 : IntKind.u64.wrap ((x : Int) + (y : Int)) = ((x + y : Nat) : Int) := by rw [IntKind.wrap_u64]; omega
      have e1 : ((x + y : Nat) : Int) + (cy : Int) = (t : Int) := by have := Ht.out; omega
      have e1' : (x : Int) + (y : Int) + (cy : Int) = (t : Int) := by have := Ht.out; omega
      have e11 : IntKind.u64.wrap (t : Int) = (t : Int) := by rw [IntKind.wrap_u64]; omega
      obtain ⟨z, Hz⟩ : ∃ z, Hid (t % 4294967296 = z) := ⟨_, rfl⟩
      obtain ⟨c', Hc'⟩ : ∃ z, Hid (t / 4294967296 = z) := ⟨_, rfl⟩
      have hz : z < 4294967296 := by rw [← Hz.out]; omega
      have hc' : c' ≤ 1 := by rw [← Hc'.out]; omega
      have eand : bits .and .u64 (t : Int) 4294967295 = (z : Int) := by
        have := u64_and_nat t 4294967295 (by omega) (by decide)
        rw [show (4294967295 : Nat) = 2 ^ 32 - 1 from rfl, Nat.and_two_pow_sub_one_eq_mod] at this
        rw [← Hz.out]
        exact this
      have e3' : (t : Int) / 4294967296 = (c' : Int) := by rw [← Hc'.out]; omega
      have e5 : IntKind.u32.wrap (z : Int) = (z : Int) := by rw [IntKind.wrap_u32]; omega
      have HN : Hid ((ds ++ [z]).length = i + 1 ∧ Sm Bs (ds ++ [z]) ∧ nv Bs (ds ++ [z]) + Bs ^ (i + 1) * c' = nv Bs (xs.take (i + 1)) + nv Bs (ys.take (i + 1))) := by
        refine ⟨by rw [List.length_append, HI.out.2.1]; rfl, HI.out.2.2.1.snoc (by rw [Bs_eq]; omega), ?_⟩
        rw [nv_snoc, nv_take_succ, nv_take_succ, HI.out.2.1, Hx.out, Hy.out, Nat.pow_succ]
        exact add_step _ _ _ _ _ _ _ _ _ _ HI.out.2.2.2 (by have := Ht.out; have := Hz.out; have := Hc'.out; rw [Bs_eq]; omega)
      clear Hz Hc'
      have hiI : (i : Int) ≤ (xs.length : Int) := by omega
      go_wp2_with fail
      refine C1.mono ?_
      clear C1
      rintro e wr ⟨rfl, rfl⟩
      go_wp2_with fail
      refine C2.mono ?_
      clear C2
      rintro e wr ⟨rfl, rfl⟩
      go_wp2_with (at_builtin; refine append_one (w := w) rfl (.tmp 27) (.tmp 31) rfl w.heap.size _ ds z rfl HI.out.1 rfl HDl.out (Nat.le_refl _) ?_; intro v5 w5 h5)
      have HO : Hid (OB w.heap.size w w5 v5 (ds ++ [z])) := h5
      clear h5
      go_wp2
      go_roundw
      case rel =>
        exact ⟨i + 1, c', ds ++ [z], rfl, by go_num, by omega, hc', HO.out, HN.out⟩
      case measure => simp [intOf]; omega
    · obtain rfl : i = xs.length + 1 := by omega
      have hiI : ¬ (((xs.length + 1 : Nat) : Int) ≤ (xs.length : Int)) := by omega
      have hval := HI.out.2.2.2
      rw [List.take_of_length_le (by omega), List.take_of_length_le (by omega)] at hval
      have HV : Hid (nv Bs ds = nv Bs xs + nv Bs ys) := sum_exact Bs_two (xs.length + 1) cy HSX.out HSY.out (by omega) (by omega) hval
      clear hval
      have C := HI.out.1.trim HI.out.2.2.1 HDl.out
      rw [HV.out] at C
      go_wp2_with fail
      refine C.mono ?_
      clear C
      rintro e w6 ⟨r, rfl, h6, h7⟩
      have HR : Hid (Ow w6 w.heap.size r (dg Bs (nv Bs xs + nv Bs ys)) ∧ Below w.heap.size w w6) := ⟨h6, h7⟩
      clear h6 h7
      go_wp2
      go_ret
      exact ⟨r, rfl, HR.out⟩

set_option maxHeartbeats 1000000 in
theorem plus_gt (ax ay : Option Addr) (cx cY : Nat) (xs ys : List Nat) (w : World) (hx : Rn w ax xs) (hy : Rn w ay ys) (sx : Sm Bs xs) (sy : Sm Bs ys) (h1 : xs.length ≤ 100000000) (h2 : ys.length ≤ 100000000) (hgt : xs.length < ys.length) :
    Calls Try.prog 55 #[.slice ax xs.length cx, .slice ay ys.length cY] w fun e w' => ∃ r, e = .returned r ∧ Ow w' w.heap.size r (dg Bs (nv Bs xs + nv Bs ys)) ∧ Below w.heap.size w w' := by
  have HX : Hid (Rn w ax xs) := hx
  have HY : Hid (Rn w ay ys) := hy
  have HSX : Hid (Sm Bs xs) := sx
  have HSY : Hid (Sm Bs ys) := sy
  have HN0 : Hid (OB w.heap.size w w (.slice none 0 0) []) := OB.nil w
  have hmI : ((xs.length : Int) < (ys.length : Int)) := by omega
  clear hx hy sx sy
  go_enter Try.func55, Try.ntmps55
  go_wp2
  go_loopw [5, 6, 7] (fun s5 s6 s7 wr => ∃ (i cy : Nat) (ds : List Nat), s6 = .int .u64 (cy : Int) ∧ s7 = .int .i64 (i : Int) ∧ i ≤ ys.length + 1 ∧ cy ≤ 1 ∧ Hid (OB w.heap.size w wr s5 ds ∧ ds.length = i ∧ Sm Bs ds ∧ nv Bs ds + Bs ^ i * cy = nv Bs (xs.take i) + nv Bs (ys.take i))) (fun _ _ s _ => ys.length + 1 - (intOf s).toNat)
  case atStart => exact ⟨0, 0, [], rfl, rfl, Nat.zero_le _, by omega, HN0.out, rfl, Sm.nil _, by simp [nv]⟩
  case round =>
    clear HN0
    obtain ⟨i, cy, ds, rfl, rfl, hi, hcy, HI⟩ := hrel
    have HDl : Hid (ds.length ≤ 1000000000) := by show _ ≤ _; rw [HI.out.2.1]; omega
    by_cases hlt : i < ys.length + 1
    · have C1 := rlimb_any ax xs.length cx i xs wr (HX.out.below HI.out.1.bel (Nat.le_refl _)) HSX.out rfl
      have C2 := rlimb_any ay ys.length cY i ys wr (HY.out.below HI.out.1.bel (Nat.le_refl _)) HSY.out rfl
      obtain ⟨x, Hx⟩ : ∃ x, Hid (xs.getD i 0 = x) := ⟨_, rfl⟩
      obtain ⟨y, Hy⟩ : ∃ y, Hid (ys.getD i 0 = y) := ⟨_, rfl⟩
      have hx : x < 4294967296 := by rw [← Hx.out, ← Bs_eq]; exact HSX.out.getD Bs_pos i
      have hy : y < 4294967296 := by rw [← Hy.out, ← Bs_eq]; exact HSY.out.getD Bs_pos i
      rw [Hx.out] at C1
      rw [Hy.out] at C2
      obtain ⟨t, Ht⟩ : ∃ t, Hid (x + y + cy = t) := ⟨_, rfl⟩
      have ht : t < 8589934592 := by rw [← Ht.out]; omega
      have e0 : IntKind.u64.wrap ((x : Int) + (y : Int)) = ((x + y : Nat) : Int) := by rw [IntKind.wrap_u64]; omega
      have e1 : ((x + y : Nat) : Int) + (cy : Int) = (t : Int) := by have := Ht.out; omega
      have e1' : (x : Int) + (y : Int) + (cy : Int) = (t : Int) := by have := Ht.out; omega
      have e11 : IntKind.u64.wrap (t : Int) = (t : Int) := by rw [IntKind.wrap_u64]; omega
      obtain ⟨z, Hz⟩ : ∃ z, Hid (t % 4294967296 = z) := ⟨_, rfl⟩
      obtain ⟨c', Hc'⟩ : ∃ z, Hid (t / 4294967296 = z) := ⟨_, rfl⟩
      have hz : z < 4294967296 := by rw [← Hz.out]; omega
      have hc' : c' ≤ 1 := by rw [← Hc'.out]; omega
      have eand : bits .and .u64 (t : Int) 4294967295 = (z : Int) := by
        have := u64_and_nat t 4294967295 (by omega) (by decide)
        rw [show (4294967295 : Nat) = 2 ^ 32 - 1 from rfl, Nat.and_two_pow_sub_one_eq_mod] at this
        rw [← Hz.out]
        exact this
      have e3' : (t : Int) / 4294967296 = (c' : Int) := by rw [← Hc'.out]; omega
      have e5 : IntKind.u32.wrap (z : Int) = (z : Int) := by rw [IntKind.wrap_u32]; omega
      have HN : Hid ((ds ++ [z]).length = i + 1 ∧ Sm Bs (ds ++ [z]) ∧ nv Bs (ds ++ [z]) + Bs ^ (i + 1) * c' = nv Bs (xs.take (i + 1)) + nv Bs (ys.take (i + 1))) := by
        refine ⟨by rw [List.length_append, HI.out.2.1]; rfl, HI.out.2.2.1.snoc (by rw [Bs_eq]; omega), ?_⟩
        rw [nv_snoc, nv_take_succ, nv_take_succ, HI.out.2.1, Hx.out, Hy.out, Nat.pow_succ]
        exact add_step _ _ _ _ _ _ _ _ _ _ HI.out.2.2.2 (by have := Ht.out; have := Hz.out; have := Hc'.out; rw [Bs_eq]; omega)
      clear Hz Hc'
      have hiI : (i : Int) ≤ (ys.length : Int) := by omega
      go_wp2_with fail
      refine C1.mono ?_
      clear C1
      rintro e wr ⟨rfl, rfl⟩
      go_wp2_with fail
      refine C2.mono ?_
      clear C2
      rintro e wr ⟨rfl, rfl⟩
      go_wp2_with (at_builtin; refine append_one (w := w) rfl (.tmp 27) (.tmp 31) rfl w.heap.size _ ds z rfl HI.out.1 rfl HDl.out (Nat.le_refl _) ?_; intro v5 w5 h5)
      have HO : Hid (OB w.heap.size w w5 v5 (ds ++ [z])) := h5
      clear h5
      go_wp2
      go_roundw
      case rel =>
        exact ⟨i + 1, c', ds ++ [z], rfl, by go_num, by omega, hc', HO.out, HN.out⟩
      case measure => simp [intOf]; omega
    · obtain rfl : i = ys.length + 1 := by omega
      have hiI : ¬ (((ys.length + 1 : Nat) : Int) ≤ (ys.length : Int)) := by omega
      have hval := HI.out.2.2.2
      rw [List.take_of_length_le (by omega), List.take_of_length_le (by omega)] at hval
      have HV : Hid (nv Bs ds = nv Bs xs + nv Bs ys) := sum_exact Bs_two (ys.length + 1) cy HSX.out HSY.out (by omega) (by omega) hval
      clear hval
      have C := HI.out.1.trim HI.out.2.2.1 HDl.out
      rw [HV.out] at C
      go_wp2_with fail
      refine C.mono ?_
      clear C
      rintro e w6 ⟨r, rfl, h6, h7⟩
      have HR : Hid (Ow w6 w.heap.size r (dg Bs (nv Bs xs + nv Bs ys)) ∧ Below w.heap.size w w6) := ⟨h6, h7⟩
      clear h6 h7
      go_wp2
      go_ret
      exact ⟨r, rfl, HR.out⟩

theorem plus_nm (v u : Value) (xs ys : List Nat) (w : World) (hv : Nm w v xs) (hu : Nm w u ys) (h1 : xs.length ≤ 100000000) (h2 : ys.length ≤ 100000000) :
    Calls Try.prog 55 #[v, u] w fun e w' => ∃ r, e = .returned r ∧ Ow w' w.heap.size r (dg Bs (nv Bs xs + nv Bs ys)) ∧ Below w.heap.size w w' := by
  obtain ⟨ax, cx, rfl, hcx, hx, sx⟩ := hv
  obtain ⟨ay, cy, rfl, hcy, hy, sy⟩ := hu
  rcases Nat.lt_or_ge xs.length ys.length with h | h
  · exact plus_gt ax ay cx cy xs ys w hx hy sx sy h1 h2 h
  · exact plus_le ax ay cx cy xs ys w hx hy sx sy h1 h2 h


theorem sub_limb (x y bw : Nat) (hx : x < 4294967296) (hy : y < 4294967296) (hb : bw ≤ 1) : ∃ z b' : Nat, z < 4294967296 ∧ b' ≤ 1 ∧ z + bw + 1 * y = x + 4294967296 * b' ∧ (x < y + bw → b' = 1 ∧ (x : Int) + 4294967296 - ((y + bw : Nat) : Int) = (z : Int)) ∧ (¬ x < y + bw → b' = 0 ∧ (x : Int) - ((y + bw : Nat) : Int) = (z : Int)) := by
  by_cases h : x < y + bw
  · exact ⟨x + 4294967296 - (y + bw), 1, by omega, by omega, by omega, fun _ => ⟨rfl, by omega⟩, fun h2 => absurd h h2⟩
  · exact ⟨x - (y + bw), 0, by omega, by omega, by omega, fun h2 => absurd h2 h, fun _ => ⟨rfl, by omega⟩⟩

set_option maxHeartbeats 1000000 in
theorem minus_any (ax ay : Option Addr) (cx cY : Nat) (xs ys : List Nat) (w : World) (hx : Rn w ax xs) (hy : Rn w ay ys) (sx : Sm Bs xs) (sy : Sm Bs ys) (h1 : xs.length ≤ 100000000) (hg : nv Bs ys ≤ nv Bs xs) :
    Calls Try.prog 56 #[.slice ax xs.length cx, .slice ay ys.length cY] w fun e w' => ∃ r, e = .returned r ∧ Ow w' w.heap.size r (dg Bs (nv Bs xs - nv Bs ys)) ∧ Below w.heap.size w w' := by
  have HX : Hid (Rn w ax xs) := hx
  have HY : Hid (Rn w ay ys) := hy
  have HSX : Hid (Sm Bs xs) := sx
  have HSY : Hid (Sm Bs ys) := sy
  have HG : Hid (nv Bs ys ≤ nv Bs xs) := hg
  have HN0 : Hid (OB w.heap.size w w (.slice none 0 0) []) := OB.nil w
  clear hx hy sx sy hg
  go_enter Try.func56, Try.ntmps56
  go_wp2
  go_loopw [5, 6, 7] (fun s6 s7 s8 wr => ∃ (i bw : Nat) (ds : List Nat), s7 = .int .u64 (bw : Int) ∧ s8 = .int .i64 (i : Int) ∧ i ≤ xs.length ∧ bw ≤ 1 ∧ Hid (OB w.heap.size w wr s6 ds ∧ ds.length = i ∧ Sm Bs ds ∧ nv Bs ds + 1 * nv Bs (ys.take i) = nv Bs (xs.take i) + Bs ^ i * bw)) (fun _ _ s _ => xs.length - (intOf s).toNat)
  case atStart => exact ⟨0, 0, [], rfl, rfl, Nat.zero_le _, by omega, HN0.out, rfl, Sm.nil _, by simp [nv]⟩
  case round =>
    clear HN0
    obtain ⟨i, bw, ds, rfl, rfl, hi, hbw, HI⟩ := hrel
    have HDl : Hid (ds.length ≤ 1000000000) := by show _ ≤ _; rw [HI.out.2.1]; omega
    by_cases hlt : i < xs.length
    · have C1 := rlimb_any ax xs.length cx i xs wr (HX.out.below HI.out.1.bel (Nat.le_refl _)) HSX.out rfl
      have C2 := rlimb_any ay ys.length cY i ys wr (HY.out.below HI.out.1.bel (Nat.le_refl _)) HSY.out rfl
      obtain ⟨x, Hx⟩ : ∃ x, Hid (xs.getD i 0 = x) := ⟨_, rfl⟩
      obtain ⟨y, Hy⟩ : ∃ y, Hid (ys.getD i 0 = y) := ⟨_, rfl⟩
      have hx : x < 4294967296 := by rw [← Hx.out, ← Bs_eq]; exact HSX.out.getD Bs_pos i
      have hy : y < 4294967296 := by rw [← Hy.out, ← Bs_eq]; exact HSY.out.getD Bs_pos i
      rw [Hx.out] at C1
      rw [Hy.out] at C2
      obtain ⟨z, b', hz, hb', hzb, hlo1, hlo2⟩ := sub_limb x y bw hx hy hbw
      have HN : Hid ((ds ++ [z]).length = i + 1 ∧ Sm Bs (ds ++ [z]) ∧ nv Bs (ds ++ [z]) + 1 * nv Bs (ys.take (i + 1)) = nv Bs (xs.take (i + 1)) + Bs ^ (i + 1) * b') := by
        refine ⟨by rw [List.length_append, HI.out.2.1]; rfl, HI.out.2.2.1.snoc (by rw [Bs_eq]; omega), ?_⟩
        rw [nv_snoc, nv_take_succ, nv_take_succ, HI.out.2.1, Hx.out, Hy.out, Nat.pow_succ]
        exact take_step _ _ _ _ _ _ _ _ _ _ _ HI.out.2.2.2 (by rw [Bs_eq]; exact hzb)
      clear hzb
      obtain ⟨yb, Hyb⟩ : ∃ yb, Hid (y + bw = yb) := ⟨_, rfl⟩
      have eyb : (y : Int) + (bw : Int) = (yb : Int) := by rw [← Hyb.out]; omega
      have ebw : IntKind.u64.wrap (yb : Int) = (yb : Int) := by rw [IntKind.wrap_u64, ← Hyb.out]; omega
      have hyb : yb ≤ 4294967296 := by rw [← Hyb.out]; omega
      have e5 : IntKind.u32.wrap (z : Int) = (z : Int) := by rw [IntKind.wrap_u32]; omega
      rw [Hyb.out] at hlo1 hlo2
      by_cases hxy : x < yb
      · skip
        have hc1 : decide ((x : Int) < (yb : Int)) = true := decide_eq_true (by omega)
        have hb1 := (hlo1 (by omega)).1
        have hz1 := (hlo1 (by omega)).2

        have ew1 : IntKind.u64.wrap ((x : Int) + 4294967296) = (x : Int) + 4294967296 := by rw [IntKind.wrap_u64]; omega
        have ew2 : IntKind.u64.wrap (z : Int) = (z : Int) := by rw [IntKind.wrap_u64]; omega
        subst hb1
        clear hlo1 hlo2 hxy
        go_wp2_with fail
        refine C1.mono ?_
        clear C1
        rintro e wr ⟨rfl, rfl⟩
        go_wp2_with fail
        refine C2.mono ?_
        clear C2
        rintro e wr ⟨rfl, rfl⟩
        go_wp2_with (at_builtin; refine append_one (w := w) rfl (.tmp 29) (.tmp 34) rfl w.heap.size _ ds z rfl HI.out.1 rfl HDl.out (Nat.le_refl _) ?_; intro v5 w5 h5)
        have HO : Hid (OB w.heap.size w w5 v5 (ds ++ [z])) := h5
        clear h5
        go_wp2
        go_roundw
        case rel => exact ⟨i + 1, 1, ds ++ [z], rfl, by go_num, by omega, by omega, HO.out, HN.out⟩
        case measure => simp [intOf]; omega
      · skip
        have hc1 : decide ((x : Int) < (yb : Int)) = false := decide_eq_false (by omega)
        have hb1 := (hlo2 (by omega)).1
        have hz1 := (hlo2 (by omega)).2

        have ew2 : IntKind.u64.wrap (z : Int) = (z : Int) := by rw [IntKind.wrap_u64]; omega
        subst hb1
        clear hlo1 hlo2 hxy
        go_wp2_with fail
        refine C1.mono ?_
        clear C1
        rintro e wr ⟨rfl, rfl⟩
        go_wp2_with fail
        refine C2.mono ?_
        clear C2
        rintro e wr ⟨rfl, rfl⟩
        go_wp2_with (at_builtin; refine append_one (w := w) rfl (.tmp 29) (.tmp 34) rfl w.heap.size _ ds z rfl HI.out.1 rfl HDl.out (Nat.le_refl _) ?_; intro v5 w5 h5)
        have HO : Hid (OB w.heap.size w w5 v5 (ds ++ [z])) := h5
        clear h5
        go_wp2
        go_roundw
        case rel => exact ⟨i + 1, 0, ds ++ [z], rfl, by go_num, by omega, by omega, HO.out, HN.out⟩
        case measure => simp [intOf]; omega
    · obtain rfl : i = xs.length := by omega
      have hval := HI.out.2.2.2
      rw [List.take_of_length_le (l := xs) (Nat.le_refl _), nv_low Bs_pos ys xs.length (Nat.lt_of_le_of_lt HG.out (nv_lt Bs_pos HSX.out))] at hval
      have HV : Hid (nv Bs ds = nv Bs xs - nv Bs ys) := diff_exact Bs_pos xs.length bw _ _ HI.out.2.2.1 HI.out.2.1 (nv_lt Bs_pos HSX.out) HG.out hval
      have C := HI.out.1.trim HI.out.2.2.1 (by rw [HI.out.2.1]; omega)
      rw [HV.out] at C
      clear hval
      go_wp2_with fail
      refine C.mono ?_
      clear C
      rintro e w6 ⟨r, rfl, h6, h7⟩
      have HR : Hid (Ow w6 w.heap.size r (dg Bs (nv Bs xs - nv Bs ys)) ∧ Below w.heap.size w w6) := ⟨h6, h7⟩
      clear h6 h7
      go_wp2
      go_ret
      exact ⟨r, rfl, HR.out⟩

theorem minus_nm (v u : Value) (xs ys : List Nat) (w : World) (hv : Nm w v xs) (hu : Nm w u ys) (h1 : xs.length ≤ 100000000) (hg : nv Bs ys ≤ nv Bs xs) :
    Calls Try.prog 56 #[v, u] w fun e w' => ∃ r, e = .returned r ∧ Ow w' w.heap.size r (dg Bs (nv Bs xs - nv Bs ys)) ∧ Below w.heap.size w w' := by
  obtain ⟨ax, cx, rfl, hcx, hx, sx⟩ := hv
  obtain ⟨ay, cy, rfl, hcy, hy, sy⟩ := hu
  exact minus_any ax ay cx cy xs ys w hx hy sx sy h1 hg

end Go.Proofs.Ytecapoknnnoheaa
