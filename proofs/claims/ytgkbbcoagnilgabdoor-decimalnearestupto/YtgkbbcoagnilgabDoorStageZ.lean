import Derived.Test.YtgkbbcoagnilgabDoorStageM
import Derived.Test.YtgkbbcoagnilgabDoorStarted
namespace Go.Proofs.YtgkbbcoagnilgabDoor
open Go.RowKit

set_option maxHeartbeats 400000 in
theorem value_inf (w : World) : Calls Tryd.prog 12 #[.int .u32 2139095040] w fun e w' => e = .returned (.string ⟨beyondT.toArray⟩) ∧ Below w.heap.size w w' := by
  go_enter Tryd.func12, Tryd.ntmps12
  go_wp2
  go_ret
  exact ⟨rfl, Below.refl _ _⟩

set_option maxHeartbeats 400000 in
theorem value_fin (b : Nat) (T : List UInt8) (w : World) (hq : ((b : Int) == 2139095040) = false)
    (HE : Hid (∀ w, Calls Tryd.prog 18 #[.int .u32 (b : Int)] w fun e w' => e = .returned (.string ⟨T.toArray⟩) ∧ Below w.heap.size w w')) :
    Calls Tryd.prog 12 #[.int .u32 (b : Int)] w fun e w' => e = .returned (.string ⟨T.toArray⟩) ∧ Below w.heap.size w w' := by
  go_enter Tryd.func12, Tryd.ntmps12
  go_wp2_with fail
  refine (HE.out _).mono ?_
  rintro e w1 ⟨rfl, c1⟩
  go_wp2
  go_ret
  exact ⟨rfl, c1⟩

theorem value_any (b : Nat) (hb : b ≤ 2139095040) : ∃ g f, ExF b g f ∧ ∀ w, Calls Tryd.prog 12 #[.int .u32 (b : Int)] w fun e w' => e = .returned (.string ⟨(txt false g f).toArray⟩) ∧ Below w.heap.size w w' := by
  by_cases h : b = 2139095040
  · subst h
    exact ⟨beyondT, [], beyond_exf, fun w => value_inf w⟩
  · have hm : b % 2147483648 = b := Nat.mod_eq_of_lt (by omega)
    obtain ⟨g, f, hx, hF⟩ := exact_txt b (by rw [hm]; omega)
    rw [hm] at hF
    have hd : decide (2147483648 ≤ b) = false := decide_eq_false (by omega)
    rw [hd] at hx
    refine ⟨g, f, hF, fun w => value_fin b _ w (by simp; omega) (fun w => ?_)⟩
    have he := exact_any b w (by omega)
    rw [hx] at he
    exact he

/-- May the sign stand in a number without minus and exponent? -/
def okC (c : UInt8) : Bool := c == 46 || isD c

set_option maxRecDepth 10000 in
set_option maxHeartbeats 1000000 in
theorem twice_any (T O A V : List UInt8) (w : World) (hT : T.length ≤ 2000000) (hAl : A.length ≤ 2000000) (hVl : V.length ≤ 2000000) (ok : Bool) (hok : Hid (ok = T.all okC)) (hTe : Hid (ok = true → T = if V = [] then A else A ++ [46] ++ V)) (P : Int → Prop)
    (HC : Hid (∀ w, Calls Tryd.prog 22 #[.string ⟨T.toArray⟩] w fun e w' => e = .returned (.tuple #[.string ⟨A.toArray⟩, .string ⟨V.toArray⟩]) ∧ ∃ q, w' = w.drewN q))
    (HS : Hid (ok = true → ∀ w, Calls Tryd.prog 11 #[.string ⟨T.toArray⟩, .string ⟨T.toArray⟩] w fun e w' => ∃ D : List UInt8, e = .returned (.string ⟨D.toArray⟩) ∧ (∀ w, Calls Tryd.prog 16 #[.string ⟨D.toArray⟩, .string ⟨O.toArray⟩] w fun e w' => ∃ X, e = .returned (.tuple #[.int .i64 X, .int .i64 0]) ∧ P X ∧ Below w.heap.size w w') ∧ Below w.heap.size w w')) :
    Calls Tryd.prog 10 #[.string ⟨T.toArray⟩, .string ⟨O.toArray⟩] w fun e w' => ∃ X, e = .returned (.tuple #[.int .i64 X, .bool ok]) ∧ (ok = true → P X) ∧ Below w.heap.size w w' := by
  go_enter Tryd.func10, Tryd.ntmps10
  go_wp2_with fail
  refine (HC.out _).mono ?_
  rintro e w1 ⟨rfl, q1, rfl⟩
  go_wp2
  go_loop [8] (fun s8 => ∃ j : Nat, s8 = .int .i64 (j : Int) ∧ j ≤ T.length ∧ Hid (∀ i (_ : i < j) (hl : i < T.length), okC T[i] = true)) (fun s => T.length - (intOf s).toNat)
  case atStart => exact ⟨0, rfl, Nat.zero_le _, fun i hi => by omega⟩
  case round =>
    obtain ⟨j, rfl, hj, Hj⟩ := hrel
    by_cases hlt : j < T.length
    · obtain ⟨c, hc⟩ : ∃ c, T[j] = c := ⟨_, rfl⟩
      have gx : (ByteArray.mk T.toArray)[j]'(by show j < T.toArray.size; simpa using hlt) = c := by rw [← hc]; rfl
      have Hnext : Hid (okC c = true → ∀ i (_ : i < j + 1) (hl : i < T.length), okC T[i] = true) := fun h i hi hl => by
        by_cases e : i = j
        · subst e; rw [hc]; exact h
        · exact Hj.out i (by omega) hl
      have Hbad : Hid (okC c = false → ok = false) := fun h => by
        rw [hok.out, List.all_eq_false]
        exact ⟨c, by rw [← hc]; exact List.getElem_mem hlt, by rw [h]; decide⟩
      clear hc
      by_cases h46 : c = 46
      · have hq : ((c.toNat : Int) != 46) = false := by rw [h46]; rfl
        have Hj2 : Hid (∀ i (_ : i < j + 1) (hl : i < T.length), okC T[i] = true) := Hnext.out (by rw [h46]; decide)
        clear h46 Hnext Hbad
        go_wp2
        go_round
        case rel => exact ⟨j + 1, by go_num, by omega, Hj2⟩
        case measure => simp [intOf]; omega
      · have hc46 : c.toNat ≠ 46 := fun e => h46 (UInt8.toNat_inj.1 e)
        have hq : ((c.toNat : Int) != 46) = true := by simp; omega
        by_cases hlo : c.toNat < 48
        · have Hok : Hid (ok = false) := Hbad.out (by unfold okC isD; simp [h46]; omega)
          clear h46 Hnext Hbad
          go_wp2
          go_ret2
          rw [Hok.out]
          exact ⟨0, rfl, (fun h => by cases h), below_drewN (Below.refl _ _) _⟩
        · by_cases hhi : 57 < c.toNat
          · have Hok : Hid (ok = false) := Hbad.out (by unfold okC isD; simp [h46]; omega)
            clear h46 Hnext Hbad
            go_wp2
            go_ret2
            rw [Hok.out]
            exact ⟨0, rfl, (fun h => by cases h), below_drewN (Below.refl _ _) _⟩
          · have Hj2 : Hid (∀ i (_ : i < j + 1) (hl : i < T.length), okC T[i] = true) := Hnext.out (by unfold okC isD; simp; right; omega)
            clear h46 Hnext Hbad
            go_wp2
            go_round
            case rel => exact ⟨j + 1, by go_num, by omega, Hj2⟩
            case measure => simp [intOf]; omega
    · have Hok : Hid (ok = true) := by
        show _ = _
        rw [hok.out, List.all_eq_true]
        intro x hx
        obtain ⟨i, hi, rfl⟩ := List.getElem_of_mem hx
        exact Hj.out i (by omega) hi
      have HS2 : Hid (∀ w, Calls Tryd.prog 11 #[.string ⟨T.toArray⟩, .string ⟨T.toArray⟩] w fun e w' => ∃ D : List UInt8, e = .returned (.string ⟨D.toArray⟩) ∧ (∀ w, Calls Tryd.prog 16 #[.string ⟨D.toArray⟩, .string ⟨O.toArray⟩] w fun e w' => ∃ X, e = .returned (.tuple #[.int .i64 X, .int .i64 0]) ∧ P X ∧ Below w.heap.size w w') ∧ Below w.heap.size w w') := HS.out Hok.out
      have HT2 := hTe.out Hok.out
      clear Hj
      by_cases hV : V = []
      · rw [if_pos hV] at HT2
        have hVe : V.isEmpty = true := by rw [hV]; rfl
        have HTA : Hid (T = A) := HT2
        rw [HT2] at HS2
        clear HT2 hV
        go_wp2_with fail
        refine (HS2.out _).mono ?_
        rintro e w2 ⟨D, rfl, hcmp, hB2⟩
        have c2 := (below_drewN (Below.refl w.heap.size w) q1).trans hB2
        have Hcmp : Hid (∀ w, Calls Tryd.prog 16 #[.string ⟨D.toArray⟩, .string ⟨O.toArray⟩] w fun e w' => ∃ X, e = .returned (.tuple #[.int .i64 X, .int .i64 0]) ∧ P X ∧ Below w.heap.size w w') := hcmp
        clear hcmp hB2
        go_wp2_with fail
        refine (Hcmp.out _).mono ?_
        rintro e w3 ⟨X, rfl, hX, hB3⟩
        have c3 := c2.trans (hB3.mono c2.size)
        have HX : Hid (P X) := hX
        clear hX hB3
        go_wp2
        go_ret2
        rw [Hok.out]
        exact ⟨X, rfl, fun _ => HX.out, c3⟩
      · rw [if_neg hV] at HT2
        have hVe : V.isEmpty = false := by simpa using hV
        have hc1 : (ByteArray.mk A.toArray) ++ (ByteArray.mk #[46]) = ByteArray.mk (A ++ [46]).toArray := ba_cat A [46]
        have hc2 : (ByteArray.mk (A ++ [46]).toArray) ++ (ByteArray.mk V.toArray) = ByteArray.mk T.toArray := by rw [HT2]; exact ba_cat _ _
        have hl1 : (A ++ [46]).length ≤ 2000010 := by rw [List.length_append]; simp; omega
        generalize A ++ [46] = A46 at hc1 hc2 hl1
        clear HT2 hV
        go_wp2_with fail
        refine (HS2.out _).mono ?_
        rintro e w2 ⟨D, rfl, hcmp, hB2⟩
        have c2 := (below_drewN (Below.refl w.heap.size w) q1).trans hB2
        have Hcmp : Hid (∀ w, Calls Tryd.prog 16 #[.string ⟨D.toArray⟩, .string ⟨O.toArray⟩] w fun e w' => ∃ X, e = .returned (.tuple #[.int .i64 X, .int .i64 0]) ∧ P X ∧ Below w.heap.size w w') := hcmp
        clear hcmp hB2
        go_wp2_with fail
        refine (Hcmp.out _).mono ?_
        rintro e w3 ⟨X, rfl, hX, hB3⟩
        have c3 := c2.trans (hB3.mono c2.size)
        have HX : Hid (P X) := hX
        clear hX hB3
        go_wp2
        go_ret2
        rw [Hok.out]
        exact ⟨X, rfl, fun _ => HX.out, c3⟩

set_option maxHeartbeats 1000000 in
theorem stage_none (t : List UInt8) (w : World)
    (HS : Hid (∀ w, Calls Tryd.prog 7 #[] w fun e w' => e = .returned (.bool true) ∧ Below w.heap.size w w'))
    (HN : Hid (∀ w, Calls Tryd.prog 8 #[.string ⟨t.toArray⟩] w fun e w' => e = .returned (.tuple #[.int .u32 0, .int .i64 30]) ∧ Below w.heap.size w w'))
    (HV : Hid (∀ w, Calls Tryd.prog 9 #[.string ⟨t.toArray⟩] w fun e w' => e = .returned (.bool false) ∧ Below w.heap.size w w')) :
    Calls Tryd.prog 3 #[.string ⟨t.toArray⟩] w fun e w' => e = .returned (.bool true) ∧ Below w.heap.size w w' := by
  go_enter Tryd.func3, Tryd.ntmps3
  go_wp2_with fail
  refine (HS.out _).mono ?_
  rintro e w1 ⟨rfl, c1⟩
  go_wp2_with fail
  refine (HN.out _).mono ?_
  rintro e w2 ⟨rfl, hB2⟩
  have c2 := c1.trans (hB2.mono c1.size)
  go_wp2_with fail
  refine (HV.out _).mono ?_
  rintro e w3 ⟨rfl, hB3⟩
  have c3 := c2.trans (hB3.mono c2.size)
  go_wp2
  go_ret
  exact ⟨rfl, c3⟩

set_option maxRecDepth 10000 in
set_option maxHeartbeats 1000000 in
theorem stage_minus (t r : List UInt8) (ht : Hid (t = 45 :: r)) (hl : 1 ≤ t.length) (B : Nat) (hB1 : decide ((B : Int) > 2139095040) = true) (_hB2 : decide ((2139095040 : Int) < (B : Int)) = true) (w : World) (htl : t.length ≤ 2000000)
    (HS : Hid (∀ w, Calls Tryd.prog 7 #[] w fun e w' => e = .returned (.bool true) ∧ Below w.heap.size w w'))
    (HN : Hid (∀ w, Calls Tryd.prog 8 #[.string ⟨t.toArray⟩] w fun e w' => e = .returned (.tuple #[.int .u32 (B : Int), .int .i64 0]) ∧ Below w.heap.size w w'))
    (HV : Hid (∀ w, Calls Tryd.prog 9 #[.string ⟨t.toArray⟩] w fun e w' => e = .returned (.bool true) ∧ Below w.heap.size w w')) :
    Calls Tryd.prog 3 #[.string ⟨t.toArray⟩] w fun e w' => e = .returned (.bool true) ∧ Below w.heap.size w w' := by
  have gx : (ByteArray.mk t.toArray)[0]'(by show 0 < t.toArray.size; rw [List.size_toArray]; omega) = 45 := by
    have h := ht.out
    subst h
    rfl
  go_enter Tryd.func3, Tryd.ntmps3
  go_wp2_with fail
  refine (HS.out _).mono ?_
  rintro e w1 ⟨rfl, c1⟩
  go_wp2_with fail
  refine (HN.out _).mono ?_
  rintro e w2 ⟨rfl, hB2⟩
  have c2 := c1.trans (hB2.mono c1.size)
  go_wp2_with fail
  refine (HV.out _).mono ?_
  rintro e w3 ⟨rfl, hB3⟩
  have c3 := c2.trans (hB3.mono c2.size)
  go_wp2
  go_ret
  exact ⟨rfl, c3⟩

/-- What one half of the law asks: the value on one side, the sum, and how twice the text stands to it. -/
structure Half (t : List UInt8) (a b : Nat) (ok : Bool) (P : Int → Prop) : Prop where
  ex : ∃ g f g' f', ExF a g f ∧ ExF b g' f' ∧ (∀ w, Calls Tryd.prog 12 #[.int .u32 (a : Int)] w fun e w' => e = .returned (.string ⟨(txt false g f).toArray⟩) ∧ Below w.heap.size w w') ∧ (∀ w, Calls Tryd.prog 12 #[.int .u32 (b : Int)] w fun e w' => e = .returned (.string ⟨(txt false g' f').toArray⟩) ∧ Below w.heap.size w w') ∧
    (∀ w, Calls Tryd.prog 11 #[.string ⟨(txt false g f).toArray⟩, .string ⟨(txt false g' f').toArray⟩] w fun e w' => ∃ O : List UInt8, e = .returned (.string ⟨O.toArray⟩) ∧ (∀ w, Calls Tryd.prog 10 #[.string ⟨t.toArray⟩, .string ⟨O.toArray⟩] w fun e w' => ∃ X, e = .returned (.tuple #[.int .i64 X, .bool ok]) ∧ (ok = true → P X) ∧ Below w.heap.size w w') ∧ Below w.heap.size w w')


set_option maxRecDepth 10000 in
set_option maxHeartbeats 2000000 in
theorem stage_zero (t T2a T2b : List UInt8) (n : Nat) (ok : Bool) (w : World) (N : Int) (p2 : Nat) (hp1 : Int.tmod N 2 = (p2 : Int)) (hp2 : N % 2 = (p2 : Int)) (hp3 : Hid (p2 = n % 2)) (g1 : decide (N > 2139095040) = false) (_g2 : decide ((2139095040 : Int) < N) = false) (q1 : decide (N > 0) = false) (_q2 : decide ((0 : Int) < N) = false) (q3 : decide (N < 2139095040) = true) (N1 : Int) (hn1 : N + 1 = N1) (hn2 : IntKind.u32.wrap (N + 1) = N1) (hn3 : IntKind.u32.wrap N1 = N1)
    (HS : Hid (∀ w, Calls Tryd.prog 7 #[] w fun e w' => e = .returned (.bool true) ∧ Below w.heap.size w w'))
    (HN : Hid (∀ w, Calls Tryd.prog 8 #[.string ⟨t.toArray⟩] w fun e w' => e = .returned (.tuple #[.int .u32 N, .int .i64 0]) ∧ Below w.heap.size w w'))
    (HV : Hid (∀ w, Calls Tryd.prog 9 #[.string ⟨t.toArray⟩] w fun e w' => e = .returned (.bool true) ∧ Below w.heap.size w w'))
    (V2a : Hid (∀ w, Calls Tryd.prog 12 #[.int .u32 N] w fun e w' => e = .returned (.string ⟨T2a.toArray⟩) ∧ Below w.heap.size w w'))
    (V2b : Hid (∀ w, Calls Tryd.prog 12 #[.int .u32 N1] w fun e w' => e = .returned (.string ⟨T2b.toArray⟩) ∧ Below w.heap.size w w'))
    (S2 : Hid (∀ w, Calls Tryd.prog 11 #[.string ⟨T2a.toArray⟩, .string ⟨T2b.toArray⟩] w fun e w' => ∃ O : List UInt8, e = .returned (.string ⟨O.toArray⟩) ∧ (∀ w, Calls Tryd.prog 10 #[.string ⟨t.toArray⟩, .string ⟨O.toArray⟩] w fun e w' => ∃ X, e = .returned (.tuple #[.int .i64 X, .bool ok]) ∧ (ok = true → X ≤ 0 ∧ (X = 0 → n % 2 = 0)) ∧ Below w.heap.size w w') ∧ Below w.heap.size w w')) :
    Calls Tryd.prog 3 #[.string ⟨t.toArray⟩] w fun e w' => e = .returned (.bool true) ∧ Below w.heap.size w w' := by
  have hp4 := hp3.out
  have Hp4 : Hid (p2 = n % 2) := hp4
  have hpl : p2 < 2 := by rw [hp4]; exact Nat.mod_lt _ (by decide)
  clear hp4
  go_enter Tryd.func3, Tryd.ntmps3
  go_wp2_with fail
  refine (HS.out _).mono ?_
  rintro e w1 ⟨rfl, c1⟩
  go_wp2_with fail
  refine (HN.out _).mono ?_
  rintro e w2 ⟨rfl, hB2⟩
  have c2 := c1.trans (hB2.mono c1.size)
  go_wp2_with fail
  refine (HV.out _).mono ?_
  rintro e w3 ⟨rfl, hB3⟩
  have c3 := c2.trans (hB3.mono c2.size)
  clear hB2 hB3
  go_wp2_with fail
  refine (V2a.out _).mono ?_
  rintro e w4 ⟨rfl, hB4⟩
  have c4 := c3.trans (hB4.mono c3.size)
  go_wp2_with fail
  refine (V2b.out _).mono ?_
  rintro e w5 ⟨rfl, hB5⟩
  have c5 := c4.trans (hB5.mono c4.size)
  go_wp2_with fail
  refine (S2.out _).mono ?_
  rintro e w6 ⟨O2, rfl, htw2, hB6⟩
  have c6 := c5.trans (hB6.mono c5.size)
  have HTw2 : Hid (∀ w, Calls Tryd.prog 10 #[.string ⟨t.toArray⟩, .string ⟨O2.toArray⟩] w fun e w' => ∃ X, e = .returned (.tuple #[.int .i64 X, .bool ok]) ∧ (ok = true → X ≤ 0 ∧ (X = 0 → n % 2 = 0)) ∧ Below w.heap.size w w') := htw2
  clear htw2
  go_wp2_with fail
  refine (HTw2.out _).mono ?_
  rintro e w7 ⟨X2, rfl, hP2, hB7⟩
  have c7 := c6.trans (hB7.mono c6.size)
  have HP2 : Hid (ok = true → X2 ≤ 0 ∧ (X2 = 0 → n % 2 = 0)) := hP2
  clear hP2 hB4 hB5 hB6 hB7
  cases ok
  · skip
    go_wp2
    go_ret
    exact ⟨rfl, c7⟩
  · obtain ⟨x21, x22⟩ := HP2.out (by first | rfl | trivial)
    have l21 : decide (X2 > 0) = false := decide_eq_false (by omega)
    have l22 : decide (0 < X2) = false := decide_eq_false (by omega)
    by_cases x02 : X2 = 0
    · have z2 : (X2 == 0) = true := by simp [x02]
      have ev2 := x22 x02
      have od : ((p2 : Int) == 1) = false := by have h := Hp4.out; simp; omega
      clear x02
      go_wp2
      go_ret
      exact ⟨rfl, c7⟩
    · have z2 : (X2 == 0) = false := by simp [x02]
      clear x02
      go_wp2
      go_ret
      exact ⟨rfl, c7⟩

set_option maxRecDepth 10000 in
set_option maxHeartbeats 2000000 in
theorem stage_top (t T1a T1b : List UInt8) (n : Nat) (ok : Bool) (w : World) (N : Int) (p2 : Nat) (hp1 : Int.tmod N 2 = (p2 : Int)) (hp2 : N % 2 = (p2 : Int)) (hp3 : Hid (p2 = n % 2)) (g1 : decide (N > 2139095040) = false) (_g2 : decide ((2139095040 : Int) < N) = false) (q1 : decide (N > 0) = true) (_q2 : decide ((0 : Int) < N) = true) (q3 : decide (N < 2139095040) = false) (K : Int) (hk : N - 1 = K) (hk2 : IntKind.u32.wrap (N - 1) = K) (hk3 : IntKind.u32.wrap K = K)
    (HS : Hid (∀ w, Calls Tryd.prog 7 #[] w fun e w' => e = .returned (.bool true) ∧ Below w.heap.size w w'))
    (HN : Hid (∀ w, Calls Tryd.prog 8 #[.string ⟨t.toArray⟩] w fun e w' => e = .returned (.tuple #[.int .u32 N, .int .i64 0]) ∧ Below w.heap.size w w'))
    (HV : Hid (∀ w, Calls Tryd.prog 9 #[.string ⟨t.toArray⟩] w fun e w' => e = .returned (.bool true) ∧ Below w.heap.size w w'))
    (V1a : Hid (∀ w, Calls Tryd.prog 12 #[.int .u32 K] w fun e w' => e = .returned (.string ⟨T1a.toArray⟩) ∧ Below w.heap.size w w'))
    (V1b : Hid (∀ w, Calls Tryd.prog 12 #[.int .u32 N] w fun e w' => e = .returned (.string ⟨T1b.toArray⟩) ∧ Below w.heap.size w w'))
    (S1 : Hid (∀ w, Calls Tryd.prog 11 #[.string ⟨T1a.toArray⟩, .string ⟨T1b.toArray⟩] w fun e w' => ∃ O : List UInt8, e = .returned (.string ⟨O.toArray⟩) ∧ (∀ w, Calls Tryd.prog 10 #[.string ⟨t.toArray⟩, .string ⟨O.toArray⟩] w fun e w' => ∃ X, e = .returned (.tuple #[.int .i64 X, .bool ok]) ∧ (ok = true → 0 ≤ X ∧ (X = 0 → n % 2 = 0)) ∧ Below w.heap.size w w') ∧ Below w.heap.size w w')) :
    Calls Tryd.prog 3 #[.string ⟨t.toArray⟩] w fun e w' => e = .returned (.bool true) ∧ Below w.heap.size w w' := by
  have hp4 := hp3.out
  have Hp4 : Hid (p2 = n % 2) := hp4
  have hpl : p2 < 2 := by rw [hp4]; exact Nat.mod_lt _ (by decide)
  clear hp4
  go_enter Tryd.func3, Tryd.ntmps3
  go_wp2_with fail
  refine (HS.out _).mono ?_
  rintro e w1 ⟨rfl, c1⟩
  go_wp2_with fail
  refine (HN.out _).mono ?_
  rintro e w2 ⟨rfl, hB2⟩
  have c2 := c1.trans (hB2.mono c1.size)
  go_wp2_with fail
  refine (HV.out _).mono ?_
  rintro e w3 ⟨rfl, hB3⟩
  have c3 := c2.trans (hB3.mono c2.size)
  clear hB2 hB3
  go_wp2_with fail
  refine (V1a.out _).mono ?_
  rintro e w4 ⟨rfl, hB4⟩
  have c4 := c3.trans (hB4.mono c3.size)
  go_wp2_with fail
  refine (V1b.out _).mono ?_
  rintro e w5 ⟨rfl, hB5⟩
  have c5 := c4.trans (hB5.mono c4.size)
  go_wp2_with fail
  refine (S1.out _).mono ?_
  rintro e w6 ⟨O1, rfl, htw1, hB6⟩
  have c6 := c5.trans (hB6.mono c5.size)
  have HTw1 : Hid (∀ w, Calls Tryd.prog 10 #[.string ⟨t.toArray⟩, .string ⟨O1.toArray⟩] w fun e w' => ∃ X, e = .returned (.tuple #[.int .i64 X, .bool ok]) ∧ (ok = true → 0 ≤ X ∧ (X = 0 → n % 2 = 0)) ∧ Below w.heap.size w w') := htw1
  clear htw1
  go_wp2_with fail
  refine (HTw1.out _).mono ?_
  rintro e w7 ⟨X1, rfl, hP1, hB7⟩
  have c7 := c6.trans (hB7.mono c6.size)
  have HP1 : Hid (ok = true → 0 ≤ X1 ∧ (X1 = 0 → n % 2 = 0)) := hP1
  clear hP1 hB4 hB5 hB6 hB7
  cases ok
  · skip
    go_wp2
    go_ret
    exact ⟨rfl, c7⟩
  · obtain ⟨x11, x12⟩ := HP1.out (by first | rfl | trivial)
    have l11 : decide (X1 < 0) = false := decide_eq_false (by omega)
    by_cases x01 : X1 = 0
    · have z1 : (X1 == 0) = true := by simp [x01]
      have ev1 := x12 x01
      have od : ((p2 : Int) == 1) = false := by have h := Hp4.out; simp; omega
      clear x01
      go_wp2
      go_ret
      exact ⟨rfl, c7⟩
    · have z1 : (X1 == 0) = false := by simp [x01]
      clear x01
      go_wp2
      go_ret
      exact ⟨rfl, c7⟩

set_option maxRecDepth 10000 in
set_option maxHeartbeats 4000000 in
theorem stage_mid (t T1a T1b T2a T2b : List UInt8) (n : Nat) (ok : Bool) (w : World) (N : Int) (p2 : Nat) (hp1 : Int.tmod N 2 = (p2 : Int)) (hp2 : N % 2 = (p2 : Int)) (hp3 : Hid (p2 = n % 2)) (g1 : decide (N > 2139095040) = false) (_g2 : decide ((2139095040 : Int) < N) = false) (q1 : decide (N > 0) = true) (_q2 : decide ((0 : Int) < N) = true) (q3 : decide (N < 2139095040) = true) (K : Int) (hk : N - 1 = K) (hk2 : IntKind.u32.wrap (N - 1) = K) (hk3 : IntKind.u32.wrap K = K) (N1 : Int) (hn1 : N + 1 = N1) (hn2 : IntKind.u32.wrap (N + 1) = N1) (hn3 : IntKind.u32.wrap N1 = N1)
    (HS : Hid (∀ w, Calls Tryd.prog 7 #[] w fun e w' => e = .returned (.bool true) ∧ Below w.heap.size w w'))
    (HN : Hid (∀ w, Calls Tryd.prog 8 #[.string ⟨t.toArray⟩] w fun e w' => e = .returned (.tuple #[.int .u32 N, .int .i64 0]) ∧ Below w.heap.size w w'))
    (HV : Hid (∀ w, Calls Tryd.prog 9 #[.string ⟨t.toArray⟩] w fun e w' => e = .returned (.bool true) ∧ Below w.heap.size w w'))
    (V1a : Hid (∀ w, Calls Tryd.prog 12 #[.int .u32 K] w fun e w' => e = .returned (.string ⟨T1a.toArray⟩) ∧ Below w.heap.size w w'))
    (V1b : Hid (∀ w, Calls Tryd.prog 12 #[.int .u32 N] w fun e w' => e = .returned (.string ⟨T1b.toArray⟩) ∧ Below w.heap.size w w'))
    (S1 : Hid (∀ w, Calls Tryd.prog 11 #[.string ⟨T1a.toArray⟩, .string ⟨T1b.toArray⟩] w fun e w' => ∃ O : List UInt8, e = .returned (.string ⟨O.toArray⟩) ∧ (∀ w, Calls Tryd.prog 10 #[.string ⟨t.toArray⟩, .string ⟨O.toArray⟩] w fun e w' => ∃ X, e = .returned (.tuple #[.int .i64 X, .bool ok]) ∧ (ok = true → 0 ≤ X ∧ (X = 0 → n % 2 = 0)) ∧ Below w.heap.size w w') ∧ Below w.heap.size w w'))
    (V2a : Hid (∀ w, Calls Tryd.prog 12 #[.int .u32 N] w fun e w' => e = .returned (.string ⟨T2a.toArray⟩) ∧ Below w.heap.size w w'))
    (V2b : Hid (∀ w, Calls Tryd.prog 12 #[.int .u32 N1] w fun e w' => e = .returned (.string ⟨T2b.toArray⟩) ∧ Below w.heap.size w w'))
    (S2 : Hid (∀ w, Calls Tryd.prog 11 #[.string ⟨T2a.toArray⟩, .string ⟨T2b.toArray⟩] w fun e w' => ∃ O : List UInt8, e = .returned (.string ⟨O.toArray⟩) ∧ (∀ w, Calls Tryd.prog 10 #[.string ⟨t.toArray⟩, .string ⟨O.toArray⟩] w fun e w' => ∃ X, e = .returned (.tuple #[.int .i64 X, .bool ok]) ∧ (ok = true → X ≤ 0 ∧ (X = 0 → n % 2 = 0)) ∧ Below w.heap.size w w') ∧ Below w.heap.size w w')) :
    Calls Tryd.prog 3 #[.string ⟨t.toArray⟩] w fun e w' => e = .returned (.bool true) ∧ Below w.heap.size w w' := by
  have hp4 := hp3.out
  have Hp4 : Hid (p2 = n % 2) := hp4
  have hpl : p2 < 2 := by rw [hp4]; exact Nat.mod_lt _ (by decide)
  clear hp4
  go_enter Tryd.func3, Tryd.ntmps3
  go_wp2_with fail
  refine (HS.out _).mono ?_
  rintro e w1 ⟨rfl, c1⟩
  go_wp2_with fail
  refine (HN.out _).mono ?_
  rintro e w2 ⟨rfl, hB2⟩
  have c2 := c1.trans (hB2.mono c1.size)
  go_wp2_with fail
  refine (HV.out _).mono ?_
  rintro e w3 ⟨rfl, hB3⟩
  have c3 := c2.trans (hB3.mono c2.size)
  clear hB2 hB3
  go_wp2_with fail
  refine (V1a.out _).mono ?_
  rintro e w4 ⟨rfl, hB4⟩
  have c4 := c3.trans (hB4.mono c3.size)
  go_wp2_with fail
  refine (V1b.out _).mono ?_
  rintro e w5 ⟨rfl, hB5⟩
  have c5 := c4.trans (hB5.mono c4.size)
  go_wp2_with fail
  refine (S1.out _).mono ?_
  rintro e w6 ⟨O1, rfl, htw1, hB6⟩
  have c6 := c5.trans (hB6.mono c5.size)
  have HTw1 : Hid (∀ w, Calls Tryd.prog 10 #[.string ⟨t.toArray⟩, .string ⟨O1.toArray⟩] w fun e w' => ∃ X, e = .returned (.tuple #[.int .i64 X, .bool ok]) ∧ (ok = true → 0 ≤ X ∧ (X = 0 → n % 2 = 0)) ∧ Below w.heap.size w w') := htw1
  clear htw1
  go_wp2_with fail
  refine (HTw1.out _).mono ?_
  rintro e w7 ⟨X1, rfl, hP1, hB7⟩
  have c7 := c6.trans (hB7.mono c6.size)
  have HP1 : Hid (ok = true → 0 ≤ X1 ∧ (X1 = 0 → n % 2 = 0)) := hP1
  clear hP1 hB4 hB5 hB6 hB7
  cases ok
  · skip
    go_wp2_with fail
    refine (V2a.out _).mono ?_
    rintro e w8 ⟨rfl, hB8⟩
    have c8 := c7.trans (hB8.mono c7.size)
    go_wp2_with fail
    refine (V2b.out _).mono ?_
    rintro e w9 ⟨rfl, hB9⟩
    have c9 := c8.trans (hB9.mono c8.size)
    go_wp2_with fail
    refine (S2.out _).mono ?_
    rintro e w10 ⟨O2, rfl, htw2, hB10⟩
    have c10 := c9.trans (hB10.mono c9.size)
    go_wp2_with fail
    refine (htw2 _).mono ?_
    rintro e w11 ⟨X2, rfl, hP2, hB11⟩
    have c11 := c10.trans (hB11.mono c10.size)
    have HP2 : Hid (false = true → X2 ≤ 0 ∧ (X2 = 0 → n % 2 = 0)) := hP2
    clear hP2 htw2 hB8 hB9 hB10 hB11
    go_wp2
    go_ret
    exact ⟨rfl, c11⟩
  · obtain ⟨x11, x12⟩ := HP1.out (by first | rfl | trivial)
    have l11 : decide (X1 < 0) = false := decide_eq_false (by omega)
    by_cases x01 : X1 = 0
    · have z1 : (X1 == 0) = true := by simp [x01]
      have ev1 := x12 x01
      have od : ((p2 : Int) == 1) = false := by have h := Hp4.out; simp; omega
      clear x01
      go_wp2_with fail
      refine (V2a.out _).mono ?_
      rintro e w8 ⟨rfl, hB8⟩
      have c8 := c7.trans (hB8.mono c7.size)
      go_wp2_with fail
      refine (V2b.out _).mono ?_
      rintro e w9 ⟨rfl, hB9⟩
      have c9 := c8.trans (hB9.mono c8.size)
      go_wp2_with fail
      refine (S2.out _).mono ?_
      rintro e w10 ⟨O2, rfl, htw2, hB10⟩
      have c10 := c9.trans (hB10.mono c9.size)
      go_wp2_with fail
      refine (htw2 _).mono ?_
      rintro e w11 ⟨X2, rfl, hP2, hB11⟩
      have c11 := c10.trans (hB11.mono c10.size)
      have HP2 : Hid (X2 ≤ 0 ∧ (X2 = 0 → n % 2 = 0)) := hP2 (by first | rfl | trivial)
      clear hP2 htw2 hB8 hB9 hB10 hB11
      obtain ⟨x21, x22⟩ := HP2.out
      have l21 : decide (X2 > 0) = false := decide_eq_false (by omega)
      have l22 : decide (0 < X2) = false := decide_eq_false (by omega)
      by_cases x02 : X2 = 0
      · have z2 : (X2 == 0) = true := by simp [x02]
        have ev2 := x22 x02
        have od2 : ((p2 : Int) == 1) = false := by have h := Hp4.out; simp; omega
        clear x02
        go_wp2
        go_ret
        exact ⟨rfl, c11⟩
      · have z2 : (X2 == 0) = false := by simp [x02]
        clear x02
        go_wp2
        go_ret
        exact ⟨rfl, c11⟩
    · have z1 : (X1 == 0) = false := by simp [x01]
      clear x01
      go_wp2_with fail
      refine (V2a.out _).mono ?_
      rintro e w8 ⟨rfl, hB8⟩
      have c8 := c7.trans (hB8.mono c7.size)
      go_wp2_with fail
      refine (V2b.out _).mono ?_
      rintro e w9 ⟨rfl, hB9⟩
      have c9 := c8.trans (hB9.mono c8.size)
      go_wp2_with fail
      refine (S2.out _).mono ?_
      rintro e w10 ⟨O2, rfl, htw2, hB10⟩
      have c10 := c9.trans (hB10.mono c9.size)
      go_wp2_with fail
      refine (htw2 _).mono ?_
      rintro e w11 ⟨X2, rfl, hP2, hB11⟩
      have c11 := c10.trans (hB11.mono c10.size)
      have HP2 : Hid (X2 ≤ 0 ∧ (X2 = 0 → n % 2 = 0)) := hP2 (by first | rfl | trivial)
      clear hP2 htw2 hB8 hB9 hB10 hB11
      obtain ⟨x21, x22⟩ := HP2.out
      have l21 : decide (X2 > 0) = false := decide_eq_false (by omega)
      have l22 : decide (0 < X2) = false := decide_eq_false (by omega)
      by_cases x02 : X2 = 0
      · have z2 : (X2 == 0) = true := by simp [x02]
        have ev2 := x22 x02
        have od2 : ((p2 : Int) == 1) = false := by have h := Hp4.out; simp; omega
        clear x02
        go_wp2
        go_ret
        exact ⟨rfl, c11⟩
      · have z2 : (X2 == 0) = false := by simp [x02]
        clear x02
        go_wp2
        go_ret
        exact ⟨rfl, c11⟩


theorem rnd_exists (num den : Nat) : ∃ b, Rnd num den b := by
  obtain ⟨I, hI⟩ : ∃ I, I = 2139095040 := ⟨_, rfl⟩
  have key : ∀ n, (∃ b, b ≤ n ∧ (b = I ∨ (2 * num < den * (FV b + FV (b + 1)) ∨ 2 * num = den * (FV b + FV (b + 1)) ∧ b % 2 = 0)) ∧ ∀ a, a < b → ¬ (a = I ∨ (2 * num < den * (FV a + FV (a + 1)) ∨ 2 * num = den * (FV a + FV (a + 1)) ∧ a % 2 = 0))) ∨ ∀ a, a ≤ n → ¬ (a = I ∨ (2 * num < den * (FV a + FV (a + 1)) ∨ 2 * num = den * (FV a + FV (a + 1)) ∧ a % 2 = 0)) := by
    intro n
    induction n with
    | zero =>
      by_cases h : (0 = I ∨ (2 * num < den * (FV 0 + FV (0 + 1)) ∨ 2 * num = den * (FV 0 + FV (0 + 1)) ∧ 0 % 2 = 0))
      · exact .inl ⟨0, Nat.le_refl _, h, fun a ha => by omega⟩
      · right
        intro a ha
        obtain rfl : a = 0 := by omega
        exact h
    | succ n ih =>
      rcases ih with ⟨b, h1, h2, h3⟩ | h
      · exact .inl ⟨b, by omega, h2, h3⟩
      · by_cases hn : (n + 1 = I ∨ (2 * num < den * (FV (n + 1) + FV (n + 1 + 1)) ∨ 2 * num = den * (FV (n + 1) + FV (n + 1 + 1)) ∧ (n + 1) % 2 = 0))
        · exact .inl ⟨n + 1, Nat.le_refl _, hn, fun a ha => h a (by omega)⟩
        · right
          intro a ha
          by_cases e : a = n + 1
          · subst e; exact hn
          · exact h a (by omega)
  rcases key I with ⟨b, h1, h2, h3⟩ | h
  · refine ⟨b, by rw [← hI]; exact h1, fun a ha => ?_, fun hb => ?_⟩
    · have hn := h3 a (by omega)
      subst ha
      have hn2 : ¬ (2 * num < den * (FV a + FV (a + 1)) ∨ 2 * num = den * (FV a + FV (a + 1)) ∧ a % 2 = 0) := fun h => hn (.inr h)
      generalize den * (FV a + FV (a + 1)) = M at hn2
      omega
    · rcases h2 with h2 | h2
      · rw [hI] at h2; omega
      · exact h2
  · exact absurd (.inl rfl) (h I (Nat.le_refl _))

theorem pcut_minus3 {l : List UInt8} {x : PartsM} (h : pcut l = some x) : x.1 = decide (l.head? = some 45) := by
  unfold pcut pcut1 pcut2 pcut3 pcut4 at h
  generalize decide (l.head? = some 45) = m at h
  split at h
  · cases h
  split at h
  · cases h
  split at h
  · cases h
  split at h
  · cases h; rfl
  · cases h

theorem near_fix (t : List UInt8) (x : PartsM) (hx : pcut t = some x) (hl : t.length ≤ 1073741824) : ∃ b : Nat, NearS x b ∧ ∀ w, Calls Tryd.prog 8 #[.string ⟨t.toArray⟩] w fun e w' => e = .returned (.tuple #[.int .u32 (sbits x.1 b : Int), .int .i64 0]) ∧ Below w.heap.size w w' := by
  obtain ⟨b, hb⟩ := rnd_exists (vU (zof x) (Pof x) * 2 ^ 160) (vD (zof x) (Pof x))
  refine ⟨b, hb, fun w => ?_⟩
  refine (nearest_some_any t w x hx hl).mono ?_
  rintro e w' ⟨c, rfl, hc, hB⟩
  have : c = b := hc.one hb (vD_pos _ _) (vD_pos _ _) rfl
  rw [this]
  exact ⟨rfl, hB⟩

theorem okC_exp (t : List UInt8) (h : t.all okC = true) : ∀ c ∈ t, c ≠ 101 ∧ c ≠ 69 := fun c hc => by
  have := List.all_eq_true.1 h c hc
  constructor
  · rintro rfl; exact absurd this (by decide)
  · rintro rfl; exact absurd this (by decide)

/-- One half of the law: how twice the text stands to the sum of two float32s side by side. -/
theorem half_any (t : List UInt8) (x : PartsM) (hx : pcut t = some x) (hm : x.1 = false) (hl : t.length ≤ 1048576) (a b : Nat) (ha : a ≤ 2139095040) (hb : b ≤ 2139095040) (P : Int → Prop)
    (hP : P (cmp3 ((2 * (vU (zof x) (Pof x) * 2 ^ 160) : Nat) : Int) ((vD (zof x) (Pof x) * (FV a + FV b) : Nat) : Int))) :
    ∃ Ta Tb : List UInt8, (∀ w, Calls Tryd.prog 12 #[.int .u32 (a : Int)] w fun e w' => e = .returned (.string ⟨Ta.toArray⟩) ∧ Below w.heap.size w w') ∧ (∀ w, Calls Tryd.prog 12 #[.int .u32 (b : Int)] w fun e w' => e = .returned (.string ⟨Tb.toArray⟩) ∧ Below w.heap.size w w') ∧
      (∀ w, Calls Tryd.prog 11 #[.string ⟨Ta.toArray⟩, .string ⟨Tb.toArray⟩] w fun e w' => ∃ O : List UInt8, e = .returned (.string ⟨O.toArray⟩) ∧ (∀ w, Calls Tryd.prog 10 #[.string ⟨t.toArray⟩, .string ⟨O.toArray⟩] w fun e w' => ∃ X, e = .returned (.tuple #[.int .i64 X, .bool (t.all okC)]) ∧ (t.all okC = true → P X) ∧ Below w.heap.size w w') ∧ Below w.heap.size w w') := by
  obtain ⟨ga, fa, ea, va⟩ := value_any a ha
  obtain ⟨gb, fb, eb, vb⟩ := value_any b hb
  have la := exf_le ea
  have lb := exf_le eb
  refine ⟨txt false ga fa, txt false gb fb, va, vb, fun w => ?_⟩
  refine (sum_any ga fa gb fb w ea.dg ea.df eb.dg eb.df ea.ne (by omega) (by omega)).mono ?_
  rintro e w' ⟨G, F, rfl, hS, hB⟩
  refine ⟨txt false G F, rfl, fun w => ?_, hB⟩
  have hSl := hS.2.2.2.2.1
  have hSg := hS.2.2.2.2.2.1
  have hOl := txt_len false G F
  have hpO := pcut_txt false G F hS.1 hS.2.1 hS.2.2.1 hS.2.2.2.1
  have hcl := fun w => lcut_any t w (by omega)
  have hAl : (dotA t).length ≤ t.length := (List.takeWhile_sublist _).length_le
  have hVl : (dotB t).length ≤ t.length := by
    unfold dotB
    rw [List.length_tail]
    have := (List.dropWhile_sublist (l := t) (fun c : UInt8 => !(c == 46))).length_le
    omega
  have plain : t.all okC = true → ∃ g f, x = (false, g, f, false, []) ∧ t = txt false g f ∧ allD g ∧ allD f ∧ g ≠ [] := fun h => by
    obtain ⟨m, g, f, e1, e2, e3, e4, e5⟩ := pcut_noexp hx (okC_exp t h)
    rw [e1] at hm
    obtain rfl : m = false := hm
    exact ⟨g, f, e1, e2, e3, e4, e5⟩
  refine twice_any t (txt false G F) (dotA t) (dotB t) w (by omega) (by omega) (by omega) (t.all okC) rfl (fun h => ?_) P hcl (fun h w => ?_)
  · obtain ⟨g, f, _, e2, e3, e4, _⟩ := plain h
    rw [e2, dotA_txt g f e3, dotB_txt false g f e3]
    unfold txt
    by_cases hf : f = []
    · rw [if_pos hf, if_pos hf]; simp
    · rw [if_neg hf, if_neg hf]; simp
  · obtain ⟨g, f, e1, e2, e3, e4, e5⟩ := plain h
    have hgf : g.length + f.length ≤ t.length := by
      rw [e2]
      unfold txt
      by_cases hf : f = []
      · rw [hf]; simp
      · rw [if_neg hf]; simp
    have hsum := sum_any g f g f w e3 e4 e3 e4 e5 (by omega) (by omega)
    rw [← e2] at hsum
    refine hsum.mono ?_
    rintro e w' ⟨G1, F1, rfl, hD, hB⟩
    refine ⟨txt false G1 F1, rfl, fun w => ?_, hB⟩
    have hDl := hD.2.2.2.2.1
    have hDg := hD.2.2.2.2.2.1
    have hDt := txt_len false G1 F1
    have hpD := pcut_txt false G1 F1 hD.1 hD.2.1 hD.2.2.1 hD.2.2.2.1
    refine (compare_key hpD hpO (by omega) (by omega) w).mono ?_
    rintro e w' ⟨rfl, hB⟩
    refine ⟨_, rfl, ?_, hB⟩
    rw [twice_mid a b g f ga fa gb fb G F G1 F1 e3 e4 hD hS ea eb]
    rw [e1] at hP
    exact hP

theorem stage_law (t : List UInt8) (w : World) (hl : t.length ≤ 1048576) :
    Calls Tryd.prog 3 #[.string ⟨t.toArray⟩] w fun e w' => e = .returned (.bool true) ∧ Below w.heap.size w w' := by
  have hv := fun w => valid_any t w (by omega)
  rcases hx : pcut t with _ | x
  · rw [hx] at hv
    exact stage_none t w started_any (fun w => nearest_none_any t w hx (by omega)) hv
  · rw [hx] at hv
    obtain ⟨n, hn, HN⟩ := near_fix t x hx (by omega)
    have hnI := hn.1
    cases hm : x.1
    · rw [hm] at HN
      have c := @cmp3_of
      have low : ∀ k, n = k + 1 → (0 ≤ cmp3 ((2 * (vU (zof x) (Pof x) * 2 ^ 160) : Nat) : Int) ((vD (zof x) (Pof x) * (FV k + FV n) : Nat) : Int) ∧ (cmp3 ((2 * (vU (zof x) (Pof x) * 2 ^ 160) : Nat) : Int) ((vD (zof x) (Pof x) * (FV k + FV n) : Nat) : Int) = 0 → n % 2 = 0)) := fun k hk => by
        have h := hn.2.1 k hk
        generalize 2 * (vU (zof x) (Pof x) * 2 ^ 160) = A at h
        generalize vD (zof x) (Pof x) * (FV k + FV n) = M at h
        have c := @cmp3_of (A : Int) (M : Int)
        rcases h with h | h
        · rw [c.2.2 (by omega)]; exact ⟨by decide, fun e => by cases e⟩
        · rw [c.2.1 (by omega)]; exact ⟨by decide, fun _ => h.2⟩
      have high : n < 2139095040 → (cmp3 ((2 * (vU (zof x) (Pof x) * 2 ^ 160) : Nat) : Int) ((vD (zof x) (Pof x) * (FV n + FV (n + 1)) : Nat) : Int) ≤ 0 ∧ (cmp3 ((2 * (vU (zof x) (Pof x) * 2 ^ 160) : Nat) : Int) ((vD (zof x) (Pof x) * (FV n + FV (n + 1)) : Nat) : Int) = 0 → n % 2 = 0)) := fun hlt => by
        have h := hn.2.2 hlt
        generalize 2 * (vU (zof x) (Pof x) * 2 ^ 160) = A at h
        generalize vD (zof x) (Pof x) * (FV n + FV (n + 1)) = M at h
        have c := @cmp3_of (A : Int) (M : Int)
        rcases h with h | h
        · rw [c.1 (by omega)]; exact ⟨by decide, fun e => by cases e⟩
        · rw [c.2.1 (by omega)]; exact ⟨by decide, fun _ => h.2⟩
      have g1 : decide ((n : Int) > 2139095040) = false := decide_eq_false (by omega)
      have hp1 : Int.tmod (n : Int) 2 = ((n % 2 : Nat) : Int) := by rw [Int.tmod_eq_emod_of_nonneg (by omega)]; omega
      have hp2 : (n : Int) % 2 = ((n % 2 : Nat) : Int) := by omega
      have hN : ∀ w, Calls Tryd.prog 8 #[.string ⟨t.toArray⟩] w fun e w' => e = .returned (.tuple #[.int .u32 (n : Int), .int .i64 0]) ∧ Below w.heap.size w w' := HN
      rcases Nat.eq_zero_or_pos n with h0 | h0
      · obtain ⟨Ta, Tb, v1, v2, s⟩ := half_any t x hx hm hl n (n + 1) (by omega) (by omega) (fun X => X ≤ 0 ∧ (X = 0 → n % 2 = 0)) (high (by omega))
        exact stage_zero t Ta Tb n (t.all okC) w (n : Int) (n % 2) hp1 hp2 rfl g1 g1 (decide_eq_false (by omega)) (decide_eq_false (by omega)) (decide_eq_true (by omega)) ((n + 1 : Nat) : Int) (by omega) (by rw [IntKind.wrap_u32]; omega) (by rw [IntKind.wrap_u32]; omega) started_any hN hv v1 v2 s
      · obtain ⟨k, hk⟩ : ∃ k, n = k + 1 := ⟨n - 1, by omega⟩
        obtain ⟨Ta, Tb, v1, v2, s⟩ := half_any t x hx hm hl k n (by omega) (by omega) (fun X => 0 ≤ X ∧ (X = 0 → n % 2 = 0)) (low k hk)
        by_cases htop : n < 2139095040
        · obtain ⟨Tc, Td, v3, v4, s2⟩ := half_any t x hx hm hl n (n + 1) (by omega) (by omega) (fun X => X ≤ 0 ∧ (X = 0 → n % 2 = 0)) (high htop)
          exact stage_mid t Ta Tb Tc Td n (t.all okC) w (n : Int) (n % 2) hp1 hp2 rfl g1 g1 (decide_eq_true (by omega)) (decide_eq_true (by omega)) (decide_eq_true (by omega)) (k : Int) (by omega) (by rw [IntKind.wrap_u32]; omega) (by rw [IntKind.wrap_u32]; omega) ((n + 1 : Nat) : Int) (by omega) (by rw [IntKind.wrap_u32]; omega) (by rw [IntKind.wrap_u32]; omega) started_any hN hv v1 v2 s v3 v4 s2
        · exact stage_top t Ta Tb n (t.all okC) w (n : Int) (n % 2) hp1 hp2 rfl g1 g1 (decide_eq_true (by omega)) (decide_eq_true (by omega)) (decide_eq_false (by omega)) (k : Int) (by omega) (by rw [IntKind.wrap_u32]; omega) (by rw [IntKind.wrap_u32]; omega) started_any hN hv v1 v2 s
    · rw [hm] at HN
      have hh := pcut_minus3 hx
      rw [hm] at hh
      obtain ⟨r, hr⟩ : ∃ r, t = 45 :: r := by
        cases t with
        | nil => simp at hh
        | cons c r =>
          have : c = 45 := by simpa using hh.symm
          exact ⟨r, by rw [this]⟩
      exact stage_minus t r hr (by rw [hr]; simp) (sbits true n) (decide_eq_true (by unfold sbits; rw [if_pos rfl]; omega)) (decide_eq_true (by unfold sbits; rw [if_pos rfl]; omega)) w (by omega) started_any HN hv

end Go.Proofs.YtgkbbcoagnilgabDoor
