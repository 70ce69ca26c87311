import Derived.Test.YtgkbbcoagnilgabDoorStageM
import Derived.Test.YtgkbbcoagnilgabDoorStarted
namespace Go.Proofs.YtgkbbcoagnilgabDoor
open Go.RowKit

set_option maxHeartbeats 400000 in
theorem value_inf (w : World) : Calls Tryd.prog 12 #[.int .u32 2139095040] w fun e w' => e = .returned (.string ⟨beyondT.toArray⟩) ∧ Below w.heap.size w w' := by
  go_enter Tryd.func12, Tryd.ntmps12
  go_wp2
  go_ret
  exact ⟨rfl, Below.refl _ _⟩

set_option maxHeartbeats 400000 in
theorem value_fin (b : Nat) (T : List UInt8) (w : World) (hq : ((b : Int) == 2139095040) = false)
    (HE : Hid (∀ w, Calls Tryd.prog 18 #[.int .u32 (b : Int)] w fun e w' => e = .returned (.string ⟨T.toArray⟩) ∧ Below w.heap.size w w')) :
    Calls Tryd.prog 12 #[.int .u32 (b : Int)] w fun e w' => e = .returned (.string ⟨T.toArray⟩) ∧ Below w.heap.size w w' := by
  go_enter Tryd.func12, Tryd.ntmps12
  go_wp2_with fail
  refine (HE.out _).mono ?_
  rintro e w1 ⟨rfl, c1⟩
  go_wp2
  go_ret
  exact ⟨rfl, c1⟩

theorem value_any (b : Nat) (hb : b ≤ 2139095040) : ∃ g f, ExF b g f ∧ ∀ w, Calls Tryd.prog 12 #[.int .u32 (b : Int)] w fun e w' => e = .returned (.string ⟨(txt false g f).toArray⟩) ∧ Below w.heap.size w w' := by
  by_cases h : b = 2139095040
  · subst h
    exact ⟨beyondT, [], beyond_exf, fun w => value_inf w⟩
  · have hm : b % 2147483648 = b := Nat.mod_eq_of_lt (by omega)
    obtain ⟨g, f, hx, hF⟩ := exact_txt b (by rw [hm]; omega)
    rw [hm] at hF
    have hd : decide (2147483648 ≤ b) = false := decide_eq_false (by omega)
    rw [hd] at hx
    refine ⟨g, f, hF, fun w => value_fin b _ w (by simp; omega) (fun w => ?_)⟩
    have he := exact_any b w (by omega)
    rw [hx] at he
    exact he

/-- May the sign stand in a number without minus and exponent? -/
def okC (c : UInt8) : Bool := c == 46 || isD c

set_option maxRecDepth 10000 in
set_option maxHeartbeats 1000000 in
theorem twice_any (T O A V : List UInt8) (w : World) (hT : T.length ≤ 2000000) (hAl : A.length ≤ 2000000) (hVl : V.length ≤ 2000000) (ok : Bool) (hok : Hid (ok = T.all okC)) (hTe : Hid (ok = true → T = if V = [] then A else A ++ [46] ++ V)) (P : Int → Prop)
    (HC : Hid (∀ w, Calls Tryd.prog 22 #[.string ⟨T.toArray⟩] w fun e w' => e = .returned (.tuple #[.string ⟨A.toArray⟩, .string ⟨V.toArray⟩]) ∧ ∃ q, w' = w.drewN q))
    (HS : Hid (ok = true → ∀ w, Calls Tryd.prog 11 #[.string ⟨T.toArray⟩, .string ⟨T.toArray⟩] w fun e w' => ∃ D : List UInt8, e = .returned (.string ⟨D.toArray⟩) ∧ (∀ w, Calls Tryd.prog 16 #[.string ⟨D.toArray⟩, .string ⟨O.toArray⟩] w fun e w' => ∃ X, e = .returned (.tuple #[.int .i64 X, .int .i64 0]) ∧ P X ∧ Below w.heap.size w w') ∧ Below w.heap.size w w')) :
    Calls Tryd.prog 10 #[.string ⟨T.toArray⟩, .string ⟨O.toArray⟩] w fun e w' => ∃ X, e = .returned (.tuple #[.int .i64 X, .bool ok]) ∧ (ok = true → P X) ∧ Below w.heap.size w w' := by
  go_enter Tryd.func10, Tryd.ntmps10
  go_wp2_with fail
  refine (HC.out _).mono ?_
  rintro e w1 ⟨rfl, q1, rfl⟩
  go_wp2
  go_loop [8] (fun s8 => ∃ j : Nat, s8 = .int .i64 (j : Int) ∧ j ≤ T.length ∧ Hid (∀ i (_ : i < j) (hl : i < T.length), okC T[i] = true)) (fun s => T.length - (intOf s).toNat)
  case atStart => exact ⟨0, rfl, Nat.zero_le _, fun i hi => by omega⟩
  case round =>
    obtain ⟨j, rfl, hj, Hj⟩ := hrel
    by_cases hlt : j < T.length
    · obtain ⟨c, hc⟩ : ∃ c, T[j] = c := ⟨_, rfl⟩
      have gx : (ByteArray.mk T.toArray)[j]'(by show j < T.toArray.size; simpa using hlt) = c := by rw [← hc]; rfl
      have Hnext : Hid (okC c = true → ∀ i (_ : i < j + 1) (hl : i < T.length), okC T[i] = true) := fun h i hi hl => by
        by_cases e : i = j
        · subst e; rw [hc]; exact h
        · exact Hj.out i (by omega) hl
      have Hbad : Hid (okC c = false → ok = false) := fun h => by
        rw [hok.out, List.all_eq_false]
        exact ⟨c, by rw [← hc]; exact List.getElem_mem hlt, by rw [h]; decide⟩
      clear hc
      by_cases h46 : c = 46
      · have hq : ((c.toNat : Int) != 46) = false := by rw [h46]; rfl
        have Hj2 : Hid (∀ i (_ : i < j + 1) (hl : i < T.length), okC T[i] = true) := Hnext.out (by rw [h46]; decide)
        clear h46 Hnext Hbad
        go_wp2
        go_round
        case rel => exact ⟨j + 1, by go_num, by omega, Hj2⟩
        case measure => simp [intOf]; omega
      · have hc46 : c.toNat ≠ 46 := fun e => h46 (UInt8.toNat_inj.1 e)
        have hq : ((c.toNat : Int) != 46) = true := by simp; omega
        by_cases hlo : c.toNat < 48
        · have Hok : Hid (ok = false) := Hbad.out (by unfold okC isD; simp [h46]; omega)
          clear h46 Hnext Hbad
          go_wp2
          go_ret2
          rw [Hok.out]
          exact ⟨0, rfl, (fun h => by cases h), below_drewN (Below.refl _ _) _⟩
        · by_cases hhi : 57 < c.toNat
          · have Hok : Hid (ok = false) := Hbad.out (by unfold okC isD; simp [h46]; omega)
            clear h46 Hnext Hbad
            go_wp2
            go_ret2
            rw [Hok.out]
            exact ⟨0, rfl, (fun h => by cases h), below_drewN (Below.refl _ _) _⟩
          · have Hj2 : Hid (∀ i (_ : i < j + 1) (hl : i < T.length), okC T[i] = true) := Hnext.out (by unfold okC isD; simp; right; omega)
            clear h46 Hnext Hbad
            go_wp2
            go_round
            case rel => exact ⟨j + 1, by go_num, by omega, Hj2⟩
            case measure => simp [intOf]; omega
    · have Hok : Hid (ok = true) := by
        show _ = _
        rw [hok.out, List.all_eq_true]
        intro x hx
        obtain ⟨i, hi, rfl⟩ := List.getElem_of_mem hx
        exact Hj.out i (by omega) hi
      have HS2 : Hid (∀ w, Calls Tryd.prog 11 #[.string ⟨T.toArray⟩, .string ⟨T.toArray⟩] w fun e w' => ∃ D : List UInt8, e = .returned (.string ⟨D.toArray⟩) ∧ (∀ w, Calls Tryd.prog 16 #[.string ⟨D.toArray⟩, .string ⟨O.toArray⟩] w fun e w' => ∃ X, e = .returned (.tuple #[.int .i64 X, .int .i64 0]) ∧ P X ∧ Below w.heap.size w w') ∧ Below w.heap.size w w') := HS.out Hok.out
      have HT2 := hTe.out Hok.out
      clear Hj
      by_cases hV : V = []
      · rw [if_pos hV] at HT2
        have hVe : V.isEmpty = true := by rw [hV]; rfl
        have HTA : Hid (T = A) := HT2
        rw [HT2] at HS2
        clear HT2 hV
        go_wp2_with fail
        refine (HS2.out _).mono ?_
        rintro e w2 ⟨D, rfl, hcmp, hB2⟩
        have c2 := (below_drewN (Below.refl w.heap.size w) q1).trans hB2
        have Hcmp : Hid (∀ w, Calls Tryd.prog 16 #[.string ⟨D.toArray⟩, .string ⟨O.toArray⟩] w fun e w' => ∃ X, e = .returned (.tuple #[.int .i64 X, .int .i64 0]) ∧ P X ∧ Below w.heap.size w w') := hcmp
        clear hcmp hB2
        go_wp2_with fail
        refine (Hcmp.out _).mono ?_
        rintro e w3 ⟨X, rfl, hX, hB3⟩
        have c3 := c2.trans (hB3.mono c2.size)
        have HX : Hid (P X) := hX
        clear hX hB3
        go_wp2
        go_ret2
        rw [Hok.out]
        exact ⟨X, rfl, fun _ => HX.out, c3⟩
      · rw [if_neg hV] at HT2
        have hVe : V.isEmpty = false := by simpa using hV
        have hc1 : (ByteArray.mk A.toArray) ++ (ByteArray.mk #[46]) = ByteArray.mk (A ++ [46]).toArray := ba_cat A [46]
        have hc2 : (ByteArray.mk (A ++ [46]).toArray) ++ (ByteArray.mk V.toArray) = ByteArray.mk T.toArray := by rw [HT2]; exact ba_cat _ _
        have hl1 : (A ++ [46]).length ≤ 2000010 := by rw [List.length_append]; simp; omega
        generalize A ++ [46] = A46 at hc1 hc2 hl1
        clear HT2 hV
        go_wp2_with fail
        refine (HS2.out _).mono ?_
        rintro e w2 ⟨D, rfl, hcmp, hB2⟩
        have c2 := (below_drewN (Below.refl w.heap.size w) q1).trans hB2
        have Hcmp : Hid (∀ w, Calls Tryd.prog 16 #[.string ⟨D.toArray⟩, .string ⟨O.toArray⟩] w fun e w' => ∃ X, e = .returned (.tuple #[.int .i64 X, .int .i64 0]) ∧ P X ∧ Below w.heap.size w w') := hcmp
        clear hcmp hB2
        go_wp2_with fail
        refine (Hcmp.out _).mono ?_
        rintro e w3 ⟨X, rfl, hX, hB3⟩
        have c3 := c2.trans (hB3.mono c2.size)
        have HX : Hid (P X) := hX
        clear hX hB3
        go_wp2
        go_ret2
        rw [Hok.out]
        exact ⟨X, rfl, fun _ => HX.out, c3⟩

set_option maxHeartbeats 1000000 in
theorem stage_none (t : List UInt8) (w : World)
    (HS : Hid (∀ w, Calls Tryd.prog 7 #[] w fun e w' => e = .returned (.bool true) ∧ Below w.heap.size w w'))
    (HN : Hid (∀ w, Calls Tryd.prog 8 #[.string ⟨t.toArray⟩] w fun e w' => e = .returned (.tuple #[.int .u32 0, .int .i64 30]) ∧ Below w.heap.size w w'))
    (HV : Hid (∀ w, Calls Tryd.prog 9 #[.string ⟨t.toArray⟩] w fun e w' => e = .returned (.bool false) ∧ Below w.heap.size w w')) :
    Calls Tryd.prog 3 #[.string ⟨t.toArray⟩] w fun e w' => e = .returned (.bool true) ∧ Below w.heap.size w w' := by
  go_enter Tryd.func3, Tryd.ntmps3
  go_wp2_with fail
  refine (HS.out _).mono ?_
  rintro e w1 ⟨rfl, c1⟩
  go_wp2_with fail
  refine (HN.out _).mono ?_
  rintro e w2 ⟨rfl, hB2⟩
  have c2 := c1.trans (hB2.mono c1.size)
  go_wp2_with fail
  refine (HV.out _).mono ?_
  rintro e w3 ⟨rfl, hB3⟩
  have c3 := c2.trans (hB3.mono c2.size)
  go_wp2
  go_ret
  exact ⟨rfl, c3⟩

set_option maxRecDepth 10000 in
set_option maxHeartbeats 1000000 in
theorem stage_minus (t r : List UInt8) (ht : Hid (t = 45 :: r)) (hl : 1 ≤ t.length) (B : Nat) (hB1 : decide ((B : Int) > 2139095040) = true) (_hB2 : decide ((2139095040 : Int) < (B : Int)) = true) (w : World) (htl : t.length ≤ 2000000)
    (HS : Hid (∀ w, Calls Tryd.prog 7 #[] w fun e w' => e = .returned (.bool true) ∧ Below w.heap.size w w'))
    (HN : Hid (∀ w, Calls Tryd.prog 8 #[.string ⟨t.toArray⟩] w fun e w' => e = .returned (.tuple #[.int .u32 (B : Int), .int .i64 0]) ∧ Below w.heap.size w w'))
    (HV : Hid (∀ w, Calls Tryd.prog 9 #[.string ⟨t.toArray⟩] w fun e w' => e = .returned (.bool true) ∧ Below w.heap.size w w')) :
    Calls Tryd.prog 3 #[.string ⟨t.toArray⟩] w fun e w' => e = .returned (.bool true) ∧ Below w.heap.size w w' := by
  have gx : (ByteArray.mk t.toArray)[0]'(by show 0 < t.toArray.size; rw [List.size_toArray]; omega) = 45 := by
    have h := ht.out
    subst h
    rfl
  go_enter Tryd.func3, Tryd.ntmps3
  go_wp2_with fail
  refine (HS.out _).mono ?_
  rintro e w1 ⟨rfl, c1⟩
  go_wp2_with fail
  refine (HN.out _).mono ?_
  rintro e w2 ⟨rfl, hB2⟩
  have c2 := c1.trans (hB2.mono c1.size)
  go_wp2_with fail
  refine (HV.out _).mono ?_
  rintro e w3 ⟨rfl, hB3⟩
  have c3 := c2.trans (hB3.mono c2.size)
  go_wp2
  go_ret
  exact ⟨rfl, c3⟩

/-- What one half of the law asks: the value on one side, the sum, and how twice the text stands to it. -/
structure Half (t : List UInt8) (a b : Nat) (ok : Bool) (P : Int → Prop) : Prop where
  ex : ∃ g f g' f', ExF a g f ∧ ExF b g' f' ∧ (∀ w, Calls Tryd.prog 12 #[.int .u32 (a : Int)] w fun e w' => e = .returned (.string ⟨(txt false g f).toArray⟩) ∧ Below w.heap.size w w') ∧ (∀ w, Calls Tryd.prog 12 #[.int .u32 (b : Int)] w fun e w' => e = .returned (.string ⟨(txt false g' f').toArray⟩) ∧ Below w.heap.size w w') ∧
    (∀ w, Calls Tryd.prog 11 #[.string ⟨(txt false g f).toArray⟩, .string ⟨(txt false g' f').toArray⟩] w fun e w' => ∃ O : List UInt8, e = .returned (.string ⟨O.toArray⟩) ∧ (∀ w, Calls Tryd.prog 10 #[.string ⟨t.toArray⟩, .string ⟨O.toArray⟩] w fun e w' => ∃ X, e = .returned (.tuple #[.int .i64 X, .bool ok]) ∧ (ok = true → P X) ∧ Below w.heap.size w w') ∧ Below w.heap.size w w')

end Go.Proofs.YtgkbbcoagnilgabDoor
