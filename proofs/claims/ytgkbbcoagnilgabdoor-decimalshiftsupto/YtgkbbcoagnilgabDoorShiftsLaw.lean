import Derived.Test.YtgkbbcoagnilgabDoorShiftsM
import Derived.Test.YtgkbbcoagnilgabDoorWholesLaw
namespace Go.Proofs.YtgkbbcoagnilgabDoor
open Go.RowKit Go.Shelf

theorem itoa_any (n : Int) (h0 : -9223372036854775808 ≤ n) (h1 : n ≤ 9223372036854775807) (w : World) (htab : Lib.TabIs Tryd.prog w "internal/strconv.uint64pow10" .u64 Lib.pow10Tab) :
    Calls Tryd.prog 17 #[.int .i64 n] w fun e w' => e = .returned (.string ⟨(Lib.itoa n).toArray⟩) ∧ Below w.heap.size w w' := by
  refine (Any.strconv_Itoa Tryd.laysItoa n h0 h1 w htab).mono ?_
  rintro e w' ⟨he, k, os, rfl⟩
  exact ⟨he, Lib.below_grow _ w (Nat.le_refl _) k os⟩

theorem ba_app (a b : List UInt8) : (ByteArray.mk a.toArray) ++ (ByteArray.mk b.toArray) = ByteArray.mk (a ++ b).toArray := by
  apply ByteArray.ext
  simp

set_option maxHeartbeats 1000000 in
theorem shifts_out (t : List UInt8) (k : Int) (v : Bool) (w : World) (hk : k < 0 ∨ 400 < k ∨ v = false)
    (HS : Hid (∀ w, Calls Tryd.prog 7 #[] w fun e w' => e = .returned (.bool true) ∧ Below w.heap.size w w'))
    (HV : Hid (∀ w, Calls Tryd.prog 9 #[.string ⟨t.toArray⟩] w fun e w' => e = .returned (.bool v) ∧ Below w.heap.size w w')) :
    Calls Tryd.prog 6 #[.string ⟨t.toArray⟩, .int .i64 k] w fun e w' => e = .returned (.bool true) ∧ Below w.heap.size w w' := by
  by_cases h1 : k < 0
  · clear hk
    go_enter Tryd.func6, Tryd.ntmps6
    go_wp2_with fail
    refine (HS.out _).mono ?_
    rintro e w1 ⟨rfl, c1⟩
    go_wp2
    go_ret
    exact ⟨rfl, c1⟩
  · by_cases h2 : 400 < k
    · clear hk
      go_enter Tryd.func6, Tryd.ntmps6
      go_wp2_with fail
      refine (HS.out _).mono ?_
      rintro e w1 ⟨rfl, c1⟩
      go_wp2
      go_ret
      exact ⟨rfl, c1⟩
    · obtain rfl : v = false := by
        rcases hk with h | h | h
        · omega
        · omega
        · exact h
      clear hk
      go_enter Tryd.func6, Tryd.ntmps6
      go_wp2_with fail
      refine (HS.out _).mono ?_
      rintro e w1 ⟨rfl, c1⟩
      go_wp2_with fail
      refine (HV.out _).mono ?_
      rintro e w2 ⟨rfl, hB2⟩
      have c2 := c1.trans (hB2.mono c1.size)
      go_wp2
      go_ret
      exact ⟨rfl, c2⟩

/-- What the law asks of the four texts, its two loops behind it. -/
structure ShIn (w : World) (t L D : List UInt8) (vl : Bool) : Prop where
  vL : ∀ w, Calls Tryd.prog 9 #[.string ⟨L.toArray⟩] w fun e w' => e = .returned (.bool vl) ∧ Below w.heap.size w w'
  c1 : vl = true → ∀ w, Calls Tryd.prog 16 #[.string ⟨L.toArray⟩, .string ⟨(t ++ (101 :: D)).toArray⟩] w fun e w' => e = .returned (.tuple #[.int .i64 0, .int .i64 0]) ∧ Below w.heap.size w w'
  c2 : vl = true → ∀ w, Calls Tryd.prog 16 #[.string ⟨(L ++ [69, 45] ++ D).toArray⟩, .string ⟨t.toArray⟩] w fun e w' => e = .returned (.tuple #[.int .i64 0, .int .i64 0]) ∧ Below w.heap.size w w'
  n1 : vl = true → ∃ a b : Nat, (∀ w, Calls Tryd.prog 8 #[.string ⟨L.toArray⟩] w fun e w' => e = .returned (.tuple #[.int .u32 (a : Int), .int .i64 0]) ∧ Below w.heap.size w w') ∧ (∀ w, Calls Tryd.prog 8 #[.string ⟨(t ++ (101 :: D)).toArray⟩] w fun e w' => e = .returned (.tuple #[.int .u32 (a : Int), .int .i64 0]) ∧ Below w.heap.size w w') ∧
      (∀ w, Calls Tryd.prog 8 #[.string ⟨(L ++ [69, 45] ++ D).toArray⟩] w fun e w' => e = .returned (.tuple #[.int .u32 (b : Int), .int .i64 0]) ∧ Below w.heap.size w w') ∧ (∀ w, Calls Tryd.prog 8 #[.string ⟨t.toArray⟩] w fun e w' => e = .returned (.tuple #[.int .u32 (b : Int), .int .i64 0]) ∧ Below w.heap.size w w')

set_option maxRecDepth 10000 in
set_option maxHeartbeats 2000000 in
theorem shifts_in (t D : List UInt8) (k : Nat) (w : World) (hk : k ≤ 400) (htl : t.length ≤ 1048576) (hDl : D.length ≤ 100)
    (HS : Hid (∀ w, Calls Tryd.prog 7 #[] w fun e w' => e = .returned (.bool true) ∧ Below w.heap.size w w'))
    (HV : Hid (∀ w, Calls Tryd.prog 9 #[.string ⟨t.toArray⟩] w fun e w' => e = .returned (.bool true) ∧ Below w.heap.size w w'))
    (HI : Hid (∀ w', Below w.heap.size w w' → Calls Tryd.prog 17 #[.int .i64 (k : Int)] w' fun e w2 => e = .returned (.string ⟨D.toArray⟩) ∧ Below w'.heap.size w' w2))
    (HX : Hid ((∀ c ∈ t, c ≠ 46 ∧ c ≠ 101 ∧ c ≠ 69) → ∃ vl, ShIn w t (t ++ List.replicate k 48) D vl)) :
    Calls Tryd.prog 6 #[.string ⟨t.toArray⟩, .int .i64 (k : Int)] w fun e w' => e = .returned (.bool true) ∧ Below w.heap.size w w' := by
  go_enter Tryd.func6, Tryd.ntmps6
  go_wp2_with fail
  refine (HS.out _).mono ?_
  rintro e w1 ⟨rfl, c1⟩
  go_wp2_with fail
  refine (HV.out _).mono ?_
  rintro e w2 ⟨rfl, hB2⟩
  have c2 := c1.trans (hB2.mono c1.size)
  clear hB2 c1
  go_wp2
  go_loop [5] (fun s5 => ∃ j : Nat, s5 = .int .i64 (j : Int) ∧ j ≤ t.length ∧ Hid (∀ i (_ : i < j) (hl : i < t.length), t[i] ≠ 46 ∧ t[i] ≠ 101 ∧ t[i] ≠ 69)) (fun s => t.length - (intOf s).toNat)
  case atStart => exact ⟨0, rfl, Nat.zero_le _, fun i hi => by omega⟩
  case round =>
    obtain ⟨j, rfl, hj, Hj⟩ := hrel
    by_cases hlt : j < t.length
    · obtain ⟨c, hc⟩ : ∃ c, t[j] = c := ⟨_, rfl⟩
      have gx : (ByteArray.mk t.toArray)[j]'(by show j < t.toArray.size; simpa using hlt) = c := by rw [← hc]; rfl
      have nat46 : ∀ v : UInt8, c ≠ v → c.toNat ≠ v.toNat := fun v h e => h (UInt8.toNat_inj.1 e)
      by_cases h46 : c = 46
      · have hq : ((c.toNat : Int) == 46) = true := by rw [h46]; rfl
        clear hc h46 nat46
        go_wp2
        go_ret
        exact ⟨rfl, c2⟩
      · have hq : ((c.toNat : Int) == 46) = false := by have h : c.toNat ≠ 46 := nat46 46 h46; simp; omega
        by_cases h101 : c = 101
        · have hq2 : ((c.toNat : Int) == 101) = true := by rw [h101]; rfl
          clear hc h46 nat46 h101
          go_wp2
          go_ret
          exact ⟨rfl, c2⟩
        · have hq2 : ((c.toNat : Int) == 101) = false := by have h : c.toNat ≠ 101 := nat46 101 h101; simp; omega
          by_cases h69 : c = 69
          · have hq3 : ((c.toNat : Int) == 69) = true := by rw [h69]; rfl
            clear hc h46 nat46 h101 h69
            go_wp2
            go_ret
            exact ⟨rfl, c2⟩
          · have hq3 : ((c.toNat : Int) == 69) = false := by have h : c.toNat ≠ 69 := nat46 69 h69; simp; omega
            have Hj2 : Hid (∀ i (_ : i < j + 1) (hl : i < t.length), t[i] ≠ 46 ∧ t[i] ≠ 101 ∧ t[i] ≠ 69) := fun i hi hl => by
              by_cases e : i = j
              · subst e; rw [hc]; exact ⟨h46, h101, h69⟩
              · exact Hj.out i (by omega) hl
            clear hc h46 nat46 h101 h69
            go_wp2
            go_round
            case rel => exact ⟨j + 1, by go_num, by omega, Hj2⟩
            case measure => simp [intOf]; omega
    · have Hno : Hid (∀ c ∈ t, c ≠ 46 ∧ c ≠ 101 ∧ c ≠ 69) := fun c hc => by
        obtain ⟨i, hi, e⟩ := List.getElem_of_mem hc
        rw [← e]
        exact Hj.out i (by omega) hi
      clear Hj
      go_wp2
      go_loop [7, 6] (fun s7 s6 => ∃ i : Nat, Value.int .i64 (i : Int) = s7 ∧ Value.string ⟨(t ++ List.replicate i 48).toArray⟩ = s6 ∧ i ≤ k) (fun s _ => k - (intOf s).toNat)
      case atStart => exact ⟨0, rfl, by simp, Nat.zero_le _⟩
      case round =>
        obtain ⟨i, hv7, hv6, hi⟩ := hrel
        have hv7' := hv7.symm
        have hv6' := hv6.symm
        clear hv7 hv6
        subst hv7' hv6'
        obtain ⟨T, hT⟩ : ∃ T, T = t ++ List.replicate i 48 := ⟨_, rfl⟩
        have hTl : T.length ≤ 1100000 := by rw [hT, List.length_append, List.length_replicate]; omega
        by_cases hik : i < k
        · have hcat : (ByteArray.mk T.toArray) ++ (ByteArray.mk #[48]) = ByteArray.mk (t ++ List.replicate (i + 1) 48).toArray := by
            have := ba_app T [48]
            rw [show (#[48] : Array UInt8) = [48].toArray from rfl, this, hT, List.append_assoc, ← List.replicate_succ']
          rw [← hT]
          have HT : Hid (T = t ++ List.replicate i 48) := hT
          clear hT
          go_wp2
          go_round
          case rel => exact ⟨i + 1, by go_num, by rw [← hcat], by omega⟩
          case measure => simp [intOf]; omega
        · have hik2 : i = k := by omega
          obtain ⟨vl, hsh⟩ := HX.out Hno.out
          have HSh : Hid (ShIn w t T D vl) := by rw [hT, hik2]; exact hsh
          have hcat1 : (ByteArray.mk #[101]) ++ (ByteArray.mk D.toArray) = ByteArray.mk (101 :: D).toArray := ba_app [101] D
          have hcat2 : (ByteArray.mk t.toArray) ++ (ByteArray.mk (101 :: D).toArray) = ByteArray.mk (t ++ (101 :: D)).toArray := ba_app _ _
          have hcat3 : (ByteArray.mk T.toArray) ++ (ByteArray.mk #[69, 45]) = ByteArray.mk (T ++ [69, 45]).toArray := ba_app T [69, 45]
          have hcat4 : (ByteArray.mk (T ++ [69, 45]).toArray) ++ (ByteArray.mk D.toArray) = ByteArray.mk (T ++ [69, 45] ++ D).toArray := ba_app _ _
          rw [← hT]
          clear hsh hT hik2
          obtain ⟨E1, hE1⟩ : ∃ E1, E1 = 101 :: D := ⟨_, rfl⟩
          obtain ⟨E2, hE2⟩ : ∃ E2, E2 = t ++ E1 := ⟨_, rfl⟩
          obtain ⟨E3, hE3⟩ : ∃ E3, E3 = T ++ [69, 45] := ⟨_, rfl⟩
          obtain ⟨E4, hE4⟩ : ∃ E4, E4 = E3 ++ D := ⟨_, rfl⟩
          have l1 : E1.length ≤ 1000 := by rw [hE1]; simp; omega
          have l2 : E2.length ≤ 1200000 := by rw [hE2, List.length_append]; omega
          have l3 : E3.length ≤ 1200000 := by rw [hE3, List.length_append]; simp; omega
          have l4 : E4.length ≤ 1300000 := by rw [hE4, List.length_append]; omega
          rw [← hE1] at hcat1 hcat2
          rw [← hE2] at hcat2
          rw [← hE3] at hcat3 hcat4
          rw [← hE4] at hcat4
          have HV2 : Hid (∀ w, Calls Tryd.prog 9 #[.string ⟨T.toArray⟩] w fun e w' => e = .returned (.bool vl) ∧ Below w.heap.size w w') := HSh.out.vL
          have HC1 : Hid (vl = true → ∀ w, Calls Tryd.prog 16 #[.string ⟨T.toArray⟩, .string ⟨E2.toArray⟩] w fun e w' => e = .returned (.tuple #[.int .i64 0, .int .i64 0]) ∧ Below w.heap.size w w') := by rw [hE2, hE1]; exact HSh.out.c1
          have HC2 : Hid (vl = true → ∀ w, Calls Tryd.prog 16 #[.string ⟨E4.toArray⟩, .string ⟨t.toArray⟩] w fun e w' => e = .returned (.tuple #[.int .i64 0, .int .i64 0]) ∧ Below w.heap.size w w') := by rw [hE4, hE3]; exact HSh.out.c2
          have HN : Hid (vl = true → ∃ a b : Nat, (∀ w, Calls Tryd.prog 8 #[.string ⟨T.toArray⟩] w fun e w' => e = .returned (.tuple #[.int .u32 (a : Int), .int .i64 0]) ∧ Below w.heap.size w w') ∧ (∀ w, Calls Tryd.prog 8 #[.string ⟨E2.toArray⟩] w fun e w' => e = .returned (.tuple #[.int .u32 (a : Int), .int .i64 0]) ∧ Below w.heap.size w w') ∧
      (∀ w, Calls Tryd.prog 8 #[.string ⟨E4.toArray⟩] w fun e w' => e = .returned (.tuple #[.int .u32 (b : Int), .int .i64 0]) ∧ Below w.heap.size w w') ∧ (∀ w, Calls Tryd.prog 8 #[.string ⟨t.toArray⟩] w fun e w' => e = .returned (.tuple #[.int .u32 (b : Int), .int .i64 0]) ∧ Below w.heap.size w w')) := by rw [hE4, hE3, hE2, hE1]; exact HSh.out.n1
          clear hE1 hE2 hE3 hE4 HSh
          go_wp2_with fail
          refine (HV2.out _).mono ?_
          rintro e w3 ⟨rfl, hB3⟩
          have c3 := c2.trans (hB3.mono c2.size)
          cases vl
          · go_wp2
            go_ret
            exact ⟨rfl, c3⟩
          · obtain ⟨a, b, n1, n2, n3, n4⟩ := HN.out rfl
            have N1 : Hid (∀ w, Calls Tryd.prog 8 #[.string ⟨T.toArray⟩] w fun e w' => e = .returned (.tuple #[.int .u32 (a : Int), .int .i64 0]) ∧ Below w.heap.size w w') := n1
            have N2 : Hid (∀ w, Calls Tryd.prog 8 #[.string ⟨E2.toArray⟩] w fun e w' => e = .returned (.tuple #[.int .u32 (a : Int), .int .i64 0]) ∧ Below w.heap.size w w') := n2
            have N3 : Hid (∀ w, Calls Tryd.prog 8 #[.string ⟨E4.toArray⟩] w fun e w' => e = .returned (.tuple #[.int .u32 (b : Int), .int .i64 0]) ∧ Below w.heap.size w w') := n3
            have N4 : Hid (∀ w, Calls Tryd.prog 8 #[.string ⟨t.toArray⟩] w fun e w' => e = .returned (.tuple #[.int .u32 (b : Int), .int .i64 0]) ∧ Below w.heap.size w w') := n4
            have K1 := HC1.out rfl
            have K2 := HC2.out rfl
            have HK1 : Hid (∀ w, Calls Tryd.prog 16 #[.string ⟨T.toArray⟩, .string ⟨E2.toArray⟩] w fun e w' => e = .returned (.tuple #[.int .i64 0, .int .i64 0]) ∧ Below w.heap.size w w') := K1
            have HK2 : Hid (∀ w, Calls Tryd.prog 16 #[.string ⟨E4.toArray⟩, .string ⟨t.toArray⟩] w fun e w' => e = .returned (.tuple #[.int .i64 0, .int .i64 0]) ∧ Below w.heap.size w w') := K2
            clear n1 n2 n3 n4 K1 K2
            have qa : ((a : Int) == (a : Int)) = true := by simp
            have qb : ((b : Int) == (b : Int)) = true := by simp
            go_wp2_with fail
            refine (HI.out _ c3).mono ?_
            rintro e w4 ⟨rfl, hB4⟩
            have c4 := c3.trans (hB4.mono c3.size)
            go_wp2_with fail
            refine (HK1.out _).mono ?_
            rintro e w5 ⟨rfl, hB5⟩
            have c5 := c4.trans (hB5.mono c4.size)
            go_wp2_with fail
            refine (HI.out _ c5).mono ?_
            rintro e w6 ⟨rfl, hB6⟩
            have c6 := c5.trans (hB6.mono c5.size)
            go_wp2_with fail
            refine (HK2.out _).mono ?_
            rintro e w7 ⟨rfl, hB7⟩
            have c7 := c6.trans (hB7.mono c6.size)
            go_wp2_with fail
            refine (N1.out _).mono ?_
            rintro e w8 ⟨rfl, hB8⟩
            have c8 := c7.trans (hB8.mono c7.size)
            go_wp2_with fail
            refine (N2.out _).mono ?_
            rintro e w9 ⟨rfl, hB9⟩
            have c9 := c8.trans (hB9.mono c8.size)
            go_wp2_with fail
            refine (HI.out _ c9).mono ?_
            rintro e w10 ⟨rfl, hB10⟩
            have c10 := c9.trans (hB10.mono c9.size)
            go_wp2_with fail
            refine (N3.out _).mono ?_
            rintro e w11 ⟨rfl, hB11⟩
            have c11 := c10.trans (hB11.mono c10.size)
            go_wp2_with fail
            refine (N4.out _).mono ?_
            rintro e w12 ⟨rfl, hB12⟩
            have c12 := c11.trans (hB12.mono c11.size)
            go_wp2
            go_ret
            exact ⟨rfl, c12⟩

theorem pcut_minus2 (m : Bool) (g : List UInt8) (hg : allD g) (h0 : g ≠ []) : decide ((txt m g []).head? = some 45) = m ∧ cutL (txt m g []) = g := by
  obtain ⟨a, g', rfl⟩ : ∃ a g', g = a :: g' := by
    cases g with
    | nil => exact absurd rfl h0
    | cons a g' => exact ⟨a, g', rfl⟩
  have ha := isD_bd (hg a (List.mem_cons_self ..))
  have ha45 : a ≠ 45 := fun e => by rw [e] at ha; exact absurd ha.1 (by decide)
  unfold cutL txt
  cases m
  · simp [ha45]
  · simp

theorem dec_etxt (m : Bool) (g : List UInt8) (D : List UInt8) : txt m g [] ++ (101 :: D) = etxt m g 101 false D := by
  unfold txt etxt
  simp
theorem dec_mtxt (m : Bool) (g : List UInt8) (D : List UInt8) : txt m g [] ++ [69, 45] ++ D = etxt m g 69 true D := by
  unfold txt etxt
  simp
theorem txt_rep (m : Bool) (g : List UInt8) (k : Nat) : txt m g [] ++ List.replicate k 48 = txt m (g ++ List.replicate k 48) [] := by
  unfold txt
  simp

theorem near_two (x y : List UInt8) (px py : PartsM) (hx : pcut x = some px) (hy : pcut y = some py) (hlx : x.length ≤ 1073741824) (hly : y.length ≤ 1073741824) (hm : px.1 = py.1) (hz : zof px = zof py) (hP : zof py ≠ [] → Pof px = Pof py) :
    ∃ a : Nat, (∀ w, Calls Tryd.prog 8 #[.string ⟨x.toArray⟩] w fun e w' => e = .returned (.tuple #[.int .u32 (a : Int), .int .i64 0]) ∧ Below w.heap.size w w') ∧ (∀ w, Calls Tryd.prog 8 #[.string ⟨y.toArray⟩] w fun e w' => e = .returned (.tuple #[.int .u32 (a : Int), .int .i64 0]) ∧ Below w.heap.size w w') := by
  by_cases hex : ∃ b, NearS py b
  · obtain ⟨b, hb⟩ := hex
    refine ⟨sbits py.1 b, fun w => ?_, fun w => ?_⟩
    · refine (nearest_some_any x w px hx hlx).mono ?_
      rintro e w' ⟨c, rfl, hc, hB⟩
      rw [near_same px py c b hc hb hz hP, hm]
      exact ⟨rfl, hB⟩
    · refine (nearest_some_any y w py hy hly).mono ?_
      rintro e w' ⟨c, rfl, hc, hB⟩
      rw [near_same py py c b hc hb rfl (fun _ => rfl)]
      exact ⟨rfl, hB⟩
  · refine ⟨0, fun w => ?_, fun w => ?_⟩
    · refine (nearest_some_any x w px hx hlx).mono ?_
      rintro e w' ⟨c, rfl, hc, hB⟩
      exfalso
      apply hex
      by_cases h : zof py = []
      · exact ⟨0, rnd_zero (zof py) h (Pof py)⟩
      · refine ⟨c, ?_⟩
        unfold NearS at hc ⊢
        rw [hz, hP h] at hc
        exact hc
    · refine (nearest_some_any y w py hy hly).mono ?_
      rintro e w' ⟨c, rfl, hc, hB⟩
      exact absurd ⟨c, hc⟩ hex

theorem shifts_law (t : List UInt8) (k : Int) (hlt : t.length ≤ 1048576) (_hk0 : -9223372036854775808 ≤ k) (_hk1 : k ≤ 9223372036854775807) (w : World)
    (htab : Lib.TabIs Tryd.prog w "internal/strconv.uint64pow10" .u64 Lib.pow10Tab) (t1 t2 : TypeId) (p1 p2 : Value) (_s1 : w.var? Tryd.prog "strconv.ErrSyntax" = some #[.iface t1 p1]) (_s2 : w.var? Tryd.prog "strconv.ErrRange" = some #[.iface t2 p2]) :
    Calls Tryd.prog 6 #[.string ⟨t.toArray⟩, .int .i64 k] w fun e w' => e = .returned (.bool true) ∧ Below w.heap.size w w' := by
  have tb := Lib.tabBelow_of_tabIs htab
  have va := fun w => valid_any t w (by omega)
  by_cases hk : k < 0 ∨ 400 < k ∨ (pcut t).isSome = false
  · exact shifts_out t k _ w hk started_any va
  · rcases ht : pcut t with _ | x
    · exact absurd (.inr (.inr (by rw [ht]; rfl))) hk
    obtain ⟨n, rfl⟩ : ∃ n : Nat, k = (n : Int) := ⟨k.toNat, by omega⟩
    have hn : n ≤ 400 := by omega
    rw [ht] at va
    have hitl := Lib.itoa_length_le (n : Int) (by omega) (by omega)
    rw [Lib.itoa_nonneg] at hitl
    refine shifts_in t (Lib.decDigits n) n w hn hlt (by omega) started_any va (fun w' hb => ?_) (fun hno => ?_)
    · have h := itoa_any (n : Int) (by omega) (by omega) w' (tb w' hb)
      rw [Lib.itoa_nonneg] at h
      exact h
    · obtain ⟨m, g, hx, htx, hg, hg0, hgb⟩ := pcut_nodot ht hno
      obtain ⟨dv1, dv2, dv3, _⟩ := dec_val n
      have hE : Ev false (Lib.decDigits n) = (n : Int) := by rw [ev_num _ dv2, dv1]
      have hEm : Ev true (Lib.decDigits n) = -(n : Int) := by rw [ev_minus, hE]
      have hgl : g.length ≤ 1048576 := by
        rw [htx] at hlt
        unfold txt at hlt
        rw [List.length_append] at hlt
        simp at hlt
        omega
      have hpt : pcut t = some (m, g, [], false, []) := by rw [ht, hx]
      have hL : t ++ List.replicate n 48 = txt m (g ++ List.replicate n 48) [] := by rw [htx]; exact txt_rep m g n
      have hLl : (t ++ List.replicate n 48).length ≤ 1049000 := by rw [List.length_append, List.length_replicate]; omega
      have hpe : pcut (t ++ (101 :: Lib.decDigits n)) = some (m, g, [], false, Lib.decDigits n) := by
        rw [htx, dec_etxt]
        exact pcut_exp m g 101 false _ hg dv2 hg0 hgb (.inl rfl) dv3
      have hpel : (t ++ (101 :: Lib.decDigits n)).length ≤ 1049000 := by rw [List.length_append, List.length_cons]; omega
      have vl := fun w => valid_any (t ++ List.replicate n 48) w (by omega)
      refine ⟨(pcut (t ++ List.replicate n 48)).isSome, vl, fun hv w => ?_, fun hv w => ?_, fun hv => ?_⟩ <;> (
        have hbL : badW (g ++ List.replicate n 48) = false := by
          cases hb : badW (g ++ List.replicate n 48)
          · rfl
          · exfalso
            obtain ⟨y, hy⟩ := Option.isSome_iff_exists.1 hv
            have hnoL : ∀ c ∈ t ++ List.replicate n 48, c ≠ 46 ∧ c ≠ 101 ∧ c ≠ 69 := fun c hc => by
              rcases List.mem_append.1 hc with h | h
              · exact hno c h
              · rw [(List.mem_replicate.1 h).2]; decide
            obtain ⟨m', g', hy', hL', _, _, hb'⟩ := pcut_nodot hy hnoL
            rw [hL] at hL'
            have hmm : m = m' ∧ g ++ List.replicate n 48 = g' := by
              have e1 := pcut_minus2 m (g ++ List.replicate n 48) (allD_rep g hg n) (by simp [hg0])
              have e2 := pcut_minus2 m' g' (by assumption) (by assumption)
              rw [hL', e2.1] at e1
              refine ⟨e1.1.symm, ?_⟩
              have := e1.2
              rw [e2.2] at this
              exact this.symm
            rw [hmm.2] at hb
            rw [hb'] at hb
            cases hb
        have hpL : pcut (t ++ List.replicate n 48) = some (m, g ++ List.replicate n 48, [], false, []) := by
          rw [hL]
          exact pcut_txt m _ [] (allD_rep g hg n) (fun c hc => by simp at hc) (by simp [hg0]) hbL
        have hpm : pcut (t ++ List.replicate n 48 ++ [69, 45] ++ Lib.decDigits n) = some (m, g ++ List.replicate n 48, [], true, Lib.decDigits n) := by
          rw [hL, dec_mtxt]
          exact pcut_exp m _ 69 true _ (allD_rep g hg n) dv2 (by simp [hg0]) hbL (.inr rfl) dv3
        have hpml : (t ++ List.replicate n 48 ++ [69, 45] ++ Lib.decDigits n).length ≤ 1050000 := by rw [List.length_append, List.length_append]; simp; simp at hLl; omega
        have k1 := shift_key m false g [] n 0 (by decide)
        have k2 := shift_key m false g (Lib.decDigits n) 0 (n : Int) hE
        have k3 := shift_key m true g (Lib.decDigits n) n (-(n : Int)) hEm
        rw [List.replicate_zero, List.append_nil] at k2
        have zz : zof (m, g ++ List.replicate n 48, [], false, []) = zof (m, g, [], false, Lib.decDigits n) := k1.1.trans k2.1.symm
        have pp : zof (m, g, [], false, Lib.decDigits n) ≠ [] → Pof (m, g ++ List.replicate n 48, [], false, []) = Pof (m, g, [], false, Lib.decDigits n) := fun h => by
          rw [k2.1] at h
          rw [k1.2 h, k2.2 h]
          omega
        have pp3 : zof (m, g, [], false, []) ≠ [] → Pof (m, g ++ List.replicate n 48, [], true, Lib.decDigits n) = Pof (m, g, [], false, []) := fun h => by
          rw [k3.2 h]
          omega)
      · have h := compare_key hpL hpe (by omega) (by omega) w
        rw [okey_same (m, g ++ List.replicate n 48, [], false, []) (m, g, [], false, Lib.decDigits n) rfl zz pp] at h
        exact h
      · have h := compare_key hpm hpt (by omega) (by omega) w
        rw [okey_same (m, g ++ List.replicate n 48, [], true, Lib.decDigits n) (m, g, [], false, []) rfl k3.1 pp3] at h
        exact h
      · obtain ⟨a, a1, a2⟩ := near_two _ _ _ _ hpL hpe (by omega) (by omega) rfl zz pp
        obtain ⟨b, b1, b2⟩ := near_two _ _ _ _ hpm hpt (by omega) (by omega) rfl k3.1 pp3
        exact ⟨a, b, a1, a2, b1, b2⟩

end Go.Proofs.YtgkbbcoagnilgabDoor
