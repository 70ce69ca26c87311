import Derived.Test.YtgkbbcoagnilgaaDoorClimbM
import Derived.Test.YtgkbbcoagnilgaaDoorOrdLaw
namespace Go.Proofs.YtgkbbcoagnilgaaDoor
open Go.RowKit

theorem pcut_minus {l : List UInt8} {x : PartsM} (h : pcut l = some x) : x.1 = decide (l.head? = some 45) := by
  unfold pcut pcut1 pcut2 pcut3 pcut4 at h
  generalize decide (l.head? = some 45) = m at h
  split at h
  · cases h
  split at h
  · cases h
  split at h
  · cases h
  split at h
  · cases h; rfl
  · cases h

theorem pcut_some_ne {l : List UInt8} {x : PartsM} (h : pcut l = some x) : l ≠ [] := by
  rintro rfl
  rw [show pcut [] = none from by decide] at h
  cases h

set_option maxHeartbeats 400000 in
theorem rank_any (m : Bool) (b : Nat) (w : World) (hb : b ≤ 2139095040) :
    Calls Tryd.prog 19 #[.int .u32 (sbits m b : Int)] w fun e w' => e = .returned (.int .i64 (rk m b)) ∧ w' = w := by
  cases m
  · have e : sbits false b = b := rfl
    have e2 : rk false b = (b : Int) := rfl
    rw [e, e2]
    have hq : (b : Int) / 2147483648 = 0 := by omega
    have hq2 : ((b : Int) / 2147483648 == 1) = false := by rw [hq]; rfl
    go_enter Tryd.func19, Tryd.ntmps19
    go_wp2
    go_ret
    exact ⟨rfl, rfl⟩
  · have e : sbits true b = b + 2147483648 := rfl
    have e2 : rk true b = -(b : Int) := rfl
    rw [e, e2]
    obtain ⟨B, hB⟩ : ∃ B, B = b + 2147483648 := ⟨_, rfl⟩
    rw [← hB]
    have hq : (B : Int) / 2147483648 = 1 := by omega
    have hand : bits .and .u32 (B : Int) 2147483647 = (b : Int) := by
      have e : (2147483647 : Int) = ((2147483647 : Nat) : Int) := rfl
      rw [e, u32_and_nat B 2147483647 (by omega) (by omega), show (2147483647 : Nat) = 2 ^ 31 - 1 from rfl, Nat.and_two_pow_sub_one_eq_mod]
      omega
    have hB2 : B ≤ 4286578688 := by omega
    have hw : IntKind.i64.wrap (-(b : Int)) = -(b : Int) := by rw [IntKind.wrap_i64]; omega
    clear hB
    go_enter Tryd.func19, Tryd.ntmps19
    go_wp2
    go_ret
    exact ⟨rfl, rfl⟩

set_option maxHeartbeats 1000000 in
theorem climbs_bad (a b : List UInt8) (w : World) (va vb : Bool) (ea eb : Int) (hv : (va && vb) = false) (qa : (ea == 0) = va) (qb : (eb == 0) = vb) (qa2 : (ea != 0) = !va) (qb2 : (eb != 0) = !vb)
    (HS : Hid (∀ w, Calls Tryd.prog 14 #[] w fun e w' => e = .returned (.bool true) ∧ Below w.heap.size w w'))
    (H1 : Hid (∀ w, Calls Tryd.prog 17 #[.string ⟨a.toArray⟩] w fun e w' => ∃ (n : Nat), e = .returned (.tuple #[.int .u32 n, .int .i64 ea]) ∧ Below w.heap.size w w'))
    (H2 : Hid (∀ w, Calls Tryd.prog 17 #[.string ⟨b.toArray⟩] w fun e w' => ∃ (n : Nat), e = .returned (.tuple #[.int .u32 n, .int .i64 eb]) ∧ Below w.heap.size w w'))
    (HVa : Hid (∀ w, Calls Tryd.prog 10 #[.string ⟨a.toArray⟩] w fun e w' => e = .returned (.bool va) ∧ Below w.heap.size w w'))
    (HVb : Hid (∀ w, Calls Tryd.prog 10 #[.string ⟨b.toArray⟩] w fun e w' => e = .returned (.bool vb) ∧ Below w.heap.size w w')) :
    Calls Tryd.prog 7 #[.string ⟨a.toArray⟩, .string ⟨b.toArray⟩] w fun e w' => e = .returned (.bool true) ∧ Below w.heap.size w w' := by
  go_enter Tryd.func7, Tryd.ntmps7
  go_wp2_with fail
  refine (HS.out _).mono ?_
  rintro e w1 ⟨rfl, hB1⟩
  go_wp2_with fail
  refine (H1.out _).mono ?_
  rintro e w2 ⟨n1, rfl, hB2⟩
  go_wp2_with fail
  refine (H2.out _).mono ?_
  rintro e w3 ⟨n2, rfl, hB3⟩
  have c2 := hB1.trans (hB2.mono hB1.size)
  have c3 := c2.trans (hB3.mono c2.size)
  cases va
  · go_wp2_with fail
    refine (HVa.out _).mono ?_
    rintro e w4 ⟨rfl, hB4⟩
    have c4 := c3.trans (hB4.mono c3.size)
    cases vb
    · go_wp2_with fail
      refine (HVb.out _).mono ?_
      rintro e w5 ⟨rfl, hB5⟩
      have c5 := c4.trans (hB5.mono c4.size)
      go_wp2
      go_ret
      exact ⟨rfl, c5⟩
    · go_wp2_with fail
      refine (HVb.out _).mono ?_
      rintro e w5 ⟨rfl, hB5⟩
      have c5 := c4.trans (hB5.mono c4.size)
      go_wp2
      go_ret
      exact ⟨rfl, c5⟩
  · obtain rfl : vb = false := by simpa using hv
    go_wp2_with fail
    refine (HVa.out _).mono ?_
    rintro e w4 ⟨rfl, hB4⟩
    have c4 := c3.trans (hB4.mono c3.size)
    go_wp2_with fail
    refine (HVb.out _).mono ?_
    rintro e w5 ⟨rfl, hB5⟩
    have c5 := c4.trans (hB5.mono c4.size)
    go_wp2
    go_ret
    exact ⟨rfl, c5⟩

set_option maxHeartbeats 1000000 in
theorem climbs_good (a b : List UInt8) (c0 : UInt8) (t : List UInt8) (ha : a = c0 :: t) (w : World) (m1 m2 l1 : Bool) (S1 S2 : Nat → Prop) (hm : Hid (m1 = decide (c0 = 45))) (hlen : a.length ≤ 1048576)
    (HS1 : Hid (∀ n, S1 n → n ≤ 2139095040)) (HS2 : Hid (∀ n, S2 n → n ≤ 2139095040))
    (Hcl : Hid (∀ n1 n2, S1 n1 → S2 n2 → l1 = true → rk m1 n1 ≤ rk m2 n2))
    (HS : Hid (∀ w, Calls Tryd.prog 14 #[] w fun e w' => e = .returned (.bool true) ∧ Below w.heap.size w w'))
    (H1 : Hid (∀ w, Calls Tryd.prog 17 #[.string ⟨a.toArray⟩] w fun e w' => ∃ (n : Nat), e = .returned (.tuple #[.int .u32 (sbits m1 n : Int), .int .i64 0]) ∧ S1 n ∧ Below w.heap.size w w'))
    (H2 : Hid (∀ w, Calls Tryd.prog 17 #[.string ⟨b.toArray⟩] w fun e w' => ∃ (n : Nat), e = .returned (.tuple #[.int .u32 (sbits m2 n : Int), .int .i64 0]) ∧ S2 n ∧ Below w.heap.size w w'))
    (HVa : Hid (∀ w, Calls Tryd.prog 10 #[.string ⟨a.toArray⟩] w fun e w' => e = .returned (.bool true) ∧ Below w.heap.size w w'))
    (HVb : Hid (∀ w, Calls Tryd.prog 10 #[.string ⟨b.toArray⟩] w fun e w' => e = .returned (.bool true) ∧ Below w.heap.size w w'))
    (HL : Hid (∀ w, Calls Tryd.prog 15 #[.string ⟨a.toArray⟩, .string ⟨b.toArray⟩] w fun e w' => e = .returned (.bool l1) ∧ Below w.heap.size w w')) :
    Calls Tryd.prog 7 #[.string ⟨a.toArray⟩, .string ⟨b.toArray⟩] w fun e w' => e = .returned (.bool true) ∧ Below w.heap.size w w' := by
  have h0 : 0 < a.length := by rw [ha]; simp
  have gx : (ByteArray.mk a.toArray)[0]'(by show 0 < a.toArray.size; simpa using h0) = c0 := by subst ha; rfl
  clear ha
  go_enter Tryd.func7, Tryd.ntmps7
  go_wp2_with fail
  refine (HS.out _).mono ?_
  rintro e w1 ⟨rfl, hB1⟩
  go_wp2_with fail
  refine (H1.out _).mono ?_
  rintro e w2 ⟨n1, rfl, hn1, hB2⟩
  go_wp2_with fail
  refine (H2.out _).mono ?_
  rintro e w3 ⟨n2, rfl, hn2, hB3⟩
  have c2 := hB1.trans (hB2.mono hB1.size)
  have c3 := c2.trans (hB3.mono c2.size)
  go_wp2_with fail
  refine (HVa.out _).mono ?_
  rintro e w4 ⟨rfl, hB4⟩
  have c4 := c3.trans (hB4.mono c3.size)
  go_wp2_with fail
  refine (HVb.out _).mono ?_
  rintro e w5 ⟨rfl, hB5⟩
  have c5 := c4.trans (hB5.mono c4.size)
  have b1 := HS1.out n1 hn1
  have b2 := HS2.out n2 hn2
  have Hr1 : Hid (∀ W, Calls Tryd.prog 19 #[.int .u32 (sbits m1 n1 : Int)] W fun e w' => e = .returned (.int .i64 (rk m1 n1)) ∧ w' = W) := fun W => rank_any m1 n1 W b1
  have Hr2 : Hid (∀ W, Calls Tryd.prog 19 #[.int .u32 (sbits m2 n2 : Int)] W fun e w' => e = .returned (.int .i64 (rk m2 n2)) ∧ w' = W) := fun W => rank_any m2 n2 W b2
  have Hle : Hid (l1 = true → rk m1 n1 ≤ rk m2 n2) := Hcl.out n1 n2 hn1 hn2
  clear hn1 hn2 hB1 hB2 hB3 hB4 hB5
  have hs1 : (sbits m1 n1 : Int) / 2147483648 = if m1 then 1 else 0 := by cases m1 <;> simp [sbits] <;> omega
  have hs2 : sbits m1 n1 < 4294967296 := by cases m1 <;> simp [sbits] <;> omega
  generalize sbits m1 n1 = A1 at hs1 hs2 Hr1
  generalize sbits m2 n2 = A2 at Hr2
  have q1 : (((A1 : Int) / 2147483648 == 1) != (((c0.toNat : Int) == 45))) = false := by
    rw [hs1]
    by_cases hc : c0 = 45
    · subst hc; rw [hm.out]; rfl
    · have : c0.toNat ≠ 45 := fun e => hc (UInt8.toNat_inj.1 e)
      have e2 : ((c0.toNat : Int) == 45) = false := by simp; omega
      rw [hm.out, e2]
      simp [hc]
  have q2 : (((A1 : Int) / 2147483648 == 1) == (((c0.toNat : Int) == 45))) = true := by
    cases h1 : ((A1 : Int) / 2147483648 == 1) <;> cases h2 : ((c0.toNat : Int) == 45) <;> simp [h1, h2] at q1 ⊢
  clear hs1 hm
  go_wp2_with fail
  refine (HL.out _).mono ?_
  rintro e w6 ⟨rfl, hB6⟩
  have c6 := c5.trans (hB6.mono c5.size)
  cases l1
  · go_wp2
    go_ret
    exact ⟨rfl, c6⟩
  · go_wp2_with fail
    refine (Hr1.out _).mono ?_
    rintro e w7 ⟨rfl, rfl⟩
    go_wp2_with fail
    refine (Hr2.out _).mono ?_
    rintro e w8 ⟨rfl, rfl⟩
    have hle := Hle.out (by first | rfl | trivial)
    go_wp2
    go_ret
    exact ⟨rfl, c6⟩

theorem near_or (l : List UInt8) (w : World) (hlen : l.length ≤ 1048576) :
    Calls Tryd.prog 17 #[.string ⟨l.toArray⟩] w fun e w' => ∃ (n : Nat), e = .returned (.tuple #[.int .u32 n, .int .i64 (if (pcut l).isSome then 0 else 30)]) ∧ Below w.heap.size w w' := by
  rcases h : pcut l with _ | x
  · refine (nearest_none_any l w h (by omega)).mono ?_
    rintro e w' ⟨rfl, hB⟩
    exact ⟨0, rfl, hB⟩
  · refine (nearest_some_any l w x h (by omega)).mono ?_
    rintro e w' ⟨b, rfl, _, hB⟩
    exact ⟨_, rfl, hB⟩

theorem climbs_law (a b : List UInt8) (w : World) (hla : a.length ≤ 1048576) (hlb : b.length ≤ 1048576) :
    Calls Tryd.prog 7 #[.string ⟨a.toArray⟩, .string ⟨b.toArray⟩] w fun e w' => e = .returned (.bool true) ∧ Below w.heap.size w w' := by
  have va := fun w => valid_any a w (by omega)
  have vb := fun w => valid_any b w (by omega)
  by_cases h : ((pcut a).isSome && (pcut b).isSome) = false
  · exact climbs_bad a b w (pcut a).isSome (pcut b).isSome (if (pcut a).isSome then 0 else 30) (if (pcut b).isSome then 0 else 30) h (by cases (pcut a).isSome <;> rfl) (by cases (pcut b).isSome <;> rfl) (by cases (pcut a).isSome <;> rfl) (by cases (pcut b).isSome <;> rfl) started_any (fun w => near_or a w hla) (fun w => near_or b w hlb) va vb
  · rcases ha : pcut a with _ | x
    · rw [ha] at h; exact absurd rfl h
    rcases hb : pcut b with _ | y
    · rw [ha, hb] at h; exact absurd rfl h
    rw [ha] at va
    rw [hb] at vb
    rcases hh : a with _ | ⟨c0, t⟩
    · exact absurd hh (pcut_some_ne ha)
    rw [← hh]
    have hm : x.1 = decide (c0 = 45) := by
      rw [pcut_minus ha, hh]
      simp
    exact climbs_good a b c0 t hh w x.1 y.1 (decide (okey x y ≤ 0)) (NearS x) (NearS y) hm hla (fun n h => h.1) (fun n h => h.1)
      (fun n1 n2 h1 h2 hl => rk_climb h1 h2 (good_cut ha) (good_cut hb) (of_decide_eq_true hl)) started_any
      (fun w => nearest_some_any a w x ha (by omega)) (fun w => nearest_some_any b w y hb (by omega)) va vb (fun w => less_key ha hb (by omega) (by omega) w)

end Go.Proofs.YtgkbbcoagnilgaaDoor
