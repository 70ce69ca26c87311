import Derived.Test.YtgkbbcoagnilgabDoorStageLaw
namespace Go.Proofs.YtgkbbcoagnilgabDoor
open Go.RowKit

set_option maxRecDepth 10000 in
set_option maxHeartbeats 2000000 in
theorem stage_zero (t T2a T2b : List UInt8) (n : Nat) (ok : Bool) (w : World) (N : Int) (p2 : Nat) (hp1 : Int.tmod N 2 = (p2 : Int)) (hp2 : N % 2 = (p2 : Int)) (hp3 : Hid (p2 = n % 2)) (g1 : decide (N > 2139095040) = false) (_g2 : decide ((2139095040 : Int) < N) = false) (q1 : decide (N > 0) = false) (_q2 : decide ((0 : Int) < N) = false) (q3 : decide (N < 2139095040) = true) (N1 : Int) (hn1 : N + 1 = N1) (hn2 : IntKind.u32.wrap (N + 1) = N1) (hn3 : IntKind.u32.wrap N1 = N1)
    (HS : Hid (∀ w, Calls Tryd.prog 7 #[] w fun e w' => e = .returned (.bool true) ∧ Below w.heap.size w w'))
    (HN : Hid (∀ w, Calls Tryd.prog 8 #[.string ⟨t.toArray⟩] w fun e w' => e = .returned (.tuple #[.int .u32 N, .int .i64 0]) ∧ Below w.heap.size w w'))
    (HV : Hid (∀ w, Calls Tryd.prog 9 #[.string ⟨t.toArray⟩] w fun e w' => e = .returned (.bool true) ∧ Below w.heap.size w w'))
    (V2a : Hid (∀ w, Calls Tryd.prog 12 #[.int .u32 N] w fun e w' => e = .returned (.string ⟨T2a.toArray⟩) ∧ Below w.heap.size w w'))
    (V2b : Hid (∀ w, Calls Tryd.prog 12 #[.int .u32 N1] w fun e w' => e = .returned (.string ⟨T2b.toArray⟩) ∧ Below w.heap.size w w'))
    (S2 : Hid (∀ w, Calls Tryd.prog 11 #[.string ⟨T2a.toArray⟩, .string ⟨T2b.toArray⟩] w fun e w' => ∃ O : List UInt8, e = .returned (.string ⟨O.toArray⟩) ∧ (∀ w, Calls Tryd.prog 10 #[.string ⟨t.toArray⟩, .string ⟨O.toArray⟩] w fun e w' => ∃ X, e = .returned (.tuple #[.int .i64 X, .bool ok]) ∧ (ok = true → X ≤ 0 ∧ (X = 0 → n % 2 = 0)) ∧ Below w.heap.size w w') ∧ Below w.heap.size w w')) :
    Calls Tryd.prog 3 #[.string ⟨t.toArray⟩] w fun e w' => e = .returned (.bool true) ∧ Below w.heap.size w w' := by
  have hp4 := hp3.out
  have Hp4 : Hid (p2 = n % 2) := hp4
  have hpl : p2 < 2 := by rw [hp4]; exact Nat.mod_lt _ (by decide)
  clear hp4
  go_enter Tryd.func3, Tryd.ntmps3
  go_wp2_with fail
  refine (HS.out _).mono ?_
  rintro e w1 ⟨rfl, c1⟩
  go_wp2_with fail
  refine (HN.out _).mono ?_
  rintro e w2 ⟨rfl, hB2⟩
  have c2 := c1.trans (hB2.mono c1.size)
  go_wp2_with fail
  refine (HV.out _).mono ?_
  rintro e w3 ⟨rfl, hB3⟩
  have c3 := c2.trans (hB3.mono c2.size)
  clear hB2 hB3
  go_wp2_with fail
  refine (V2a.out _).mono ?_
  rintro e w4 ⟨rfl, hB4⟩
  have c4 := c3.trans (hB4.mono c3.size)
  go_wp2_with fail
  refine (V2b.out _).mono ?_
  rintro e w5 ⟨rfl, hB5⟩
  have c5 := c4.trans (hB5.mono c4.size)
  go_wp2_with fail
  refine (S2.out _).mono ?_
  rintro e w6 ⟨O2, rfl, htw2, hB6⟩
  have c6 := c5.trans (hB6.mono c5.size)
  have HTw2 : Hid (∀ w, Calls Tryd.prog 10 #[.string ⟨t.toArray⟩, .string ⟨O2.toArray⟩] w fun e w' => ∃ X, e = .returned (.tuple #[.int .i64 X, .bool ok]) ∧ (ok = true → X ≤ 0 ∧ (X = 0 → n % 2 = 0)) ∧ Below w.heap.size w w') := htw2
  clear htw2
  go_wp2_with fail
  refine (HTw2.out _).mono ?_
  rintro e w7 ⟨X2, rfl, hP2, hB7⟩
  have c7 := c6.trans (hB7.mono c6.size)
  have HP2 : Hid (ok = true → X2 ≤ 0 ∧ (X2 = 0 → n % 2 = 0)) := hP2
  clear hP2 hB4 hB5 hB6 hB7
  cases ok
  · skip
    go_wp2
    go_ret
    exact ⟨rfl, c7⟩
  · obtain ⟨x21, x22⟩ := HP2.out (by first | rfl | trivial)
    have l21 : decide (X2 > 0) = false := decide_eq_false (by omega)
    have l22 : decide (0 < X2) = false := decide_eq_false (by omega)
    by_cases x02 : X2 = 0
    · have z2 : (X2 == 0) = true := by simp [x02]
      have ev2 := x22 x02
      have od : ((p2 : Int) == 1) = false := by have h := Hp4.out; simp; omega
      clear x02
      go_wp2
      go_ret
      exact ⟨rfl, c7⟩
    · have z2 : (X2 == 0) = false := by simp [x02]
      clear x02
      go_wp2
      go_ret
      exact ⟨rfl, c7⟩

set_option maxRecDepth 10000 in
set_option maxHeartbeats 2000000 in
theorem stage_top (t T1a T1b : List UInt8) (n : Nat) (ok : Bool) (w : World) (N : Int) (p2 : Nat) (hp1 : Int.tmod N 2 = (p2 : Int)) (hp2 : N % 2 = (p2 : Int)) (hp3 : Hid (p2 = n % 2)) (g1 : decide (N > 2139095040) = false) (_g2 : decide ((2139095040 : Int) < N) = false) (q1 : decide (N > 0) = true) (_q2 : decide ((0 : Int) < N) = true) (q3 : decide (N < 2139095040) = false) (K : Int) (hk : N - 1 = K) (hk2 : IntKind.u32.wrap (N - 1) = K) (hk3 : IntKind.u32.wrap K = K)
    (HS : Hid (∀ w, Calls Tryd.prog 7 #[] w fun e w' => e = .returned (.bool true) ∧ Below w.heap.size w w'))
    (HN : Hid (∀ w, Calls Tryd.prog 8 #[.string ⟨t.toArray⟩] w fun e w' => e = .returned (.tuple #[.int .u32 N, .int .i64 0]) ∧ Below w.heap.size w w'))
    (HV : Hid (∀ w, Calls Tryd.prog 9 #[.string ⟨t.toArray⟩] w fun e w' => e = .returned (.bool true) ∧ Below w.heap.size w w'))
    (V1a : Hid (∀ w, Calls Tryd.prog 12 #[.int .u32 K] w fun e w' => e = .returned (.string ⟨T1a.toArray⟩) ∧ Below w.heap.size w w'))
    (V1b : Hid (∀ w, Calls Tryd.prog 12 #[.int .u32 N] w fun e w' => e = .returned (.string ⟨T1b.toArray⟩) ∧ Below w.heap.size w w'))
    (S1 : Hid (∀ w, Calls Tryd.prog 11 #[.string ⟨T1a.toArray⟩, .string ⟨T1b.toArray⟩] w fun e w' => ∃ O : List UInt8, e = .returned (.string ⟨O.toArray⟩) ∧ (∀ w, Calls Tryd.prog 10 #[.string ⟨t.toArray⟩, .string ⟨O.toArray⟩] w fun e w' => ∃ X, e = .returned (.tuple #[.int .i64 X, .bool ok]) ∧ (ok = true → 0 ≤ X ∧ (X = 0 → n % 2 = 0)) ∧ Below w.heap.size w w') ∧ Below w.heap.size w w')) :
    Calls Tryd.prog 3 #[.string ⟨t.toArray⟩] w fun e w' => e = .returned (.bool true) ∧ Below w.heap.size w w' := by
  have hp4 := hp3.out
  have Hp4 : Hid (p2 = n % 2) := hp4
  have hpl : p2 < 2 := by rw [hp4]; exact Nat.mod_lt _ (by decide)
  clear hp4
  go_enter Tryd.func3, Tryd.ntmps3
  go_wp2_with fail
  refine (HS.out _).mono ?_
  rintro e w1 ⟨rfl, c1⟩
  go_wp2_with fail
  refine (HN.out _).mono ?_
  rintro e w2 ⟨rfl, hB2⟩
  have c2 := c1.trans (hB2.mono c1.size)
  go_wp2_with fail
  refine (HV.out _).mono ?_
  rintro e w3 ⟨rfl, hB3⟩
  have c3 := c2.trans (hB3.mono c2.size)
  clear hB2 hB3
  go_wp2_with fail
  refine (V1a.out _).mono ?_
  rintro e w4 ⟨rfl, hB4⟩
  have c4 := c3.trans (hB4.mono c3.size)
  go_wp2_with fail
  refine (V1b.out _).mono ?_
  rintro e w5 ⟨rfl, hB5⟩
  have c5 := c4.trans (hB5.mono c4.size)
  go_wp2_with fail
  refine (S1.out _).mono ?_
  rintro e w6 ⟨O1, rfl, htw1, hB6⟩
  have c6 := c5.trans (hB6.mono c5.size)
  have HTw1 : Hid (∀ w, Calls Tryd.prog 10 #[.string ⟨t.toArray⟩, .string ⟨O1.toArray⟩] w fun e w' => ∃ X, e = .returned (.tuple #[.int .i64 X, .bool ok]) ∧ (ok = true → 0 ≤ X ∧ (X = 0 → n % 2 = 0)) ∧ Below w.heap.size w w') := htw1
  clear htw1
  go_wp2_with fail
  refine (HTw1.out _).mono ?_
  rintro e w7 ⟨X1, rfl, hP1, hB7⟩
  have c7 := c6.trans (hB7.mono c6.size)
  have HP1 : Hid (ok = true → 0 ≤ X1 ∧ (X1 = 0 → n % 2 = 0)) := hP1
  clear hP1 hB4 hB5 hB6 hB7
  cases ok
  · skip
    go_wp2
    go_ret
    exact ⟨rfl, c7⟩
  · obtain ⟨x11, x12⟩ := HP1.out (by first | rfl | trivial)
    have l11 : decide (X1 < 0) = false := decide_eq_false (by omega)
    by_cases x01 : X1 = 0
    · have z1 : (X1 == 0) = true := by simp [x01]
      have ev1 := x12 x01
      have od : ((p2 : Int) == 1) = false := by have h := Hp4.out; simp; omega
      clear x01
      go_wp2
      go_ret
      exact ⟨rfl, c7⟩
    · have z1 : (X1 == 0) = false := by simp [x01]
      clear x01
      go_wp2
      go_ret
      exact ⟨rfl, c7⟩

set_option maxRecDepth 10000 in
set_option maxHeartbeats 4000000 in
theorem stage_mid (t T1a T1b T2a T2b : List UInt8) (n : Nat) (ok : Bool) (w : World) (N : Int) (p2 : Nat) (hp1 : Int.tmod N 2 = (p2 : Int)) (hp2 : N % 2 = (p2 : Int)) (hp3 : Hid (p2 = n % 2)) (g1 : decide (N > 2139095040) = false) (_g2 : decide ((2139095040 : Int) < N) = false) (q1 : decide (N > 0) = true) (_q2 : decide ((0 : Int) < N) = true) (q3 : decide (N < 2139095040) = true) (K : Int) (hk : N - 1 = K) (hk2 : IntKind.u32.wrap (N - 1) = K) (hk3 : IntKind.u32.wrap K = K) (N1 : Int) (hn1 : N + 1 = N1) (hn2 : IntKind.u32.wrap (N + 1) = N1) (hn3 : IntKind.u32.wrap N1 = N1)
    (HS : Hid (∀ w, Calls Tryd.prog 7 #[] w fun e w' => e = .returned (.bool true) ∧ Below w.heap.size w w'))
    (HN : Hid (∀ w, Calls Tryd.prog 8 #[.string ⟨t.toArray⟩] w fun e w' => e = .returned (.tuple #[.int .u32 N, .int .i64 0]) ∧ Below w.heap.size w w'))
    (HV : Hid (∀ w, Calls Tryd.prog 9 #[.string ⟨t.toArray⟩] w fun e w' => e = .returned (.bool true) ∧ Below w.heap.size w w'))
    (V1a : Hid (∀ w, Calls Tryd.prog 12 #[.int .u32 K] w fun e w' => e = .returned (.string ⟨T1a.toArray⟩) ∧ Below w.heap.size w w'))
    (V1b : Hid (∀ w, Calls Tryd.prog 12 #[.int .u32 N] w fun e w' => e = .returned (.string ⟨T1b.toArray⟩) ∧ Below w.heap.size w w'))
    (S1 : Hid (∀ w, Calls Tryd.prog 11 #[.string ⟨T1a.toArray⟩, .string ⟨T1b.toArray⟩] w fun e w' => ∃ O : List UInt8, e = .returned (.string ⟨O.toArray⟩) ∧ (∀ w, Calls Tryd.prog 10 #[.string ⟨t.toArray⟩, .string ⟨O.toArray⟩] w fun e w' => ∃ X, e = .returned (.tuple #[.int .i64 X, .bool ok]) ∧ (ok = true → 0 ≤ X ∧ (X = 0 → n % 2 = 0)) ∧ Below w.heap.size w w') ∧ Below w.heap.size w w'))
    (V2a : Hid (∀ w, Calls Tryd.prog 12 #[.int .u32 N] w fun e w' => e = .returned (.string ⟨T2a.toArray⟩) ∧ Below w.heap.size w w'))
    (V2b : Hid (∀ w, Calls Tryd.prog 12 #[.int .u32 N1] w fun e w' => e = .returned (.string ⟨T2b.toArray⟩) ∧ Below w.heap.size w w'))
    (S2 : Hid (∀ w, Calls Tryd.prog 11 #[.string ⟨T2a.toArray⟩, .string ⟨T2b.toArray⟩] w fun e w' => ∃ O : List UInt8, e = .returned (.string ⟨O.toArray⟩) ∧ (∀ w, Calls Tryd.prog 10 #[.string ⟨t.toArray⟩, .string ⟨O.toArray⟩] w fun e w' => ∃ X, e = .returned (.tuple #[.int .i64 X, .bool ok]) ∧ (ok = true → X ≤ 0 ∧ (X = 0 → n % 2 = 0)) ∧ Below w.heap.size w w') ∧ Below w.heap.size w w')) :
    Calls Tryd.prog 3 #[.string ⟨t.toArray⟩] w fun e w' => e = .returned (.bool true) ∧ Below w.heap.size w w' := by
  have hp4 := hp3.out
  have Hp4 : Hid (p2 = n % 2) := hp4
  have hpl : p2 < 2 := by rw [hp4]; exact Nat.mod_lt _ (by decide)
  clear hp4
  go_enter Tryd.func3, Tryd.ntmps3
  go_wp2_with fail
  refine (HS.out _).mono ?_
  rintro e w1 ⟨rfl, c1⟩
  go_wp2_with fail
  refine (HN.out _).mono ?_
  rintro e w2 ⟨rfl, hB2⟩
  have c2 := c1.trans (hB2.mono c1.size)
  go_wp2_with fail
  refine (HV.out _).mono ?_
  rintro e w3 ⟨rfl, hB3⟩
  have c3 := c2.trans (hB3.mono c2.size)
  clear hB2 hB3
  go_wp2_with fail
  refine (V1a.out _).mono ?_
  rintro e w4 ⟨rfl, hB4⟩
  have c4 := c3.trans (hB4.mono c3.size)
  go_wp2_with fail
  refine (V1b.out _).mono ?_
  rintro e w5 ⟨rfl, hB5⟩
  have c5 := c4.trans (hB5.mono c4.size)
  go_wp2_with fail
  refine (S1.out _).mono ?_
  rintro e w6 ⟨O1, rfl, htw1, hB6⟩
  have c6 := c5.trans (hB6.mono c5.size)
  have HTw1 : Hid (∀ w, Calls Tryd.prog 10 #[.string ⟨t.toArray⟩, .string ⟨O1.toArray⟩] w fun e w' => ∃ X, e = .returned (.tuple #[.int .i64 X, .bool ok]) ∧ (ok = true → 0 ≤ X ∧ (X = 0 → n % 2 = 0)) ∧ Below w.heap.size w w') := htw1
  clear htw1
  go_wp2_with fail
  refine (HTw1.out _).mono ?_
  rintro e w7 ⟨X1, rfl, hP1, hB7⟩
  have c7 := c6.trans (hB7.mono c6.size)
  have HP1 : Hid (ok = true → 0 ≤ X1 ∧ (X1 = 0 → n % 2 = 0)) := hP1
  clear hP1 hB4 hB5 hB6 hB7
  cases ok
  · skip
    go_wp2_with fail
    refine (V2a.out _).mono ?_
    rintro e w8 ⟨rfl, hB8⟩
    have c8 := c7.trans (hB8.mono c7.size)
    go_wp2_with fail
    refine (V2b.out _).mono ?_
    rintro e w9 ⟨rfl, hB9⟩
    have c9 := c8.trans (hB9.mono c8.size)
    go_wp2_with fail
    refine (S2.out _).mono ?_
    rintro e w10 ⟨O2, rfl, htw2, hB10⟩
    have c10 := c9.trans (hB10.mono c9.size)
    go_wp2_with fail
    refine (htw2 _).mono ?_
    rintro e w11 ⟨X2, rfl, hP2, hB11⟩
    have c11 := c10.trans (hB11.mono c10.size)
    have HP2 : Hid (false = true → X2 ≤ 0 ∧ (X2 = 0 → n % 2 = 0)) := hP2
    clear hP2 htw2 hB8 hB9 hB10 hB11
    go_wp2
    go_ret
    exact ⟨rfl, c11⟩
  · obtain ⟨x11, x12⟩ := HP1.out (by first | rfl | trivial)
    have l11 : decide (X1 < 0) = false := decide_eq_false (by omega)
    by_cases x01 : X1 = 0
    · have z1 : (X1 == 0) = true := by simp [x01]
      have ev1 := x12 x01
      have od : ((p2 : Int) == 1) = false := by have h := Hp4.out; simp; omega
      clear x01
      go_wp2_with fail
      refine (V2a.out _).mono ?_
      rintro e w8 ⟨rfl, hB8⟩
      have c8 := c7.trans (hB8.mono c7.size)
      go_wp2_with fail
      refine (V2b.out _).mono ?_
      rintro e w9 ⟨rfl, hB9⟩
      have c9 := c8.trans (hB9.mono c8.size)
      go_wp2_with fail
      refine (S2.out _).mono ?_
      rintro e w10 ⟨O2, rfl, htw2, hB10⟩
      have c10 := c9.trans (hB10.mono c9.size)
      go_wp2_with fail
      refine (htw2 _).mono ?_
      rintro e w11 ⟨X2, rfl, hP2, hB11⟩
      have c11 := c10.trans (hB11.mono c10.size)
      have HP2 : Hid (X2 ≤ 0 ∧ (X2 = 0 → n % 2 = 0)) := hP2 (by first | rfl | trivial)
      clear hP2 htw2 hB8 hB9 hB10 hB11
      obtain ⟨x21, x22⟩ := HP2.out
      have l21 : decide (X2 > 0) = false := decide_eq_false (by omega)
      have l22 : decide (0 < X2) = false := decide_eq_false (by omega)
      by_cases x02 : X2 = 0
      · have z2 : (X2 == 0) = true := by simp [x02]
        have ev2 := x22 x02
        have od2 : ((p2 : Int) == 1) = false := by have h := Hp4.out; simp; omega
        clear x02
        go_wp2
        go_ret
        exact ⟨rfl, c11⟩
      · have z2 : (X2 == 0) = false := by simp [x02]
        clear x02
        go_wp2
        go_ret
        exact ⟨rfl, c11⟩
    · have z1 : (X1 == 0) = false := by simp [x01]
      clear x01
      go_wp2_with fail
      refine (V2a.out _).mono ?_
      rintro e w8 ⟨rfl, hB8⟩
      have c8 := c7.trans (hB8.mono c7.size)
      go_wp2_with fail
      refine (V2b.out _).mono ?_
      rintro e w9 ⟨rfl, hB9⟩
      have c9 := c8.trans (hB9.mono c8.size)
      go_wp2_with fail
      refine (S2.out _).mono ?_
      rintro e w10 ⟨O2, rfl, htw2, hB10⟩
      have c10 := c9.trans (hB10.mono c9.size)
      go_wp2_with fail
      refine (htw2 _).mono ?_
      rintro e w11 ⟨X2, rfl, hP2, hB11⟩
      have c11 := c10.trans (hB11.mono c10.size)
      have HP2 : Hid (X2 ≤ 0 ∧ (X2 = 0 → n % 2 = 0)) := hP2 (by first | rfl | trivial)
      clear hP2 htw2 hB8 hB9 hB10 hB11
      obtain ⟨x21, x22⟩ := HP2.out
      have l21 : decide (X2 > 0) = false := decide_eq_false (by omega)
      have l22 : decide (0 < X2) = false := decide_eq_false (by omega)
      by_cases x02 : X2 = 0
      · have z2 : (X2 == 0) = true := by simp [x02]
        have ev2 := x22 x02
        have od2 : ((p2 : Int) == 1) = false := by have h := Hp4.out; simp; omega
        clear x02
        go_wp2
        go_ret
        exact ⟨rfl, c11⟩
      · have z2 : (X2 == 0) = false := by simp [x02]
        clear x02
        go_wp2
        go_ret
        exact ⟨rfl, c11⟩

end Go.Proofs.YtgkbbcoagnilgabDoor
