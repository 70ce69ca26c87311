import Derived.Test.YtgkbbcoagnilgaaDoorOrdM
import Derived.Test.YtgkbbcoagnilgaaDoorStarted
namespace Go.Proofs.YtgkbbcoagnilgaaDoor
open Go.RowKit

theorem cmpV_key {a b : List UInt8} {x y : PartsM} (ha : pcut a = some x) (hb : pcut b = some y) (hla : a.length ≤ 1073741824) (hlb : b.length ≤ 1073741824) : cmpV (pcut a) (pcut b) = (okey x y, 0) := by
  obtain ⟨m, g, f, p, d⟩ := x
  obtain ⟨m', g', f', p', d'⟩ := y
  have l1 := pcut_len ha
  have l2 := pcut_len hb
  have o1 := oof_bd (m, g, f, p, d) a.length (by show g.length + f.length ≤ _; omega)
  have o2 := oof_bd (m', g', f', p', d') b.length (by show g'.length + f'.length ≤ _; omega)
  rw [ha, hb]
  show (cmpP _ _, (0 : Int)) = _
  rw [cmpP_key _ _ (pcut_digs ha).2.2 (pcut_digs hb).2.2 (by omega) (by omega)]

theorem compare_key {a b : List UInt8} {x y : PartsM} (ha : pcut a = some x) (hb : pcut b = some y) (hla : a.length ≤ 1073741824) (hlb : b.length ≤ 1073741824) (w : World) :
    Calls Tryd.prog 12 #[.string ⟨a.toArray⟩, .string ⟨b.toArray⟩] w fun e w' => e = .returned (.tuple #[.int .i64 (okey x y), .int .i64 0]) ∧ Below w.heap.size w w' := by
  have h := compare_any a b w (by omega) (by omega)
  rw [cmpV_key ha hb hla hlb] at h
  exact h

theorem compare_bad {a b : List UInt8} (h : pcut a = none ∨ pcut b = none) (hla : a.length ≤ 1073741824) (hlb : b.length ≤ 1073741824) (w : World) :
    Calls Tryd.prog 12 #[.string ⟨a.toArray⟩, .string ⟨b.toArray⟩] w fun e w' => e = .returned (.tuple #[.int .i64 0, .int .i64 30]) ∧ Below w.heap.size w w' := by
  have hc := compare_any a b w (by omega) (by omega)
  have e : cmpV (pcut a) (pcut b) = (0, 30) := by
    rcases h with h | h
    · rw [h]; rfl
    · rw [h]; cases pcut a <;> rfl
  rw [e] at hc
  exact hc

set_option maxHeartbeats 400000 in
theorem less_key {a b : List UInt8} {x y : PartsM} (ha : pcut a = some x) (hb : pcut b = some y) (hla : a.length ≤ 1073741824) (hlb : b.length ≤ 1073741824) (w : World) :
    Calls Tryd.prog 15 #[.string ⟨a.toArray⟩, .string ⟨b.toArray⟩] w fun e w' => e = .returned (.bool (decide (okey x y ≤ 0))) ∧ Below w.heap.size w w' := by
  have H := fun w => compare_key ha hb hla hlb w
  generalize okey x y = X at H
  have HC : Hid (∀ w, Calls Tryd.prog 12 #[.string ⟨a.toArray⟩, .string ⟨b.toArray⟩] w fun e w' => e = .returned (.tuple #[.int .i64 X, .int .i64 0]) ∧ Below w.heap.size w w') := H
  clear H ha hb
  go_enter Tryd.func15, Tryd.ntmps15
  go_wp2_with fail
  refine (HC.out _).mono ?_
  rintro e w1 ⟨rfl, hB1⟩
  go_wp2
  go_ret
  exact ⟨rfl, hB1⟩

set_option maxHeartbeats 1000000 in
theorem orders_bad (a b c : List UInt8) (w : World) (va vb : Bool) (hv : (va && vb) = false)
    (HS : Hid (∀ w, Calls Tryd.prog 14 #[] w fun e w' => e = .returned (.bool true) ∧ Below w.heap.size w w'))
    (H1 : Hid (∀ w, Calls Tryd.prog 12 #[.string ⟨a.toArray⟩, .string ⟨b.toArray⟩] w fun e w' => e = .returned (.tuple #[.int .i64 0, .int .i64 30]) ∧ Below w.heap.size w w'))
    (H2 : Hid (∀ w, Calls Tryd.prog 12 #[.string ⟨b.toArray⟩, .string ⟨a.toArray⟩] w fun e w' => e = .returned (.tuple #[.int .i64 0, .int .i64 30]) ∧ Below w.heap.size w w'))
    (HVa : Hid (∀ w, Calls Tryd.prog 10 #[.string ⟨a.toArray⟩] w fun e w' => e = .returned (.bool va) ∧ Below w.heap.size w w'))
    (HVb : Hid (∀ w, Calls Tryd.prog 10 #[.string ⟨b.toArray⟩] w fun e w' => e = .returned (.bool vb) ∧ Below w.heap.size w w')) :
    Calls Tryd.prog 5 #[.string ⟨a.toArray⟩, .string ⟨b.toArray⟩, .string ⟨c.toArray⟩] w fun e w' => e = .returned (.bool true) ∧ Below w.heap.size w w' := by
  go_enter Tryd.func5, Tryd.ntmps5
  go_wp2_with fail
  refine (HS.out _).mono ?_
  rintro e w1 ⟨rfl, hB1⟩
  go_wp2_with fail
  refine (H1.out _).mono ?_
  rintro e w2 ⟨rfl, hB2⟩
  go_wp2_with fail
  refine (H2.out _).mono ?_
  rintro e w3 ⟨rfl, hB3⟩
  have c2 := hB1.trans (hB2.mono hB1.size)
  have c3 := c2.trans (hB3.mono c2.size)
  go_wp2_with fail
  refine (HVa.out _).mono ?_
  rintro e w4 ⟨rfl, hB4⟩
  have c4 := c3.trans (hB4.mono c3.size)
  cases va
  · go_wp2
    go_ret
    exact ⟨rfl, c4⟩
  · obtain rfl : vb = false := by simpa using hv
    go_wp2_with fail
    refine (HVb.out _).mono ?_
    rintro e w5 ⟨rfl, hB5⟩
    have c5 := c4.trans (hB5.mono c4.size)
    go_wp2
    go_ret
    exact ⟨rfl, c5⟩

set_option maxHeartbeats 1000000 in
theorem orders_good (a b c : List UInt8) (w : World) (X Y : Int) (vc l1 l2 l3 : Bool) (hX1 : -1 ≤ X) (hX2 : X ≤ 1) (hY : IntKind.i64.wrap (-Y) = X) (hl : (!l1 || !l2 || l3) = true)
    (HS : Hid (∀ w, Calls Tryd.prog 14 #[] w fun e w' => e = .returned (.bool true) ∧ Below w.heap.size w w'))
    (H1 : Hid (∀ w, Calls Tryd.prog 12 #[.string ⟨a.toArray⟩, .string ⟨b.toArray⟩] w fun e w' => e = .returned (.tuple #[.int .i64 X, .int .i64 0]) ∧ Below w.heap.size w w'))
    (H2 : Hid (∀ w, Calls Tryd.prog 12 #[.string ⟨b.toArray⟩, .string ⟨a.toArray⟩] w fun e w' => e = .returned (.tuple #[.int .i64 Y, .int .i64 0]) ∧ Below w.heap.size w w'))
    (H3 : Hid (∀ w, Calls Tryd.prog 12 #[.string ⟨a.toArray⟩, .string ⟨a.toArray⟩] w fun e w' => e = .returned (.tuple #[.int .i64 0, .int .i64 0]) ∧ Below w.heap.size w w'))
    (HVa : Hid (∀ w, Calls Tryd.prog 10 #[.string ⟨a.toArray⟩] w fun e w' => e = .returned (.bool true) ∧ Below w.heap.size w w'))
    (HVb : Hid (∀ w, Calls Tryd.prog 10 #[.string ⟨b.toArray⟩] w fun e w' => e = .returned (.bool true) ∧ Below w.heap.size w w'))
    (HVc : Hid (∀ w, Calls Tryd.prog 10 #[.string ⟨c.toArray⟩] w fun e w' => e = .returned (.bool vc) ∧ Below w.heap.size w w'))
    (HL1 : Hid (vc = true → ∀ w, Calls Tryd.prog 15 #[.string ⟨a.toArray⟩, .string ⟨b.toArray⟩] w fun e w' => e = .returned (.bool l1) ∧ Below w.heap.size w w'))
    (HL2 : Hid (vc = true → ∀ w, Calls Tryd.prog 15 #[.string ⟨b.toArray⟩, .string ⟨c.toArray⟩] w fun e w' => e = .returned (.bool l2) ∧ Below w.heap.size w w'))
    (HL3 : Hid (vc = true → ∀ w, Calls Tryd.prog 15 #[.string ⟨a.toArray⟩, .string ⟨c.toArray⟩] w fun e w' => e = .returned (.bool l3) ∧ Below w.heap.size w w')) :
    Calls Tryd.prog 5 #[.string ⟨a.toArray⟩, .string ⟨b.toArray⟩, .string ⟨c.toArray⟩] w fun e w' => e = .returned (.bool true) ∧ Below w.heap.size w w' := by
  have Hl : Hid ((!l1 || !l2 || l3) = true) := hl
  have hq : (X != X) = false := by simp
  clear hl
  go_enter Tryd.func5, Tryd.ntmps5
  go_wp2_with fail
  refine (HS.out _).mono ?_
  rintro e w1 ⟨rfl, hB1⟩
  go_wp2_with fail
  refine (H1.out _).mono ?_
  rintro e w2 ⟨rfl, hB2⟩
  go_wp2_with fail
  refine (H2.out _).mono ?_
  rintro e w3 ⟨rfl, hB3⟩
  have c2 := hB1.trans (hB2.mono hB1.size)
  have c3 := c2.trans (hB3.mono c2.size)
  go_wp2_with fail
  refine (HVa.out _).mono ?_
  rintro e w4 ⟨rfl, hB4⟩
  go_wp2_with fail
  refine (HVb.out _).mono ?_
  rintro e w5 ⟨rfl, hB5⟩
  go_wp2_with fail
  refine (H3.out _).mono ?_
  rintro e w6 ⟨rfl, hB6⟩
  have c4 := c3.trans (hB4.mono c3.size)
  have c5 := c4.trans (hB5.mono c4.size)
  have c6 := c5.trans (hB6.mono c5.size)
  go_wp2_with fail
  refine (HVc.out _).mono ?_
  rintro e w7 ⟨rfl, hB7⟩
  have c7 := c6.trans (hB7.mono c6.size)
  cases vc
  · go_wp2
    go_ret
    exact ⟨rfl, c7⟩
  · go_wp2_with fail
    refine (HL1.out (by first | rfl | trivial) _).mono ?_
    rintro e w8 ⟨rfl, hB8⟩
    have c8 := c7.trans (hB8.mono c7.size)
    cases l1
    · go_wp2
      go_ret
      exact ⟨rfl, c8⟩
    · go_wp2_with fail
      refine (HL2.out (by first | rfl | trivial) _).mono ?_
      rintro e w9 ⟨rfl, hB9⟩
      have c9 := c8.trans (hB9.mono c8.size)
      cases l2
      · go_wp2
        go_ret
        exact ⟨rfl, c9⟩
      · go_wp2_with fail
        refine (HL3.out (by first | rfl | trivial) _).mono ?_
        rintro e w10 ⟨rfl, hB10⟩
        have c10 := c9.trans (hB10.mono c9.size)
        have hl3 := Hl.out
        simp at hl3
        subst hl3
        go_wp2
        go_ret
        exact ⟨rfl, c10⟩

theorem orders_law (a b c : List UInt8) (w : World) (hla : a.length ≤ 1048576) (hlb : b.length ≤ 1048576) (hlc : c.length ≤ 1048576) :
    Calls Tryd.prog 5 #[.string ⟨a.toArray⟩, .string ⟨b.toArray⟩, .string ⟨c.toArray⟩] w fun e w' => e = .returned (.bool true) ∧ Below w.heap.size w w' := by
  have va := fun w => valid_any a w (by omega)
  have vb := fun w => valid_any b w (by omega)
  have vc := fun w => valid_any c w (by omega)
  by_cases h : pcut a = none ∨ pcut b = none
  · refine orders_bad a b c w (pcut a).isSome (pcut b).isSome ?_ started_any (fun w => compare_bad h (by omega) (by omega) w) (fun w => compare_bad h.symm (by omega) (by omega) w) va vb
    rcases h with h | h
    · rw [h]; rfl
    · rw [h]; cases (pcut a).isSome <;> rfl
  · rcases ha : pcut a with _ | x
    · exact absurd (.inl ha) h
    rcases hb : pcut b with _ | y
    · exact absurd (.inr hb) h
    rw [ha] at va
    rw [hb] at vb
    have bd := ok_bd x y
    have tn := ok_turn x y
    have ct := fun w => compare_key hb ha (by omega) (by omega) w
    have cs := fun w => compare_key ha ha (by omega) (by omega) w
    rw [ok_self] at cs
    have hn : IntKind.i64.wrap (-(okey y x)) = okey x y := by rw [IntKind.wrap_i64]; omega
    rcases hc : pcut c with _ | z
    · rw [hc] at vc
      exact orders_good a b c w (okey x y) (okey y x) false true true true bd.1 bd.2 hn rfl started_any (fun w => compare_key ha hb (by omega) (by omega) w) ct cs va vb vc (fun h => by cases h) (fun h => by cases h) (fun h => by cases h)
    · rw [hc] at vc
      refine orders_good a b c w (okey x y) (okey y x) true (decide (okey x y ≤ 0)) (decide (okey y z ≤ 0)) (decide (okey x z ≤ 0)) bd.1 bd.2 hn ?_ started_any (fun w => compare_key ha hb (by omega) (by omega) w) ct cs va vb vc (fun _ w => less_key ha hb (by omega) (by omega) w) (fun _ w => less_key hb hc (by omega) (by omega) w) (fun _ w => less_key ha hc (by omega) (by omega) w)
      by_cases h1 : okey x y ≤ 0
      · by_cases h2 : okey y z ≤ 0
        · rw [decide_eq_true (ok_trans x y z h1 h2)]; simp
        · rw [decide_eq_false h2]; simp
      · rw [decide_eq_false h1]; simp

end Go.Proofs.YtgkbbcoagnilgaaDoor
