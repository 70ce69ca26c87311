import Derived.Test.YthnogdkkdekgpaaDoorRsRM
import Derived.Lib.Strings
import Derived.Lib.Slices
import Derived.Lib.Small
import Derived.Lib.Walk
namespace Go.Proofs.YthnogdkkdekgpaaDoor
open Go.RowKit

theorem len8_int (x : Int) (w : World) (h0 : 0 ≤ x) (h1 : x ≤ 255) : Calls Tryd.prog 82 #[.int .u8 x] w fun e w' => e = .returned (.int .i64 (Lib.bitLen x.toNat)) ∧ w' = w := by
  have e1 : wrap64 (Lib.len8 x) = (Lib.bitLen x.toNat : Int) := by
    rw [Lib.len8_of x h0 h1]
    have l := Lib.bitLen_le8 ⟨x.toNat, by omega⟩
    simp only at l
    generalize Lib.bitLen x.toNat = y at *
    unfold wrap64
    omega
  have E : Hid (wrap64 (Lib.len8 x) = (Lib.bitLen x.toNat : Int)) := e1
  clear e1
  go_enter Tryd.func82, Tryd.ntmps82
  go_wp2
  go_ret
  rw [E.out]
  exact ⟨rfl, rfl⟩
theorem len8_any (x : UInt8) (w : World) : Calls Tryd.prog 82 #[.int .u8 (x.toNat : Int)] w fun e w' => e = .returned (.int .i64 (Lib.bitLen x.toNat : Int)) ∧ w' = w := by
  have hx := x.toNat_lt
  have := len8_int (x.toNat : Int) w (by omega) (by omega)
  rwa [Int.toNat_natCast] at this

theorem lead8_any (x : UInt8) (w : World) : Calls Tryd.prog 73 #[.int .u8 (x.toNat : Int)] w fun e w' => e = .returned (.int .i64 (8 - (Lib.bitLen x.toNat : Int))) ∧ w' = w := by
  have l := Lib.bitLen_le8 ⟨x.toNat, x.toNat_lt⟩
  simp only at l
  have C := len8_any x w
  generalize (Lib.bitLen x.toNat) = y at *
  have e8 : (8 - (y : Int) + 9223372036854775808) % 18446744073709551616 - 9223372036854775808 = 8 - (y : Int) := by omega
  go_enter Tryd.func73, Tryd.ntmps73
  go_wp2_with fail
  refine C.mono ?_
  rintro e w' ⟨rfl, rfl⟩
  clear C
  go_wp2
  go_ret
  refine ⟨?_, rfl⟩
  first | rfl | (rw [← e8]; rfl)

theorem and_one : ∀ n : Fin 256, (bits BinOp.and IntKind.u8 (n.val : Int) 1 == 0) = (n.val % 2 == 0) := by decide +kernel

set_option maxHeartbeats 1000000 in
theorem odd_any (ao : Option Addr) (c : Nat) (l : List UInt8) (lo hi : Int) (w : World) (hr : Rd w ao l) (hl : l.length ≤ 1000000000) :
    Calls Tryd.prog 56 #[.slice ao l.length c, .int .i64 lo, .int .i64 hi] w fun e w' => e = .returned (.bool (oddV l lo hi)) ∧ w' = w := by
  by_cases h0 : l.length = 0
  · obtain rfl := List.eq_nil_of_length_eq_zero h0
    clear hr h0 hl
    go_enter Tryd.func56, Tryd.ntmps56
    go_wp2
    go_ret
    exact ⟨rfl, rfl⟩
  · have hpos : 0 < l.length := by omega
    rcases hr with hr | ⟨g, off, rfl, hg, hc⟩
    · subst hr; simp at h0
    have g0 := hc 0 hpos
    have g1 := hc (l.length - 1) (by omega)
    unfold B at g0 g1
    rw [Nat.add_zero] at g0
    have hz : ((l.length : Int) == 0) = false := beq_eq_false_iff_ne.2 (by omega)
    have ei : (l.length : Int) - 1 = ((l.length - 1 : Nat) : Int) := by omega
    by_cases hc0 : l.getD 0 0 = 0
    · have Hv : Hid (oddV l lo hi = false) := oddV_zero l lo hi hc0
      rw [hc0] at g0
      clear hc hc0 g1 h0
      go_enter Tryd.func56, Tryd.ntmps56
      go_wp2
      go_ret
      rw [Hv.out]
      exact ⟨rfl, rfl⟩
    · have hx0 : (((l.getD 0 0).toNat : Int) == 0) = false := by
        simp only [beq_eq_false_iff_ne, ne_eq]
        intro e
        exact hc0 (UInt8.toNat_inj.1 (by have : (l.getD 0 0).toNat = 0 := by omega
                                         rw [this]; rfl))
      clear hc
      have C := lead8_any (l.getD 0 0) w
      have hbl := Lib.bitLen_le8 ⟨(l.getD 0 0).toNat, (l.getD 0 0).toNat_lt⟩
      simp only at hbl
      have ha := and_one ⟨(l.getD (l.length - 1) 0).toNat, (l.getD (l.length - 1) 0).toNat_lt⟩
      simp only at ha
      have he0 := oddV_even l lo hi hpos
      have he1 := oddV_is l lo hi hpos hc0
      by_cases hp : (l.getD (l.length - 1) 0).toNat % 2 = 0
      · have Hv : Hid (oddV l lo hi = false) := he0 hp
        rw [hp] at ha
        clear he0 he1 hp hc0 C
        generalize (l.getD (l.length - 1) 0).toNat = x1 at *
        generalize (l.getD 0 0).toNat = x0 at *
        go_enter Tryd.func56, Tryd.ntmps56
        go_wp2_with fail
        go_ret
        rw [Hv.out]
        exact ⟨rfl, rfl⟩
      · have hp1 : (l.getD (l.length - 1) 0).toNat % 2 = 1 := by omega
        have Hv : Hid (oddV l lo hi = (decide (lo ≤ 8 * (l.length : Int) - (8 - (Lib.bitLen (l.getD 0 0).toNat : Int))) && decide (8 * (l.length : Int) - (8 - (Lib.bitLen (l.getD 0 0).toNat : Int)) ≤ hi))) := he1 hp1
        rw [hp1] at ha
        clear he0 he1 hp hp1 hc0
        generalize Lib.bitLen (l.getD 0 0).toNat = y at *
        generalize (l.getD (l.length - 1) 0).toNat = x1 at *
        generalize (l.getD 0 0).toNat = x0 at *
        go_enter Tryd.func56, Tryd.ntmps56
        go_wp2_with fail
        refine C.mono ?_
        rintro e w' ⟨rfl, rfl⟩
        clear C
        obtain ⟨D, hD⟩ : ∃ D : Int, 8 * (l.length : Int) - (8 - (y : Int)) = D := ⟨_, rfl⟩
        by_cases c1 : lo ≤ D
        · have d1 : decide (lo ≤ D) = true := decide_eq_true c1
          by_cases c2 : D ≤ hi
          · have d2 : decide (D ≤ hi) = true := decide_eq_true c2
            rw [hD, d1, d2] at Hv
            clear c1 c2
            go_wp2
            go_ret
            rw [Hv.out]
            exact ⟨rfl, rfl⟩
          · have d2 : decide (D ≤ hi) = false := decide_eq_false c2
            rw [hD, d1, d2] at Hv
            clear c1 c2
            go_wp2
            go_ret
            rw [Hv.out]
            exact ⟨rfl, rfl⟩
        · have d1 : decide (lo ≤ D) = false := decide_eq_false c1
          rw [hD, d1] at Hv
          clear c1
          go_wp2
          go_ret
          rw [Hv.out]
          exact ⟨rfl, rfl⟩

theorem keyC_of (n e : List UInt8) (a b : Bool) (ha : oddV n 2048 4096 = a) (hb : oddV e 2 32 = b) : keyC n e = if a && b then 0 else 90 := by unfold keyC keyV; rw [ha, hb]
theorem key_any (a1 a2 : Option Addr) (c1 c2 : Nat) (n e : List UInt8) (w : World) (h1 : Rd w a1 n) (h2 : Rd w a2 e) (l1 : n.length ≤ 1000000000) (l2 : e.length ≤ 1000000000) :
    Calls Tryd.prog 31 #[.slice a1 n.length c1, .slice a2 e.length c2] w fun x w' => x = .returned (.int .i64 (keyC n e)) ∧ w' = w := by
  have C1 := odd_any a1 c1 n 2048 4096 w h1 l1
  have C2 := odd_any a2 c2 e 2 32 w h2 l2
  obtain ⟨o1, ho1⟩ : ∃ o, oddV n 2048 4096 = o := ⟨_, rfl⟩
  obtain ⟨o2, ho2⟩ : ∃ o, oddV e 2 32 = o := ⟨_, rfl⟩
  rw [ho1] at C1
  rw [ho2] at C2
  rw [keyC_of n e o1 o2 ho1 ho2]
  clear ho1 ho2 h1 h2
  cases o1
  · go_enter Tryd.func31, Tryd.ntmps31
    go_wp2_with fail
    refine C1.mono ?_
    rintro x w' ⟨rfl, rfl⟩
    clear C1 C2
    go_wp2
    go_ret
    exact ⟨rfl, rfl⟩
  · cases o2 <;>
    · go_enter Tryd.func31, Tryd.ntmps31
      go_wp2_with fail
      refine C1.mono ?_
      rintro x w' ⟨rfl, rfl⟩
      clear C1
      go_wp2_with fail
      refine C2.mono ?_
      rintro x w' ⟨rfl, rfl⟩
      clear C2
      go_wp2
      go_ret
      exact ⟨rfl, rfl⟩

end Go.Proofs.YthnogdkkdekgpaaDoor
