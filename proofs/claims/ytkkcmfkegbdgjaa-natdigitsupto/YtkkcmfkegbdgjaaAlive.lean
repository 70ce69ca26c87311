import Derived.Test.YtkkcmfkegbdgjaaFromU
import Derived.Test.YtkkcmfkegbdgjaaFromB
import Derived.Test.YtkkcmfkegbdgjaaSame
namespace Go.Proofs.Ytkkcmfkegbdgjaa
open Go.RowKit

theorem bl_aa : bl (18446744073709551615 * 18446744073709551615) = 128 := by decide +kernel
theorem dg_32 : dg Bs 4294967296 = [0, 1] := by
  rw [dg_pos Bs_two (by decide), show 4294967296 % Bs = 0 from by decide, show 4294967296 / Bs = 1 from by decide, dg_pos Bs_two (by decide), show 1 % Bs = 1 from by decide, show 1 / Bs = 0 from by decide, dg_zero]
theorem bv_five : bv [1, 0, 0, 0, 0] = 4294967296 := by decide
theorem dg_len64 {v : Nat} (h : v < 18446744073709551616) : (dg Bs v).length ≤ 2 := dg_len Bs_two 2 v (by rw [show Bs ^ 2 = 18446744073709551616 from by decide]; exact h)
theorem Ow.two {w : World} {base : Nat} {v : Value} {a b : Nat} (h : Ow w base v [a, b]) : ∃ g cap : Nat, v = .slice (some ⟨g, 0, none⟩) 2 cap ∧ w.cell? ⟨g, 0, none⟩ = some (.int .u32 (a : Int)) ∧ w.cell? ⟨g, 1, none⟩ = some (.int .u32 (b : Int)) := by
  rcases h.2 with ⟨_, h0⟩ | ⟨g, cap, cur, rfl, r⟩
  · simp at h0
  · exact ⟨g, cap, rfl, World.ownsRow.cellAt h 0 (by simp), World.ownsRow.cellAt h 1 (by simp)⟩
theorem Ow.none {w : World} {base : Nat} {v : Value} (h : Ow w base v []) : ∃ (a : Option Addr) (cap : Nat), v = .slice a 0 cap := by
  rcases h.2 with ⟨h0, _⟩ | ⟨g, cap, cur, e, r⟩
  · exact ⟨_, _, h0⟩
  · exact ⟨_, _, e⟩
theorem cell_below {w w' : World} {g o n : Nat} {v : Value} (h : w.cell? ⟨g, o, none⟩ = some v) (hb : Below n w w') (hn : w.heap.size ≤ n) : w'.cell? ⟨g, o, none⟩ = some v := cell_but h fun hg => hb.block _ (by omega)

set_option maxRecDepth 100000 in
set_option maxHeartbeats 2000000 in
theorem alive_any (w : World) : Calls Try.prog 21 #[] w fun e w' => e = .returned (.bool true) ∧ Below w.heap.size w w' := by
  have C := fromUint_any 18446744073709551615 w (by decide)
  rw [show ((18446744073709551615 : Nat) : Int) = 18446744073709551615 from rfl] at C
  obtain ⟨A, HA⟩ : ∃ A : Nat, Hid (18446744073709551615 = A) := ⟨18446744073709551615, (rfl : (18446744073709551615 : Nat) = 18446744073709551615)⟩
  have hA0 : 0 < A := by rw [← HA.out]; decide
  have HAL : Hid ((dg Bs A).length ≤ 2 ∧ (dg Bs (A * A)).length ≤ 4) := by
    refine ⟨dg_len64 (by rw [← HA.out]; decide), dg_len Bs_two 4 _ ?_⟩
    rw [← HA.out]
    exact (by decide +kernel : 18446744073709551615 * 18446744073709551615 < Bs ^ 4)
  rw [HA.out] at C
  go_enter Try.func21, Try.ntmps21
  go_wp2_with fail
  refine C.mono ?_
  clear C
  rintro e w1 ⟨a, rfl, oa, b1⟩
  have Na := oa.nm (dg_sm Bs_two A)
  have HB1 : Hid (Below w.heap.size w w1) := b1
  have C := mul_nm a a _ _ w1 Na Na (by have := HAL.out; omega) (by have := HAL.out; omega)
  rw [dg_nv Bs_two] at C
  have HNa : Hid (Nm w1 a (dg Bs A)) := Na
  clear oa Na b1
  go_wp2_with fail
  refine C.mono ?_
  clear C
  rintro e w2 ⟨p, rfl, op, b2⟩
  have Np := op.nm (dg_sm Bs_two (A * A))
  have HNa2 := HNa.out.below b2 (Nat.le_refl _)
  have C := divmod_pos p a _ _ w2 Np HNa2 (by have := HAL.out; omega) (by have := HAL.out; omega) (by rw [dg_nv Bs_two]; omega)
  rw [dg_nv Bs_two, dg_nv Bs_two, Nat.mul_div_cancel _ hA0, Nat.mul_mod_left, dg_zero] at C
  have HB2 : Hid (Below w.heap.size w w2) := HB1.out.trans (b2.mono HB1.out.size)
  have HNp : Hid (Nm w2 p (dg Bs (A * A))) := Np
  clear op Np b2 HNa2 HNa
  go_wp2_with fail
  refine C.mono ?_
  clear C
  rintro e w3 ⟨q, r, b, rfl, oq, or, _, _, b3⟩
  obtain ⟨ra, rc, rfl⟩ := or.none
  have HB3 : Hid (Below w.heap.size w w3) := HB2.out.trans (b3.mono HB2.out.size)
  have C := uint_nm q _ w3 (oq.nm (dg_sm Bs_two A)) (by have := HAL.out; omega)
  rw [dg_nv Bs_two, if_pos (by rw [← HA.out]; decide), decide_eq_true (by rw [← HA.out]; decide), ← HA.out, show ((18446744073709551615 : Nat) : Int) = 18446744073709551615 from rfl] at C
  have HNp3 : Hid (Nm w3 p (dg Bs (A * A))) := HNp.out.below b3 (Nat.le_refl _)
  clear oq or b3 HNp
  go_wp2_with fail
  refine C.mono ?_
  clear C
  rintro e w3 ⟨rfl, rfl⟩
  have hb4 := alloc_below w3 (.cells #[.int .u8 1, .int .u8 0, .int .u8 0, .int .u8 0, .int .u8 0] 5)
  have hrd : Rd (w3.alloc (.cells #[.int .u8 1, .int .u8 0, .int .u8 0, .int .u8 0, .int .u8 0] 5)) (some ⟨w3.heap.size, 0, none⟩) [1, 0, 0, 0, 0] := by
    have hbl := alloc_bl w3 (([1, 0, 0, 0, 0] : List UInt8).map B) 5
    refine .inr ⟨w3.heap.size, 0, rfl, hbl.lt, fun j hj => ?_⟩
    rw [Nat.zero_add]
    exact (hbl.cell j (by simpa using hj)).trans (by rw [List.getElem_map, List.getD_eq_getElem?_getD, List.getElem?_eq_getElem hj]; rfl)
  have C := fromBytes_any (some ⟨w3.heap.size, 0, none⟩) 5 [1, 0, 0, 0, 0] _ hrd (by decide)
  rw [bv_five, dg_32] at C
  have HB4 : Hid (Below w.heap.size w (w3.alloc (.cells #[.int .u8 1, .int .u8 0, .int .u8 0, .int .u8 0, .int .u8 0] 5))) := HB3.out.trans (hb4.mono HB3.out.size)
  have HNp4 : Hid (Nm (w3.alloc (.cells #[.int .u8 1, .int .u8 0, .int .u8 0, .int .u8 0, .int .u8 0] 5)) p (dg Bs (A * A))) := HNp3.out.below hb4 (Nat.le_refl _)
  clear hb4 hrd HNp3
  go_wp2_with fail
  generalize w3.alloc (.cells #[.int .u8 1, .int .u8 0, .int .u8 0, .int .u8 0, .int .u8 0] 5) = w4 at *
  refine C.mono ?_
  clear C
  rintro e w5 ⟨c, rfl, oc, b5⟩
  obtain ⟨g, cap, rfl, c0, c1⟩ := oc.two
  have HB5 : Hid (Below w.heap.size w w5) := HB4.out.trans (b5.mono HB4.out.size)
  have C := bits_nm p _ w5 (HNp4.out.below b5 (Nat.le_refl _)) (by have := HAL.out; omega)
  rw [dg_nv Bs_two, ← HA.out, bl_aa, show ((128 : Nat) : Int) = 128 from rfl] at C
  clear oc b5 HNp4
  rw [show ((0 : Nat) : Int) = 0 from rfl] at c0
  rw [show ((1 : Nat) : Int) = 1 from rfl] at c1
  go_wp2_with fail
  refine C.mono ?_
  clear C
  rintro e w5 ⟨rfl, rfl⟩
  go_wp2
  go_ret
  exact ⟨rfl, HB5.out⟩

end Go.Proofs.Ytkkcmfkegbdgjaa
