import Derived.Test.YtpfdaclmchcbiaaDoorShLong
namespace Go.Proofs.YtpfdaclmchcbiaaDoor.Sha
open Go.RowKit
set_option maxRecDepth 100000

theorem rd_take {w : World} {ao : Option Addr} {l r : List UInt8} (h : Rd w ao (l ++ r)) : Rd w ao l := by
  rcases h with h | ⟨g, off, e, hg, hc⟩
  · exact .inl (List.append_eq_nil_iff.1 h).1
  · refine .inr ⟨g, off, e, hg, fun j hj => ?_⟩
    rw [hc j (by rw [List.length_append]; omega), List.getD_eq_getElem?_getD, List.getD_eq_getElem?_getD, List.getElem?_append_left hj]
theorem rd_out {w : World} {ao : Option Addr} {F : List Int} (h : Rd w ao (outF 8 8 F)) : Rd w ao (outF 8 6 F) := by
  rw [outF_succ, outF_succ, List.append_assoc] at h
  exact rd_take h

set_option maxRecDepth 100000 in
set_option maxHeartbeats 2000000 in
theorem rsum_1 (a : Option Addr) (c : Nat) (m : List UInt8) (w : World) (R : Rt w) (hrd : Rd w a m) (ha : a = none → m.length = 0 ∧ c = 0) (hm : m.length ≤ 100000000) :
    Calls Tryd.prog 10 #[.int .i64 1, .slice a m.length c] w fun e w' => ∃ a' c', e = .returned (.slice a' 32 c') ∧ 32 ≤ c' ∧ c' ≤ maxLen ∧ Rd w' a' (sumF 1 m) ∧ (∀ x, a' = some x → w.heap.size ≤ x.block) ∧ Below w.heap.size w w' := by
  obtain ⟨nb, hnb, hfin⟩ := chR_fin m
  have Hfin : Hid (True → chR (padR 64 m) nb = finF 1 m) := fun _ => hfin
  have C := short_any a c m w R hrd ha hm nb hnb
  clear R hrd hnb hfin
  go_enter Tryd.func10, Tryd.ntmps10
  go_wp2_with fail
  refine C.mono ?_
  rintro e w1 ⟨v, rfl, hown, hb⟩
  obtain ⟨ao, cap, rfl, _, hcap, hmx, _, hr, hbl⟩ := own_rd hown
  have HR : Hid (Rd w1 ao (outF 4 8 (chR (padR 64 m) nb))) := hr
  have HBL : Hid (∀ x, ao = some x → w.heap.size ≤ x.block) := hbl
  have HBW : Hid (Below w.heap.size w w1) := hb
  clear hown hb hr hbl C
  go_wp2
  go_ret
  refine ⟨ao, cap, rfl, by omega, hmx, ?_, HBL.out, HBW.out⟩
  show Rd w1 ao (outF 4 8 (finF 1 m))
  have h1 := HR.out
  rw [Hfin.out trivial] at h1
  exact h1

set_option maxRecDepth 100000 in
set_option maxHeartbeats 2000000 in
theorem rsum_2 (a : Option Addr) (c : Nat) (m : List UInt8) (w : World) (R : Rt w) (hrd : Rd w a m) (ha : a = none → m.length = 0 ∧ c = 0) (hm : m.length ≤ 100000000) :
    Calls Tryd.prog 10 #[.int .i64 2, .slice a m.length c] w fun e w' => ∃ a' c', e = .returned (.slice a' 48 c') ∧ 48 ≤ c' ∧ c' ≤ maxLen ∧ Rd w' a' (sumF 2 m) ∧ (∀ x, a' = some x → w.heap.size ≤ x.block) ∧ Below w.heap.size w w' := by
  obtain ⟨nb, hnb, hfin⟩ := chL_fin (.inl rfl : isL 2) m
  rw [st0_S3] at hfin
  have Hfin : Hid (True → chL S3 (padL m) nb = finF 2 m) := fun _ => hfin
  have HT : Hid (True → S3 = [S3.getD 0 0, S3.getD 1 0, S3.getD 2 0, S3.getD 3 0, S3.getD 4 0, S3.getD 5 0, S3.getD 6 0, S3.getD 7 0]) := fun _ => rfl
  have HB : Hid (∀ k, 0 ≤ S3.getD k 0 ∧ S3.getD k 0 < 18446744073709551616) := S3_bd
  have s0 := R.s3 0 (by omega)
  have s1 := R.s3 1 (by omega)
  have s2 := R.s3 2 (by omega)
  have s3 := R.s3 3 (by omega)
  have s4 := R.s3 4 (by omega)
  have s5 := R.s3 5 (by omega)
  have s6 := R.s3 6 (by omega)
  have s7 := R.s3 7 (by omega)
  unfold V at s0 s1 s2 s3 s4 s5 s6 s7
  generalize S3.getD 0 0 = x0 at s0 HT
  generalize S3.getD 1 0 = x1 at s1 HT
  generalize S3.getD 2 0 = x2 at s2 HT
  generalize S3.getD 3 0 = x3 at s3 HT
  generalize S3.getD 4 0 = x4 at s4 HT
  generalize S3.getD 5 0 = x5 at s5 HT
  generalize S3.getD 6 0 = x6 at s6 HT
  generalize S3.getD 7 0 = x7 at s7 HT
  rw [HT.out trivial] at Hfin HB
  have C := long_any x0 x1 x2 x3 x4 x5 x6 x7 a c m w R HB.out hrd ha hm nb hnb
  clear R hrd hnb hfin HT HB
  go_enter Tryd.func10, Tryd.ntmps10
  go_wp2_with fail
  refine C.mono ?_
  rintro e w1 ⟨v, rfl, hown, hb⟩
  obtain ⟨ao, cap, rfl, _, hcap, hmx, _, hr, hbl⟩ := own_rd hown
  have HR : Hid (Rd w1 ao (outF 8 8 (chL [x0, x1, x2, x3, x4, x5, x6, x7] (padL m) nb))) := hr
  have HBL : Hid (∀ x, ao = some x → w.heap.size ≤ x.block) := hbl
  have HBW : Hid (Below w.heap.size w w1) := hb
  clear hown hb hr hbl C s0 s1 s2 s3 s4 s5 s6 s7
  have hs : ∀ W, (Instr.sliceAt 29 (.slice ao 64 cap) none (some (.int .i64 48)) none).run Tryd.prog W = .ok (.slice ao 48 cap) W := fun W => slice_high ao 64 cap 48 W (by omega)
  go_wp2
  go_ret
  refine ⟨ao, cap, rfl, by omega, hmx, ?_, HBL.out, HBW.out⟩
  show Rd w1 ao (outF 8 6 (finF 2 m))
  have h1 := HR.out
  rw [Hfin.out trivial] at h1
  exact rd_out h1

set_option maxRecDepth 100000 in
set_option maxHeartbeats 2000000 in
theorem rsum_3 (a : Option Addr) (c : Nat) (m : List UInt8) (w : World) (R : Rt w) (hrd : Rd w a m) (ha : a = none → m.length = 0 ∧ c = 0) (hm : m.length ≤ 100000000) :
    Calls Tryd.prog 10 #[.int .i64 3, .slice a m.length c] w fun e w' => ∃ a' c', e = .returned (.slice a' 64 c') ∧ 64 ≤ c' ∧ c' ≤ maxLen ∧ Rd w' a' (sumF 3 m) ∧ (∀ x, a' = some x → w.heap.size ≤ x.block) ∧ Below w.heap.size w w' := by
  obtain ⟨nb, hnb, hfin⟩ := chL_fin (.inr rfl : isL 3) m
  rw [st0_S5] at hfin
  have Hfin : Hid (True → chL S5 (padL m) nb = finF 3 m) := fun _ => hfin
  have HT : Hid (True → S5 = [S5.getD 0 0, S5.getD 1 0, S5.getD 2 0, S5.getD 3 0, S5.getD 4 0, S5.getD 5 0, S5.getD 6 0, S5.getD 7 0]) := fun _ => rfl
  have HB : Hid (∀ k, 0 ≤ S5.getD k 0 ∧ S5.getD k 0 < 18446744073709551616) := S5_bd
  have s0 := R.s5 0 (by omega)
  have s1 := R.s5 1 (by omega)
  have s2 := R.s5 2 (by omega)
  have s3 := R.s5 3 (by omega)
  have s4 := R.s5 4 (by omega)
  have s5 := R.s5 5 (by omega)
  have s6 := R.s5 6 (by omega)
  have s7 := R.s5 7 (by omega)
  unfold V at s0 s1 s2 s3 s4 s5 s6 s7
  generalize S5.getD 0 0 = x0 at s0 HT
  generalize S5.getD 1 0 = x1 at s1 HT
  generalize S5.getD 2 0 = x2 at s2 HT
  generalize S5.getD 3 0 = x3 at s3 HT
  generalize S5.getD 4 0 = x4 at s4 HT
  generalize S5.getD 5 0 = x5 at s5 HT
  generalize S5.getD 6 0 = x6 at s6 HT
  generalize S5.getD 7 0 = x7 at s7 HT
  rw [HT.out trivial] at Hfin HB
  have C := long_any x0 x1 x2 x3 x4 x5 x6 x7 a c m w R HB.out hrd ha hm nb hnb
  clear R hrd hnb hfin HT HB
  go_enter Tryd.func10, Tryd.ntmps10
  go_wp2_with fail
  refine C.mono ?_
  rintro e w1 ⟨v, rfl, hown, hb⟩
  obtain ⟨ao, cap, rfl, _, hcap, hmx, _, hr, hbl⟩ := own_rd hown
  have HR : Hid (Rd w1 ao (outF 8 8 (chL [x0, x1, x2, x3, x4, x5, x6, x7] (padL m) nb))) := hr
  have HBL : Hid (∀ x, ao = some x → w.heap.size ≤ x.block) := hbl
  have HBW : Hid (Below w.heap.size w w1) := hb
  clear hown hb hr hbl C s0 s1 s2 s3 s4 s5 s6 s7
  go_wp2
  go_ret
  refine ⟨ao, cap, rfl, by omega, hmx, ?_, HBL.out, HBW.out⟩
  show Rd w1 ao (outF 8 8 (finF 3 m))
  have h1 := HR.out
  rw [Hfin.out trivial] at h1
  exact h1

theorem rsum_none (h : Int) (a : Option Addr) (n c : Nat) (w : World) (hh : ¬ isH h) :
    Calls Tryd.prog 10 #[.int .i64 h, .slice a n c] w fun e w' => e = .returned (.slice none 0 0) ∧ w' = w := by
  have h1 : h ≠ 1 := fun e => hh (.inl e)
  have h2 : h ≠ 2 := fun e => hh (.inr (.inl e))
  have h3 : h ≠ 3 := fun e => hh (.inr (.inr e))
  clear hh
  go_enter Tryd.func10, Tryd.ntmps10
  go_wp2
  go_ret
  exact ⟨rfl, rfl⟩

/-- The document's sum is the program's. -/
theorem rsum_any (h : Int) (a : Option Addr) (c : Nat) (m : List UInt8) (w : World) (R : Rt w) (hrd : Rd w a m) (ha : a = none → m.length = 0 ∧ c = 0) (hm : m.length ≤ 100000000) :
    Calls Tryd.prog 10 #[.int .i64 h, .slice a m.length c] w fun e w' => ∃ a' c', e = .returned (.slice a' (siz h) c') ∧ siz h ≤ c' ∧ c' ≤ maxLen ∧ (a' = none → siz h = 0 ∧ c' = 0) ∧ Rd w' a' (sumF h m) ∧ (∀ x, a' = some x → w.heap.size ≤ x.block) ∧ Below w.heap.size w w' := by
  by_cases hh : isH h
  · rcases hh with rfl | rfl | rfl
    · refine (rsum_1 a c m w R hrd ha hm).mono ?_
      rintro e w1 ⟨a', c', rfl, h1, h2, h3, h4, h5⟩
      refine ⟨a', c', rfl, h1, h2, fun e => ?_, h3, h4, h5⟩
      rcases h3 with h3 | ⟨g, o, e2, _⟩
      · have := sumF_length 1 m; rw [h3] at this; cases this
      · rw [e] at e2; cases e2
    · refine (rsum_2 a c m w R hrd ha hm).mono ?_
      rintro e w1 ⟨a', c', rfl, h1, h2, h3, h4, h5⟩
      refine ⟨a', c', rfl, h1, h2, fun e => ?_, h3, h4, h5⟩
      rcases h3 with h3 | ⟨g, o, e2, _⟩
      · have := sumF_length 2 m; rw [h3] at this; cases this
      · rw [e] at e2; cases e2
    · refine (rsum_3 a c m w R hrd ha hm).mono ?_
      rintro e w1 ⟨a', c', rfl, h1, h2, h3, h4, h5⟩
      refine ⟨a', c', rfl, h1, h2, fun e => ?_, h3, h4, h5⟩
      rcases h3 with h3 | ⟨g, o, e2, _⟩
      · have := sumF_length 3 m; rw [h3] at this; cases this
      · rw [e] at e2; cases e2
  · have hz := siz_not hh m
    refine (rsum_none h a m.length c w hh).mono ?_
    rintro e w1 ⟨rfl, rfl⟩
    exact ⟨none, 0, by rw [hz.1], by omega, by unfold maxLen; omega, fun _ => ⟨hz.1, rfl⟩, .inl hz.2, (fun x e => by cases e), Below.refl _ _⟩

end Go.Proofs.YtpfdaclmchcbiaaDoor.Sha