import Derived.Test.YtephdffhfkldoaaDoorBy
namespace Go.Proofs.YtephdffhfkldoaaDoor
open Go.RowKit

theorem prints_no {v : List E} (h : shaped v = false) : prints v = ([], 80) := by unfold prints; rw [h]; rfl

set_option maxRecDepth 100000 in
set_option maxHeartbeats 4000000 in
theorem derBack_any (ao : Option Addr) (cap : Nat) (xs : List X) (w : World) (hR : Row w ao xs) (hnl : ∀ x ∈ xs, x.a = none → x.c = 0) (hlen : xs.length ≤ 2000000) (htot : tot (es xs) < 16777216) :
    Calls Tryd.prog 6 #[.slice ao xs.length cap] w fun e w' => e = .returned (.bool true) ∧ Below w.heap.size w w' := by
  have HR : Hid (Row w ao xs) := hR
  have HCp : Hid (∀ w', Row w' ao xs → Calls Tryd.prog 11 #[.slice ao xs.length cap] w' fun e w'' => PrA w' (es xs) e w'') := fun w' h => print_any ao cap xs w' h hnl hlen htot
  have HCs : Hid (∀ w', Row w' ao xs → Calls Tryd.prog 12 #[.slice ao xs.length cap] w' fun e w'' => e = .returned (.bool (shaped (es xs))) ∧ Below w'.heap.size w' w'') := fun w' h => shaped_any ao cap xs w' h (by omega)
  have HCb : Hid (∀ w', Row w' ao xs → Calls Tryd.prog 15 #[.slice ao xs.length cap] w' fun e w'' => ∃ b, e = .returned (.bool b) ∧ Below w'.heap.size w' w'') := fun w' h => beyond_any ao cap xs w' h hlen
  clear hR hnl htot
  go_enter Tryd.func6, Tryd.ntmps6
  go_wp2_with fail
  refine (started_any w).mono ?_
  rintro e w1 ⟨rfl, hB1⟩
  have HB1 : Hid (Below w.heap.size w w1) := hB1
  have HR1 : Hid (Row w1 ao xs) := HR.out.below hB1 (Nat.le_refl _)
  clear hB1 HR
  go_wp2_with fail
  refine (HCb.out w1 HR1.out).mono ?_
  rintro e w2 ⟨b, rfl, hB2⟩
  have HB2 : Hid (Below w.heap.size w w2) := HB1.out.trans (hB2.mono HB1.out.size)
  have HR2 : Hid (Row w2 ao xs) := HR1.out.below hB2 (Nat.le_refl _)
  clear hB2 HB1 HR1 HCb
  cases b with
  | true =>
    go_wp2
    go_ret
    exact ⟨rfl, HB2.out⟩
  | false =>
    go_wp2_with fail
    refine (HCp.out w2 HR2.out).mono ?_
    rintro e w3 ⟨bv, ⟨rfl, hB3⟩, hbv⟩
    obtain ⟨ab, nb, cb, hbvs⟩ : ∃ a n c, bv = .slice a n c := (own_slice hbv).elim fun a h => h.elim fun c e => ⟨a, _, c, e⟩
    subst hbvs
    have hnb : nb = (prints (es xs)).1.length := by
      obtain ⟨_, _, e⟩ := own_slice hbv
      simp only [Value.slice.injEq] at e
      exact e.2.1
    have HB3 : Hid (Below w.heap.size w w3) := HB2.out.trans (hB3.mono HB2.out.size)
    have HR3 : Hid (Row w3 ao xs) := HR2.out.below hB3 (Nat.le_refl _)
    have Hbv : Hid (w3.ownsRow w2.heap.size 5 1 (.slice ab nb cb) (prints (es xs)).1.length ((prints (es xs)).1.map B)) := hbv
    clear hB3 hbv HB2 HR2 HCp
    go_wp2_with fail
    refine (HCs.out w3 HR3.out).mono ?_
    rintro e w4 ⟨rfl, hB4⟩
    have HB4 : Hid (Below w.heap.size w w4) := HB3.out.trans (hB4.mono HB3.out.size)
    have HR4 : Hid (Row w4 ao xs) := HR3.out.below hB4 (Nat.le_refl _)
    have Hbv4 : Hid (w4.ownsRow w2.heap.size 5 1 (.slice ab nb cb) (prints (es xs)).1.length ((prints (es xs)).1.map B)) := own_below Hbv.out hB4 (Nat.le_refl _)
    clear hB4 HB3 HR3 Hbv HCs
    cases hsh : shaped (es xs) with
    | false =>
      have HP := prints_no hsh
      rw [HP] at hnb
      rw [HP]
      simp only [List.length_nil] at hnb
      subst hnb
      clear HP hsh Hbv4
      go_wp2
      go_ret
      exact ⟨rfl, HB4.out⟩
    | true =>
      obtain ⟨bs, hE⟩ := shaped_El.1 hsh
      have hP := prints_El hE
      rcases Nat.lt_or_ge 65536 bs.length with hbig | hbig
      · rw [hP.2 hbig] at hnb ⊢
        simp only [List.length_nil] at hnb
        subst hnb
        clear hP hE hsh Hbv4
        go_wp2
        go_ret
        exact ⟨rfl, HB4.out⟩
      · rw [hP.1 hbig] at hnb Hbv4 ⊢
        simp only at hnb
        subst hnb
        have hpar := El_parse hE hbig
        obtain ⟨hrd, hle, hcp⟩ := own_rd Hbv4.out
        have hnn : ab = none → cb = 0 := fun e => by
          rcases Hbv4.out.2 with ⟨h', _⟩ | ⟨g, cp, cur, h', _⟩
          · simp only [Value.slice.injEq] at h'; exact h'.2.2
          · simp only [Value.slice.injEq] at h'; rw [e] at h'; cases h'.1
        have CP : Hid (Calls Tryd.prog 10 #[.slice ab bs.length cb] w4 fun e w'' => ∃ lv ys, (e = .returned (.tuple #[lv, .int .i64 0, .int .i64 0]) ∧ Below w4.heap.size w4 w'') ∧ Lst w4.heap.size w'' lv ys ∧ es ys = es xs) := by
          have := parse_any ab cb bs w4 hrd hle hcp hnn
          rw [hpar] at this
          exact this
        clear hP hE hsh Hbv4 hpar hrd hnn
        go_wp2_with fail
        refine CP.out.mono ?_
        rintro e w5 ⟨lv, ys, ⟨rfl, hB5⟩, hL, hes⟩
        obtain ⟨ay, cy, hlv, hRy, _⟩ := hL.row
        subst hlv
        have HB5 : Hid (Below w.heap.size w w5) := HB4.out.trans (hB5.mono HB4.out.size)
        have CS : Hid (Calls Tryd.prog 14 #[.slice ao xs.length cap, .slice ay ys.length cy] w5 fun e w' => e = .returned (.bool true) ∧ Below w5.heap.size w5 w') := by
          have := same_any ao ay cap cy xs ys w5 (HR4.out.below hB5 (Nat.le_refl _)) hRy (by omega)
          rw [decide_eq_true hes.symm] at this
          exact this
        clear hB5 hL hes hRy HR4 HB4 CP
        go_wp2_with fail
        refine CS.out.mono ?_
        rintro e w6 ⟨rfl, hB6⟩
        go_wp2
        go_ret
        exact ⟨rfl, HB5.out.trans (hB6.mono HB5.out.size)⟩

end Go.Proofs.YtephdffhfkldoaaDoor
