import Derived.Test.YtkfchdmlemcjhaaDoorGa
import Derived.Test.YtkfchdmlemcjhaaDoorGb
import Derived.Test.YtkfchdmlemcjhaaDoorDcRefWj
namespace Go.Proofs.YtkfchdmlemcjhaaDoor
open Go.RowKit Go.Shelf

set_option maxRecDepth 100000 in
set_option maxHeartbeats 8000000 in
/-- The document's look at a node by itself. -/
theorem rplain_any (K : Int) (Y T : List UInt8) (b : Bool) (i c : Int) (w : World) (ht : T.length ≤ 1000000000) :
    Calls Tryd.prog 22 #[.agg #[.int .i64 K, .string ⟨Y.toArray⟩, .string ⟨T.toArray⟩, .bool b, .int .i64 i, .int .i64 c]] w fun e w' => e = .returned (.bool (plF ⟨K, Y, T, b, i, c⟩)) ∧ Below w.heap.size w w' := by
  obtain ⟨w0, hw0⟩ : ∃ w0 : World, w.alloc (.cells #[.int .i64 K, .string ⟨Y.toArray⟩, .string ⟨T.toArray⟩, .bool b, .int .i64 i, .int .i64 c] 36) = w0 := ⟨_, rfl⟩
  have HB0 : Hid (Below w.heap.size w w0) := by rw [← hw0]; exact alloc_below _ _
  have HBl : Hid (Bl 36 w0 w.heap.size (nC ⟨K, Y, T, b, i, c⟩)) := by rw [← hw0]; exact alloc_bl _ _ _
  have HW0 : Hid (w.alloc (.cells #[.int .i64 K, .string ⟨Y.toArray⟩, .string ⟨T.toArray⟩, .bool b, .int .i64 i, .int .i64 c] 36) = w0) := hw0
  obtain ⟨R, hR⟩ : ∃ R, plF ⟨K, Y, T, b, i, c⟩ = R := ⟨_, rfl⟩
  have HR : Hid ((if K < 1 ∨ 7 < K ∨ c < 0 ∨ (0 < c ∧ K < 6) then false
    else if K = 4 then (Dec.pcut T).isSome && (decide ((Dec.wholeV (Dec.pcut T)).2 = b) && decide ((Dec.wholeV (Dec.pcut T)).1 = i))
    else if b = true ∨ i ≠ 0 then false
    else if K = 5 then Lib.validD T else decide (T = [])) = R) := hR
  rw [hR]
  have HC1 : Hid (∀ wq : World, Calls Tryd.prog 32 #[.string ⟨T.toArray⟩] wq fun e w' => e = .returned (.tuple #[.int .i64 (Dec.wholeV (Dec.pcut T)).1, .bool (Dec.wholeV (Dec.pcut T)).2]) ∧ Below wq.heap.size wq w') := fun wq => Dec.rwhole_any T wq (by omega)
  have HC2 : Hid (∀ wq : World, Calls Tryd.prog 33 #[.string ⟨T.toArray⟩] wq fun e w' => e = .returned (.bool (Dec.pcut T).isSome) ∧ Below wq.heap.size wq w') := fun wq => Dec.rvalid_any T wq (by omega)
  have HC3 : Hid (∀ wq : World, Calls Tryd.prog 23 #[.string ⟨T.toArray⟩] wq fun e w' => e = .returned (.bool (Lib.validD T)) ∧ Below wq.heap.size wq w') := fun wq => rutf_any T wq ht
  obtain ⟨wh, hwh⟩ : ∃ x, (Dec.wholeV (Dec.pcut T)).2 = x := ⟨_, rfl⟩
  obtain ⟨wi, hwi⟩ : ∃ x, (Dec.wholeV (Dec.pcut T)).1 = x := ⟨_, rfl⟩
  rw [hwh, hwi] at HR HC1
  clear hwh hwi hR hw0
  generalize (Dec.pcut T).isSome = V at *
  generalize Lib.validD T = U at *
  have ck0 : w0.cell? ⟨w.heap.size, 0, none⟩ = some (.int .i64 K) := HBl.out.cell 0 (by simp [nC])
  have ck2 : w0.cell? ⟨w.heap.size, 2, none⟩ = some (.string ⟨T.toArray⟩) := HBl.out.cell 2 (by simp [nC])
  have ck3 : w0.cell? ⟨w.heap.size, 3, none⟩ = some (.bool b) := HBl.out.cell 3 (by simp [nC])
  have ck4 : w0.cell? ⟨w.heap.size, 4, none⟩ = some (.int .i64 i) := HBl.out.cell 4 (by simp [nC])
  have ck5 : w0.cell? ⟨w.heap.size, 5, none⟩ = some (.int .i64 c) := HBl.out.cell 5 (by simp [nC])
  by_cases hbad : K < 1 ∨ 7 < K ∨ c < 0 ∨ (0 < c ∧ K < 6)
  · have HX : Hid (R = false) := by show _ = _; rw [← HR.out, if_pos hbad]
    have hq : decide (K < 1) = true ∨ (decide (K < 1) = false ∧ decide (K > 7) = true) ∨ (decide (K < 1) = false ∧ decide (K > 7) = false ∧ decide (c < 0) = true) ∨ (decide (K < 1) = false ∧ decide (K > 7) = false ∧ decide (c < 0) = false ∧ decide (c > 0) = true ∧ decide (K < 6) = true) := by
      simp only [decide_eq_true_eq, decide_eq_false_iff_not]
      omega
    clear hbad HR HC1 HC2 HC3 HBl
    rcases hq with q1 | ⟨q1, q2⟩ | ⟨q1, q2, q3⟩ | ⟨q1, q2, q3, q4, q5⟩
    · go_enter Tryd.func22, Tryd.ntmps22
      go_upto_region 1 with fail
      rw [HW0.out]
      go_wp2
      go_ret
      rw [HX.out]
      exact ⟨rfl, HB0.out⟩
    · go_enter Tryd.func22, Tryd.ntmps22
      go_upto_region 1 with fail
      rw [HW0.out]
      go_wp2
      go_ret
      rw [HX.out]
      exact ⟨rfl, HB0.out⟩
    · go_enter Tryd.func22, Tryd.ntmps22
      go_upto_region 1 with fail
      rw [HW0.out]
      go_wp2
      go_ret
      rw [HX.out]
      exact ⟨rfl, HB0.out⟩
    · go_enter Tryd.func22, Tryd.ntmps22
      go_upto_region 1 with fail
      rw [HW0.out]
      go_wp2
      go_ret
      rw [HX.out]
      exact ⟨rfl, HB0.out⟩
  · have q1 : decide (K < 1) = false := decide_eq_false (by omega)
    have q2 : decide (K > 7) = false := decide_eq_false (by omega)
    have q3 : decide (c < 0) = false := decide_eq_false (by omega)
    have HR2 : Hid ((if K = 4 then V && (decide (wh = b) && decide (wi = i)) else if b = true ∨ i ≠ 0 then false else if K = 5 then U else decide (T = [])) = R) := by
      have := HR.out
      rwa [if_neg hbad] at this
    have hq : (decide (c > 0) = true ∧ decide (K < 6) = false) ∨ decide (c > 0) = false := by
      simp only [decide_eq_true_eq, decide_eq_false_iff_not]
      omega
    clear HR hbad
    have C1 := HC1.out w0
    clear HC1
    rcases hq with ⟨q4, q5⟩ | q4
    · go_enter Tryd.func22, Tryd.ntmps22
      go_upto_region 1 with fail
      rw [HW0.out]
      go_wp2_with fail
      refine C1.mono ?_
      clear C1 HW0
      rintro e w1 ⟨rfl, hB1⟩
      have HBl1 : Hid (Bl 36 w1 w.heap.size (nC ⟨K, Y, T, b, i, c⟩)) := HBl.out.below hB1 HBl.out.lt
      have HB1 : Hid (Below w.heap.size w w1) := HB0.out.trans (hB1.mono HB0.out.size)
      clear hB1 HBl HB0 ck0 ck2 ck3 ck4 ck5 q1 q2 q3 q4 q5
      have ck0 : w1.cell? ⟨w.heap.size, 0, none⟩ = some (.int .i64 K) := HBl1.out.cell 0 (by simp [nC])
      have ck2 : w1.cell? ⟨w.heap.size, 2, none⟩ = some (.string ⟨T.toArray⟩) := HBl1.out.cell 2 (by simp [nC])
      have ck3 : w1.cell? ⟨w.heap.size, 3, none⟩ = some (.bool b) := HBl1.out.cell 3 (by simp [nC])
      have ck4 : w1.cell? ⟨w.heap.size, 4, none⟩ = some (.int .i64 i) := HBl1.out.cell 4 (by simp [nC])
      have ck5 : w1.cell? ⟨w.heap.size, 5, none⟩ = some (.int .i64 c) := HBl1.out.cell 5 (by simp [nC])
      have C2 := HC2.out w1
      clear HC2
      go_wp2_with fail
      refine C2.mono ?_
      clear C2
      rintro e w2 ⟨rfl, hB2⟩
      have HBl2 : Hid (Bl 36 w2 w.heap.size (nC ⟨K, Y, T, b, i, c⟩)) := HBl1.out.below hB2 HBl1.out.lt
      have HB2 : Hid (Below w.heap.size w w2) := HB1.out.trans (hB2.mono HB1.out.size)
      clear hB2 HBl1 HB1 ck0 ck2 ck3 ck4 ck5
      have ck0 : w2.cell? ⟨w.heap.size, 0, none⟩ = some (.int .i64 K) := HBl2.out.cell 0 (by simp [nC])
      have ck2 : w2.cell? ⟨w.heap.size, 2, none⟩ = some (.string ⟨T.toArray⟩) := HBl2.out.cell 2 (by simp [nC])
      have ck3 : w2.cell? ⟨w.heap.size, 3, none⟩ = some (.bool b) := HBl2.out.cell 3 (by simp [nC])
      have ck4 : w2.cell? ⟨w.heap.size, 4, none⟩ = some (.int .i64 i) := HBl2.out.cell 4 (by simp [nC])
      have ck5 : w2.cell? ⟨w.heap.size, 5, none⟩ = some (.int .i64 c) := HBl2.out.cell 5 (by simp [nC])
      have C3 := HC3.out w2
      clear HC3
      go_wp2_with fail
      refine C3.mono ?_
      clear C3
      rintro e w3 ⟨rfl, hB3⟩
      have HBl3 : Hid (Bl 36 w3 w.heap.size (nC ⟨K, Y, T, b, i, c⟩)) := HBl2.out.below hB3 HBl2.out.lt
      have HB3 : Hid (Below w.heap.size w w3) := HB2.out.trans (hB3.mono HB2.out.size)
      clear hB3 HBl2 HB2 ck0 ck2 ck3 ck4 ck5
      have ck0 : w3.cell? ⟨w.heap.size, 0, none⟩ = some (.int .i64 K) := HBl3.out.cell 0 (by simp [nC])
      have ck2 : w3.cell? ⟨w.heap.size, 2, none⟩ = some (.string ⟨T.toArray⟩) := HBl3.out.cell 2 (by simp [nC])
      have ck3 : w3.cell? ⟨w.heap.size, 3, none⟩ = some (.bool b) := HBl3.out.cell 3 (by simp [nC])
      have ck4 : w3.cell? ⟨w.heap.size, 4, none⟩ = some (.int .i64 i) := HBl3.out.cell 4 (by simp [nC])
      have ck5 : w3.cell? ⟨w.heap.size, 5, none⟩ = some (.int .i64 c) := HBl3.out.cell 5 (by simp [nC])
      by_cases h4 : K = 4
      · have q6 : (K == 4) = true := by simpa using h4
        have HR3 : Hid ((V && (decide (wh = b) && decide (wi = i))) = R) := by
          have := HR2.out
          rwa [if_pos h4] at this
        clear HR2 h4
        cases V
        · have HX : Hid (R = false) := by show _ = _; rw [← HR3.out]; rfl
          clear HR3
          go_wp2
          go_ret
          rw [HX.out]
          exact ⟨rfl, HB3.out⟩
        · by_cases hb : wh = b
          · have q7 : (wh == b) = true := by simpa using hb
            have HX : Hid (R = decide (wi = i)) := by show _ = _; rw [← HR3.out, decide_eq_true hb]; rfl
            clear HR3 hb
            by_cases hi : wi = i
            · have q8 : (wi == i) = true := by simpa using hi
              have HX2 : Hid (R = true) := by show _ = _; rw [HX.out]; exact decide_eq_true hi
              clear HX hi
              go_wp2
              go_ret
              rw [HX2.out]
              exact ⟨rfl, HB3.out⟩
            · have q8 : (wi == i) = false := by simpa using hi
              have HX2 : Hid (R = false) := by show _ = _; rw [HX.out]; exact decide_eq_false hi
              clear HX hi
              go_wp2
              go_ret
              rw [HX2.out]
              exact ⟨rfl, HB3.out⟩
          · have q7 : (wh == b) = false := by simpa using hb
            have HX : Hid (R = false) := by show _ = _; rw [← HR3.out, decide_eq_false hb]; rfl
            clear HR3 hb
            go_wp2
            go_ret
            rw [HX.out]
            exact ⟨rfl, HB3.out⟩
      · have q6 : (K == 4) = false := by simpa using h4
        have HR3 : Hid ((if b = true ∨ i ≠ 0 then false else if K = 5 then U else decide (T = [])) = R) := by
          have := HR2.out
          rwa [if_neg h4] at this
        clear HR2 h4
        cases b
        · by_cases hi : i = 0
          · have q7 : (i != 0) = false := by simpa using hi
            have HR4 : Hid ((if K = 5 then U else decide (T = [])) = R) := by
              have := HR3.out
              rwa [if_neg (by simp [hi])] at this
            clear HR3 hi
            by_cases h5 : K = 5
            · have q8 : (K == 5) = true := by simpa using h5
              have HX : Hid (R = U) := by show _ = _; rw [← HR4.out, if_pos h5]
              clear HR4 h5
              go_wp2
              go_ret
              rw [HX.out]
              exact ⟨rfl, HB3.out⟩
            · have q8 : (K == 5) = false := by simpa using h5
              have HX : Hid (R = decide (T = [])) := by show _ = _; rw [← HR4.out, if_neg h5]
              clear HR4 h5
              by_cases hT : T = []
              · subst hT
                have HX2 : Hid (R = true) := HX.out
                clear HX
                go_wp2
                go_ret
                rw [HX2.out]
                exact ⟨rfl, HB3.out⟩
              · have q9 : (T == []) = false := by simpa using hT
                have HX2 : Hid (R = false) := by show _ = _; rw [HX.out]; exact decide_eq_false hT
                clear HX hT
                go_wp2
                go_ret
                rw [HX2.out]
                exact ⟨rfl, HB3.out⟩
          · have q7 : (i != 0) = true := by simpa using hi
            have HX : Hid (R = false) := by show _ = _; rw [← HR3.out]; exact if_pos (.inr hi)
            clear HR3 hi
            go_wp2
            go_ret
            rw [HX.out]
            exact ⟨rfl, HB3.out⟩
        · have HX : Hid (R = false) := by show _ = _; rw [← HR3.out]; exact if_pos (.inl rfl)
          clear HR3
          go_wp2
          go_ret
          rw [HX.out]
          exact ⟨rfl, HB3.out⟩
    · go_enter Tryd.func22, Tryd.ntmps22
      go_upto_region 1 with fail
      rw [HW0.out]
      go_wp2_with fail
      refine C1.mono ?_
      clear C1 HW0
      rintro e w1 ⟨rfl, hB1⟩
      have HBl1 : Hid (Bl 36 w1 w.heap.size (nC ⟨K, Y, T, b, i, c⟩)) := HBl.out.below hB1 HBl.out.lt
      have HB1 : Hid (Below w.heap.size w w1) := HB0.out.trans (hB1.mono HB0.out.size)
      clear hB1 HBl HB0 ck0 ck2 ck3 ck4 ck5 q1 q2 q3 q4
      have ck0 : w1.cell? ⟨w.heap.size, 0, none⟩ = some (.int .i64 K) := HBl1.out.cell 0 (by simp [nC])
      have ck2 : w1.cell? ⟨w.heap.size, 2, none⟩ = some (.string ⟨T.toArray⟩) := HBl1.out.cell 2 (by simp [nC])
      have ck3 : w1.cell? ⟨w.heap.size, 3, none⟩ = some (.bool b) := HBl1.out.cell 3 (by simp [nC])
      have ck4 : w1.cell? ⟨w.heap.size, 4, none⟩ = some (.int .i64 i) := HBl1.out.cell 4 (by simp [nC])
      have ck5 : w1.cell? ⟨w.heap.size, 5, none⟩ = some (.int .i64 c) := HBl1.out.cell 5 (by simp [nC])
      have C2 := HC2.out w1
      clear HC2
      go_wp2_with fail
      refine C2.mono ?_
      clear C2
      rintro e w2 ⟨rfl, hB2⟩
      have HBl2 : Hid (Bl 36 w2 w.heap.size (nC ⟨K, Y, T, b, i, c⟩)) := HBl1.out.below hB2 HBl1.out.lt
      have HB2 : Hid (Below w.heap.size w w2) := HB1.out.trans (hB2.mono HB1.out.size)
      clear hB2 HBl1 HB1 ck0 ck2 ck3 ck4 ck5
      have ck0 : w2.cell? ⟨w.heap.size, 0, none⟩ = some (.int .i64 K) := HBl2.out.cell 0 (by simp [nC])
      have ck2 : w2.cell? ⟨w.heap.size, 2, none⟩ = some (.string ⟨T.toArray⟩) := HBl2.out.cell 2 (by simp [nC])
      have ck3 : w2.cell? ⟨w.heap.size, 3, none⟩ = some (.bool b) := HBl2.out.cell 3 (by simp [nC])
      have ck4 : w2.cell? ⟨w.heap.size, 4, none⟩ = some (.int .i64 i) := HBl2.out.cell 4 (by simp [nC])
      have ck5 : w2.cell? ⟨w.heap.size, 5, none⟩ = some (.int .i64 c) := HBl2.out.cell 5 (by simp [nC])
      have C3 := HC3.out w2
      clear HC3
      go_wp2_with fail
      refine C3.mono ?_
      clear C3
      rintro e w3 ⟨rfl, hB3⟩
      have HBl3 : Hid (Bl 36 w3 w.heap.size (nC ⟨K, Y, T, b, i, c⟩)) := HBl2.out.below hB3 HBl2.out.lt
      have HB3 : Hid (Below w.heap.size w w3) := HB2.out.trans (hB3.mono HB2.out.size)
      clear hB3 HBl2 HB2 ck0 ck2 ck3 ck4 ck5
      have ck0 : w3.cell? ⟨w.heap.size, 0, none⟩ = some (.int .i64 K) := HBl3.out.cell 0 (by simp [nC])
      have ck2 : w3.cell? ⟨w.heap.size, 2, none⟩ = some (.string ⟨T.toArray⟩) := HBl3.out.cell 2 (by simp [nC])
      have ck3 : w3.cell? ⟨w.heap.size, 3, none⟩ = some (.bool b) := HBl3.out.cell 3 (by simp [nC])
      have ck4 : w3.cell? ⟨w.heap.size, 4, none⟩ = some (.int .i64 i) := HBl3.out.cell 4 (by simp [nC])
      have ck5 : w3.cell? ⟨w.heap.size, 5, none⟩ = some (.int .i64 c) := HBl3.out.cell 5 (by simp [nC])
      by_cases h4 : K = 4
      · have q6 : (K == 4) = true := by simpa using h4
        have HR3 : Hid ((V && (decide (wh = b) && decide (wi = i))) = R) := by
          have := HR2.out
          rwa [if_pos h4] at this
        clear HR2 h4
        cases V
        · have HX : Hid (R = false) := by show _ = _; rw [← HR3.out]; rfl
          clear HR3
          go_wp2
          go_ret
          rw [HX.out]
          exact ⟨rfl, HB3.out⟩
        · by_cases hb : wh = b
          · have q7 : (wh == b) = true := by simpa using hb
            have HX : Hid (R = decide (wi = i)) := by show _ = _; rw [← HR3.out, decide_eq_true hb]; rfl
            clear HR3 hb
            by_cases hi : wi = i
            · have q8 : (wi == i) = true := by simpa using hi
              have HX2 : Hid (R = true) := by show _ = _; rw [HX.out]; exact decide_eq_true hi
              clear HX hi
              go_wp2
              go_ret
              rw [HX2.out]
              exact ⟨rfl, HB3.out⟩
            · have q8 : (wi == i) = false := by simpa using hi
              have HX2 : Hid (R = false) := by show _ = _; rw [HX.out]; exact decide_eq_false hi
              clear HX hi
              go_wp2
              go_ret
              rw [HX2.out]
              exact ⟨rfl, HB3.out⟩
          · have q7 : (wh == b) = false := by simpa using hb
            have HX : Hid (R = false) := by show _ = _; rw [← HR3.out, decide_eq_false hb]; rfl
            clear HR3 hb
            go_wp2
            go_ret
            rw [HX.out]
            exact ⟨rfl, HB3.out⟩
      · have q6 : (K == 4) = false := by simpa using h4
        have HR3 : Hid ((if b = true ∨ i ≠ 0 then false else if K = 5 then U else decide (T = [])) = R) := by
          have := HR2.out
          rwa [if_neg h4] at this
        clear HR2 h4
        cases b
        · by_cases hi : i = 0
          · have q7 : (i != 0) = false := by simpa using hi
            have HR4 : Hid ((if K = 5 then U else decide (T = [])) = R) := by
              have := HR3.out
              rwa [if_neg (by simp [hi])] at this
            clear HR3 hi
            by_cases h5 : K = 5
            · have q8 : (K == 5) = true := by simpa using h5
              have HX : Hid (R = U) := by show _ = _; rw [← HR4.out, if_pos h5]
              clear HR4 h5
              go_wp2
              go_ret
              rw [HX.out]
              exact ⟨rfl, HB3.out⟩
            · have q8 : (K == 5) = false := by simpa using h5
              have HX : Hid (R = decide (T = [])) := by show _ = _; rw [← HR4.out, if_neg h5]
              clear HR4 h5
              by_cases hT : T = []
              · subst hT
                have HX2 : Hid (R = true) := HX.out
                clear HX
                go_wp2
                go_ret
                rw [HX2.out]
                exact ⟨rfl, HB3.out⟩
              · have q9 : (T == []) = false := by simpa using hT
                have HX2 : Hid (R = false) := by show _ = _; rw [HX.out]; exact decide_eq_false hT
                clear HX hT
                go_wp2
                go_ret
                rw [HX2.out]
                exact ⟨rfl, HB3.out⟩
          · have q7 : (i != 0) = true := by simpa using hi
            have HX : Hid (R = false) := by show _ = _; rw [← HR3.out]; exact if_pos (.inr hi)
            clear HR3 hi
            go_wp2
            go_ret
            rw [HX.out]
            exact ⟨rfl, HB3.out⟩
        · have HX : Hid (R = false) := by show _ = _; rw [← HR3.out]; exact if_pos (.inl rfl)
          clear HR3
          go_wp2
          go_ret
          rw [HX.out]
          exact ⟨rfl, HB3.out⟩

end Go.Proofs.YtkfchdmlemcjhaaDoor
