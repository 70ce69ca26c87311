import Derived.Test.YtidmjojlhcgedaaRr
namespace Go.Proofs.Ytidmjojlhcgedaa
open Go.RowKit Go.Maps
set_option maxRecDepth 100000

def bk0 : Bk := ⟨false, 0, []⟩
theorem bk0_ok : BkOk bk0 := ⟨List.Pairwise.nil, by simp [bk0], by simp [bk0], by simp [bk0], by simp [bk0, I64], fun _ => ⟨rfl, rfl⟩⟩
theorem img0_length : (imgF bk0).length = 23 := by
  have h : bodyF bk0 = headF false 0 ++ tobe 4 0 := by simp [bodyF, bk0]
  unfold imgF
  rw [h, List.length_append, List.length_append, headF_length, tobe_length, tobe_length]

set_option maxHeartbeats 2000000 in
theorem started_any (w : World) : Calls Try.prog 10 #[] w fun e w' => e = .returned (.bool true) ∧ Below w.heap.size w w' := by
  have T1 : takeF bk0 [97] 10 5 = (0, ⟨true, 5, [([97], 10)]⟩) := by rfl
  have T2 : takeF ⟨true, 5, [([97], 10)]⟩ [97] 20 10 = (160, ⟨true, 10, [([97], 10)]⟩) := by rfl
  have T3 : takeF ⟨true, 10, [([97], 10)]⟩ [97] 20 11 = (0, ⟨true, 11, [([97], 20)]⟩) := by rfl
  have T4 : takeF ⟨true, 11, [([97], 20)]⟩ [98] 20 10 = (162, ⟨true, 11, [([97], 20)]⟩) := by rfl
  have O1 := takeF_ok bk0_ok [97] 10 5 (by simp [I64]) (by simp [I64])
  rw [T1] at O1
  have O2 := takeF_ok O1 [97] 20 10 (by simp [I64]) (by simp [I64])
  rw [T2] at O2
  have O3 := takeF_ok O2 [97] 20 11 (by simp [I64]) (by simp [I64])
  rw [T3] at O3
  have HO1 : Hid (BkOk ⟨true, 5, [([97], 10)]⟩) := O1
  have HO2 : Hid (BkOk ⟨true, 10, [([97], 10)]⟩) := O2
  have HO3 : Hid (BkOk ⟨true, 11, [([97], 20)]⟩) := O3
  have HT1 : Hid (takeF bk0 [97] 10 5 = (0, ⟨true, 5, [([97], 10)]⟩)) := T1
  have HT2 : Hid (takeF ⟨true, 5, [([97], 10)]⟩ [97] 20 10 = (160, ⟨true, 10, [([97], 10)]⟩)) := T2
  have HT3 : Hid (takeF ⟨true, 10, [([97], 10)]⟩ [97] 20 11 = (0, ⟨true, 11, [([97], 20)]⟩)) := T3
  have HT4 : Hid (takeF ⟨true, 11, [([97], 20)]⟩ [98] 20 10 = (162, ⟨true, 11, [([97], 20)]⟩)) := T4
  clear T1 T2 T3 T4 O1 O2 O3
  go_enter Try.func10, Try.ntmps10
  go_wp2_with fail
  refine (new_any w).mono ?_
  rintro e w1 ⟨bb, mb, rfl, hB1, hbel1, hbb, hmb⟩
  have hb1 : Hid (Below w.heap.size w w1) := hbel1
  have hBk1 : Hid (Bok w1 bb mb bk0) := hB1
  clear hbel1 hB1
  go_wp2_with fail
  refine (len_any bb mb bk0 w1 hBk1.out).mono ?_
  rintro e w1' ⟨rfl, rfl⟩
  go_wp2_with fail
  refine (image_any bb mb bk0 w1' hBk1.out bk0_ok).mono ?_
  rintro e w2 ⟨v2, rfl, hob⟩
  obtain ⟨ao, c, rfl, hc, hr⟩ := hob.own.nb
  rw [img0_length]
  have hb2 : Hid (Below w.heap.size w w2) := hb1.out.trans (hob.bel.mono hb1.out.size)
  have hBk2 : Hid (Bok w2 bb mb bk0) := hBk1.out.below hob.bel hBk1.out.lt hBk1.out.lt2
  clear hob hr hc
  have hfr : ∀ k, (k = bb ∨ k = mb) → w.heap.size ≤ k := by rintro k (rfl | rfl) <;> assumption
  have K1 := take_any bb mb bk0 [97] 10 5 w2 hBk2.out bk0_ok (by simp [I64])
  rw [HT1.out] at K1
  go_wp2_with fail
  refine K1.mono ?_
  rintro e w3 ⟨rfl, hB3, hC3⟩
  have hb3 : Hid (Below w.heap.size w w3) := chf_new hb2.out hC3 hfr
  have K2 := take_any bb mb _ [97] 20 10 w3 hB3 HO1.out (by simp [I64])
  rw [HT2.out] at K2
  clear hB3 hC3 K1
  go_wp2_with fail
  refine K2.mono ?_
  rintro e w4 ⟨rfl, hB4, hC4⟩
  have hb4 : Hid (Below w.heap.size w w4) := chf_new hb3.out hC4 hfr
  have hB4h : Hid (Bok w4 bb mb ⟨true, 10, [([97], 10)]⟩) := hB4
  have K3 := has_any [97] bb mb _ w4 hB4h.out (by simp)
  clear hB4 hC4 K2
  go_wp2_with fail
  refine K3.mono ?_
  rintro e w4' ⟨rfl, rfl⟩
  have K4 := take_any bb mb _ [97] 20 11 w4' hB4h.out HO2.out (by simp [I64])
  rw [HT3.out] at K4
  clear K3
  go_wp2_with fail
  refine K4.mono ?_
  rintro e w5 ⟨rfl, hB5, hC5⟩
  have hb5 : Hid (Below w.heap.size w w5) := chf_new hb4.out hC5 hfr
  have K5 := take_any bb mb _ [98] 20 10 w5 hB5 HO3.out (by simp [I64])
  rw [HT4.out] at K5
  clear hB5 hC5 K4
  go_wp2_with fail
  refine K5.mono ?_
  rintro e w6 ⟨rfl, hB6, hC6⟩
  have hb6 : Hid (Below w.heap.size w w6) := chf_new hb5.out hC6 hfr
  have hB6h : Hid (Bok w6 bb mb ⟨true, 11, [([97], 20)]⟩) := hB6
  clear hB6 hC6 K5
  go_wp2_with fail
  refine (last_any bb mb _ w6 hB6h.out).mono ?_
  rintro e w7 ⟨rfl, q, rfl⟩
  have hB7 : Bok (w6.drewN q) bb mb ⟨true, 11, [([97], 20)]⟩ := ⟨hB6h.out.cells, hB6h.out.own, hB6h.out.ne⟩
  go_wp2_with fail
  refine (len_any bb mb _ (w6.drewN q) hB7).mono ?_
  rintro e w8 ⟨rfl, rfl⟩
  go_wp2_with fail
  go_ret
  exact ⟨by simp, below_drewN hb6.out _⟩

end Go.Proofs.Ytidmjojlhcgedaa
