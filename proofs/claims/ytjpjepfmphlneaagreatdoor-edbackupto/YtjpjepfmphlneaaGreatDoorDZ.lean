import Derived.Test.YtjpjepfmphlneaaGreatDoorDX
namespace Go.Proofs.YtjpjepfmphlneaaGreatDoor
open Go.RowKit

set_option maxRecDepth 100000

/-- What is made, as an answer. -/
theorem Fm.rk {w wN : World} {A M : List (Value × Nat × Nat)} (h : Fm w wN [] A M) (i : Nat) (hi : i < M.length) : Rk w wN M[i].1 M[i].2.1 M[i].2.2 := by
  have m := h.made _ (List.getElem_mem hi)
  exact ⟨⟨m.1.base (by simp), m.2.1, h.bel⟩, m.2.2⟩
theorem shr3_v (v : Value) (V k : Nat) (w : World) (hv : Nk w v V k) : Calls Tryz.prog 127 #[v, .int .i64 3] w fun e w' => ∃ r, e = .returned r ∧ Rk w w' r (V / 8) k := by
  have hl := hv.1.len
  have hlt := hv.2
  obtain ⟨⟨xs, n1, rfl, k1⟩, _⟩ := hv
  refine (shr_pos 3 (by decide) v xs w n1 (by omega)).mono ?_
  rintro e w' ⟨r, rfl, h1, h2⟩
  refine ⟨r, rfl, ⟨h1, ?_, h2⟩, Nat.lt_of_le_of_lt (Nat.div_le_self _ _) hlt⟩
  exact Nat.le_trans (Nat.le_of_not_lt fun h => absurd (dg_mono Bs_two h) (Nat.not_lt.2 (Nat.div_le_self _ _))) hl
theorem eexp_v (a b m : Value) (A B k j : Nat) (w : World) (ha : Nk w a A k) (hb : Nk w b B j) (hm : Nk w m eP 256) (hk : k ≤ 4096) (hj : j ≤ 4096) :
    Calls Tryz.prog 136 #[a, b, m] w fun e w' => ∃ r, e = .returned (.tuple #[r, .int .i64 0]) ∧ Rk w w' r (A ^ B % eP) 256 := by
  have C := mexp_v a b m A B eP w ha.1 hb.1 hm.1
  rw [rcode_fine pmP.1 pmP.lt4 ha.2 hb.2 hk hj] at C
  refine C.mono ?_
  rintro e w' h
  rcases h with ⟨h, _⟩ | ⟨_, r, rfl, h⟩
  · exact absurd rfl h
  · exact ⟨r, rfl, h, lt_pw (Nat.mod_lt _ (by decide +kernel))⟩
set_option maxHeartbeats 8000000 in
theorem root_eq (a : Value) (A : Nat) (w : World) (T : Te w) (ha : Nk w a A 256) (hc : fM eP (rtn A) (rtn A) = A) : Calls Tryz.prog 96 #[a] w fun e w' => ∃ r, e = .returned r ∧ Rk w w' r (rtn A) 256 := by
  obtain ⟨a0, a1, a2, rfl⟩ := ha.sl
  have HF0 : Hid (Fm w w [] [(.slice a0 a1 a2, A, 256)] []) := (Fm.nil (w := w) (A := [(.slice a0 a1 a2, A, 256)]) (ar_cons ha ar_nil))
  have HT : Hid (Te w) := T
  have HC : Hid (fM eP (rtn A) (rtn A) = A) := hc
  clear ha T hc
  obtain ⟨ctP0, ctP1, ctP2, ctP3, ctP4, ctP5, ctP6, ctP7⟩ := tb8P (HT.out.below HF0.out.bel (Nat.le_refl _)).p
  go_enter Tryz.func96, Tryz.ntmps96
  go_wp2_with fail
  refine (numP _).mono ?_
  rintro e w1 ⟨r1, rfl, h⟩
  have HF1 : Hid (Fm w w1 [] [(.slice a0 a1 a2, A, 256)] [(r1, eP, 256)]) := HF0.out.step h
  clear h
  clear ctP0 ctP1 ctP2 ctP3 ctP4 ctP5 ctP6 ctP7
  go_wp2_with fail
  refine (small_v 3 2 (by decide) (by decide) _).mono ?_
  rintro e w2 ⟨r2, rfl, h⟩
  have HF2 : Hid (Fm w w2 [] [(.slice a0 a1 a2, A, 256)] [(r2, 3, 2), (r1, eP, 256)]) := HF1.out.step h
  clear h
  go_wp2_with fail
  refine (nadd_v _ _ eP 3 256 2 _ (HF2.out.got 1 (okb rfl)) (HF2.out.got 0 (okb rfl)) (by decide)).mono ?_
  rintro e w3 ⟨r3, rfl, h⟩
  have HF3 : Hid (Fm w w3 [] [(.slice a0 a1 a2, A, 256)] [(r3, eP + 3, 259), (r2, 3, 2), (r1, eP, 256)]) := HF2.out.step h
  clear h
  go_wp2_with fail
  refine (shr3_v _ (eP + 3) 259 _ (HF3.out.got 0 (okb rfl))).mono ?_
  rintro e w4 ⟨r4, rfl, h⟩
  have HF4 : Hid (Fm w w4 [] [(.slice a0 a1 a2, A, 256)] [(r4, (eP + 3) / 8, 259), (r3, eP + 3, 259), (r2, 3, 2), (r1, eP, 256)]) := HF3.out.step h
  clear h
  obtain ⟨ctP0, ctP1, ctP2, ctP3, ctP4, ctP5, ctP6, ctP7⟩ := tb8P (HT.out.below HF4.out.bel (Nat.le_refl _)).p
  go_wp2_with fail
  refine (numP _).mono ?_
  rintro e w5 ⟨r5, rfl, h⟩
  have HF5 : Hid (Fm w w5 [] [(.slice a0 a1 a2, A, 256)] [(r5, eP, 256), (r4, (eP + 3) / 8, 259), (r3, eP + 3, 259), (r2, 3, 2), (r1, eP, 256)]) := HF4.out.step h
  clear h
  clear ctP0 ctP1 ctP2 ctP3 ctP4 ctP5 ctP6 ctP7
  go_wp2_with fail
  refine (eexp_v _ _ _ A ((eP + 3) / 8) 256 259 _ (HF5.out.arg 0 (okb rfl)) (HF5.out.got 1 (okb rfl)) (HF5.out.got 0 (okb rfl)) (by decide) (by decide)).mono ?_
  rintro e w6 ⟨r6, rfl, h⟩
  have HF6 : Hid (Fm w w6 [] [(.slice a0 a1 a2, A, 256)] [(r6, rtn A, 256), (r5, eP, 256), (r4, (eP + 3) / 8, 259), (r3, eP + 3, 259), (r2, 3, 2), (r1, eP, 256)]) := HF5.out.step h
  clear h
  obtain ⟨n0, n1, n2, rfl⟩ := (HF6.out.got 0 (okb rfl)).sl
  go_wp2_with fail
  refine (emul_v _ _ (rtn A) (rtn A) 256 256 _ (HT.out.below HF6.out.bel (Nat.le_refl _)) (HF6.out.got 0 (okb rfl)) (HF6.out.got 0 (okb rfl)) (by decide) (by decide)).mono ?_
  rintro e w7 ⟨r7, rfl, h⟩
  have HF7 : Hid (Fm w w7 [] [(.slice a0 a1 a2, A, 256)] [(r7, fM eP (rtn A) (rtn A), 256), (.slice n0 n1 n2, rtn A, 256), (r5, eP, 256), (r4, (eP + 3) / 8, 259), (r3, eP + 3, 259), (r2, 3, 2), (r1, eP, 256)]) := HF6.out.step h
  clear h
  go_wp2_with fail
  refine (vcmp _ _ (fM eP (rtn A) (rtn A)) A _ _ _ (HF7.out.got 0 (okb rfl)).1 (HF7.out.arg 0 (okb rfl)).1 (by decide) (by decide)).mono ?_
  rintro e w8 ⟨rfl, q, hq⟩
  have HF8 : Hid (Fm w w8 [] [(.slice a0 a1 a2, A, 256)] [(r7, fM eP (rtn A) (rtn A), 256), (.slice n0 n1 n2, rtn A, 256), (r5, eP, 256), (r4, (eP + 3) / 8, 259), (r3, eP + 3, 259), (r2, 3, 2), (r1, eP, 256)]) := (by rw [hq]; exact HF7.out.drewN q : Fm w w8 [] [(.slice a0 a1 a2, A, 256)] [(r7, fM eP (rtn A) (rtn A), 256), (.slice n0 n1 n2, rtn A, 256), (r5, eP, 256), (r4, (eP + 3) / 8, 259), (r3, eP + 3, 259), (r2, 3, 2), (r1, eP, 256)])
  clear hq
  rw [cmp3_eq (show ((fM eP (rtn A) (rtn A) : Nat) : Int) = ((A : Nat) : Int) from congrArg Int.ofNat HC.out)]
  go_wp2
  go_ret
  exact ⟨_, rfl, Fm.rk HF8.out 1 (okb rfl)⟩
set_option maxHeartbeats 8000000 in
theorem root_lt (a : Value) (A : Nat) (w : World) (T : Te w) (ha : Nk w a A 256) (hc : fM eP (rtn A) (rtn A) < A) : Calls Tryz.prog 96 #[a] w fun e w' => ∃ r, e = .returned r ∧ Rk w w' r (fM eP (rtn A) eI) 256 := by
  obtain ⟨a0, a1, a2, rfl⟩ := ha.sl
  have HF0 : Hid (Fm w w [] [(.slice a0 a1 a2, A, 256)] []) := (Fm.nil (w := w) (A := [(.slice a0 a1 a2, A, 256)]) (ar_cons ha ar_nil))
  have HT : Hid (Te w) := T
  have HC : Hid (fM eP (rtn A) (rtn A) < A) := hc
  clear ha T hc
  obtain ⟨ctP0, ctP1, ctP2, ctP3, ctP4, ctP5, ctP6, ctP7⟩ := tb8P (HT.out.below HF0.out.bel (Nat.le_refl _)).p
  go_enter Tryz.func96, Tryz.ntmps96
  go_wp2_with fail
  refine (numP _).mono ?_
  rintro e w1 ⟨r1, rfl, h⟩
  have HF1 : Hid (Fm w w1 [] [(.slice a0 a1 a2, A, 256)] [(r1, eP, 256)]) := HF0.out.step h
  clear h
  clear ctP0 ctP1 ctP2 ctP3 ctP4 ctP5 ctP6 ctP7
  go_wp2_with fail
  refine (small_v 3 2 (by decide) (by decide) _).mono ?_
  rintro e w2 ⟨r2, rfl, h⟩
  have HF2 : Hid (Fm w w2 [] [(.slice a0 a1 a2, A, 256)] [(r2, 3, 2), (r1, eP, 256)]) := HF1.out.step h
  clear h
  go_wp2_with fail
  refine (nadd_v _ _ eP 3 256 2 _ (HF2.out.got 1 (okb rfl)) (HF2.out.got 0 (okb rfl)) (by decide)).mono ?_
  rintro e w3 ⟨r3, rfl, h⟩
  have HF3 : Hid (Fm w w3 [] [(.slice a0 a1 a2, A, 256)] [(r3, eP + 3, 259), (r2, 3, 2), (r1, eP, 256)]) := HF2.out.step h
  clear h
  go_wp2_with fail
  refine (shr3_v _ (eP + 3) 259 _ (HF3.out.got 0 (okb rfl))).mono ?_
  rintro e w4 ⟨r4, rfl, h⟩
  have HF4 : Hid (Fm w w4 [] [(.slice a0 a1 a2, A, 256)] [(r4, (eP + 3) / 8, 259), (r3, eP + 3, 259), (r2, 3, 2), (r1, eP, 256)]) := HF3.out.step h
  clear h
  obtain ⟨ctP0, ctP1, ctP2, ctP3, ctP4, ctP5, ctP6, ctP7⟩ := tb8P (HT.out.below HF4.out.bel (Nat.le_refl _)).p
  go_wp2_with fail
  refine (numP _).mono ?_
  rintro e w5 ⟨r5, rfl, h⟩
  have HF5 : Hid (Fm w w5 [] [(.slice a0 a1 a2, A, 256)] [(r5, eP, 256), (r4, (eP + 3) / 8, 259), (r3, eP + 3, 259), (r2, 3, 2), (r1, eP, 256)]) := HF4.out.step h
  clear h
  clear ctP0 ctP1 ctP2 ctP3 ctP4 ctP5 ctP6 ctP7
  go_wp2_with fail
  refine (eexp_v _ _ _ A ((eP + 3) / 8) 256 259 _ (HF5.out.arg 0 (okb rfl)) (HF5.out.got 1 (okb rfl)) (HF5.out.got 0 (okb rfl)) (by decide) (by decide)).mono ?_
  rintro e w6 ⟨r6, rfl, h⟩
  have HF6 : Hid (Fm w w6 [] [(.slice a0 a1 a2, A, 256)] [(r6, rtn A, 256), (r5, eP, 256), (r4, (eP + 3) / 8, 259), (r3, eP + 3, 259), (r2, 3, 2), (r1, eP, 256)]) := HF5.out.step h
  clear h
  obtain ⟨n0, n1, n2, rfl⟩ := (HF6.out.got 0 (okb rfl)).sl
  go_wp2_with fail
  refine (emul_v _ _ (rtn A) (rtn A) 256 256 _ (HT.out.below HF6.out.bel (Nat.le_refl _)) (HF6.out.got 0 (okb rfl)) (HF6.out.got 0 (okb rfl)) (by decide) (by decide)).mono ?_
  rintro e w7 ⟨r7, rfl, h⟩
  have HF7 : Hid (Fm w w7 [] [(.slice a0 a1 a2, A, 256)] [(r7, fM eP (rtn A) (rtn A), 256), (.slice n0 n1 n2, rtn A, 256), (r5, eP, 256), (r4, (eP + 3) / 8, 259), (r3, eP + 3, 259), (r2, 3, 2), (r1, eP, 256)]) := HF6.out.step h
  clear h
  go_wp2_with fail
  refine (vcmp _ _ (fM eP (rtn A) (rtn A)) A _ _ _ (HF7.out.got 0 (okb rfl)).1 (HF7.out.arg 0 (okb rfl)).1 (by decide) (by decide)).mono ?_
  rintro e w8 ⟨rfl, q, hq⟩
  have HF8 : Hid (Fm w w8 [] [(.slice a0 a1 a2, A, 256)] [(r7, fM eP (rtn A) (rtn A), 256), (.slice n0 n1 n2, rtn A, 256), (r5, eP, 256), (r4, (eP + 3) / 8, 259), (r3, eP + 3, 259), (r2, 3, 2), (r1, eP, 256)]) := (by rw [hq]; exact HF7.out.drewN q : Fm w w8 [] [(.slice a0 a1 a2, A, 256)] [(r7, fM eP (rtn A) (rtn A), 256), (.slice n0 n1 n2, rtn A, 256), (r5, eP, 256), (r4, (eP + 3) / 8, 259), (r3, eP + 3, 259), (r2, 3, 2), (r1, eP, 256)])
  clear hq
  rw [cmp3_lt (show ((fM eP (rtn A) (rtn A) : Nat) : Int) < ((A : Nat) : Int) from Int.ofNat_lt.2 HC.out)]
  obtain ⟨ctI0, ctI1, ctI2, ctI3, ctI4, ctI5, ctI6, ctI7⟩ := tb8I (HT.out.below HF8.out.bel (Nat.le_refl _)).i
  go_wp2_with fail
  refine (numI _).mono ?_
  rintro e w9 ⟨r9, rfl, h⟩
  have HF9 : Hid (Fm w w9 [] [(.slice a0 a1 a2, A, 256)] [(r9, eI, 256), (r7, fM eP (rtn A) (rtn A), 256), (.slice n0 n1 n2, rtn A, 256), (r5, eP, 256), (r4, (eP + 3) / 8, 259), (r3, eP + 3, 259), (r2, 3, 2), (r1, eP, 256)]) := HF8.out.step h
  clear h
  clear ctI0 ctI1 ctI2 ctI3 ctI4 ctI5 ctI6 ctI7
  go_wp2_with fail
  refine (emul_v _ _ (rtn A) eI 256 256 _ (HT.out.below HF9.out.bel (Nat.le_refl _)) (HF9.out.got 2 (okb rfl)) (HF9.out.got 0 (okb rfl)) (by decide) (by decide)).mono ?_
  rintro e w10 ⟨r10, rfl, h⟩
  have HF10 : Hid (Fm w w10 [] [(.slice a0 a1 a2, A, 256)] [(r10, fM eP (rtn A) eI, 256), (r9, eI, 256), (r7, fM eP (rtn A) (rtn A), 256), (.slice n0 n1 n2, rtn A, 256), (r5, eP, 256), (r4, (eP + 3) / 8, 259), (r3, eP + 3, 259), (r2, 3, 2), (r1, eP, 256)]) := HF9.out.step h
  clear h
  go_wp2
  go_ret
  exact ⟨_, rfl, Fm.rk HF10.out 0 (okb rfl)⟩
set_option maxHeartbeats 8000000 in
theorem root_gt (a : Value) (A : Nat) (w : World) (T : Te w) (ha : Nk w a A 256) (hc : A < fM eP (rtn A) (rtn A)) : Calls Tryz.prog 96 #[a] w fun e w' => ∃ r, e = .returned r ∧ Rk w w' r (fM eP (rtn A) eI) 256 := by
  obtain ⟨a0, a1, a2, rfl⟩ := ha.sl
  have HF0 : Hid (Fm w w [] [(.slice a0 a1 a2, A, 256)] []) := (Fm.nil (w := w) (A := [(.slice a0 a1 a2, A, 256)]) (ar_cons ha ar_nil))
  have HT : Hid (Te w) := T
  have HC : Hid (A < fM eP (rtn A) (rtn A)) := hc
  clear ha T hc
  obtain ⟨ctP0, ctP1, ctP2, ctP3, ctP4, ctP5, ctP6, ctP7⟩ := tb8P (HT.out.below HF0.out.bel (Nat.le_refl _)).p
  go_enter Tryz.func96, Tryz.ntmps96
  go_wp2_with fail
  refine (numP _).mono ?_
  rintro e w1 ⟨r1, rfl, h⟩
  have HF1 : Hid (Fm w w1 [] [(.slice a0 a1 a2, A, 256)] [(r1, eP, 256)]) := HF0.out.step h
  clear h
  clear ctP0 ctP1 ctP2 ctP3 ctP4 ctP5 ctP6 ctP7
  go_wp2_with fail
  refine (small_v 3 2 (by decide) (by decide) _).mono ?_
  rintro e w2 ⟨r2, rfl, h⟩
  have HF2 : Hid (Fm w w2 [] [(.slice a0 a1 a2, A, 256)] [(r2, 3, 2), (r1, eP, 256)]) := HF1.out.step h
  clear h
  go_wp2_with fail
  refine (nadd_v _ _ eP 3 256 2 _ (HF2.out.got 1 (okb rfl)) (HF2.out.got 0 (okb rfl)) (by decide)).mono ?_
  rintro e w3 ⟨r3, rfl, h⟩
  have HF3 : Hid (Fm w w3 [] [(.slice a0 a1 a2, A, 256)] [(r3, eP + 3, 259), (r2, 3, 2), (r1, eP, 256)]) := HF2.out.step h
  clear h
  go_wp2_with fail
  refine (shr3_v _ (eP + 3) 259 _ (HF3.out.got 0 (okb rfl))).mono ?_
  rintro e w4 ⟨r4, rfl, h⟩
  have HF4 : Hid (Fm w w4 [] [(.slice a0 a1 a2, A, 256)] [(r4, (eP + 3) / 8, 259), (r3, eP + 3, 259), (r2, 3, 2), (r1, eP, 256)]) := HF3.out.step h
  clear h
  obtain ⟨ctP0, ctP1, ctP2, ctP3, ctP4, ctP5, ctP6, ctP7⟩ := tb8P (HT.out.below HF4.out.bel (Nat.le_refl _)).p
  go_wp2_with fail
  refine (numP _).mono ?_
  rintro e w5 ⟨r5, rfl, h⟩
  have HF5 : Hid (Fm w w5 [] [(.slice a0 a1 a2, A, 256)] [(r5, eP, 256), (r4, (eP + 3) / 8, 259), (r3, eP + 3, 259), (r2, 3, 2), (r1, eP, 256)]) := HF4.out.step h
  clear h
  clear ctP0 ctP1 ctP2 ctP3 ctP4 ctP5 ctP6 ctP7
  go_wp2_with fail
  refine (eexp_v _ _ _ A ((eP + 3) / 8) 256 259 _ (HF5.out.arg 0 (okb rfl)) (HF5.out.got 1 (okb rfl)) (HF5.out.got 0 (okb rfl)) (by decide) (by decide)).mono ?_
  rintro e w6 ⟨r6, rfl, h⟩
  have HF6 : Hid (Fm w w6 [] [(.slice a0 a1 a2, A, 256)] [(r6, rtn A, 256), (r5, eP, 256), (r4, (eP + 3) / 8, 259), (r3, eP + 3, 259), (r2, 3, 2), (r1, eP, 256)]) := HF5.out.step h
  clear h
  obtain ⟨n0, n1, n2, rfl⟩ := (HF6.out.got 0 (okb rfl)).sl
  go_wp2_with fail
  refine (emul_v _ _ (rtn A) (rtn A) 256 256 _ (HT.out.below HF6.out.bel (Nat.le_refl _)) (HF6.out.got 0 (okb rfl)) (HF6.out.got 0 (okb rfl)) (by decide) (by decide)).mono ?_
  rintro e w7 ⟨r7, rfl, h⟩
  have HF7 : Hid (Fm w w7 [] [(.slice a0 a1 a2, A, 256)] [(r7, fM eP (rtn A) (rtn A), 256), (.slice n0 n1 n2, rtn A, 256), (r5, eP, 256), (r4, (eP + 3) / 8, 259), (r3, eP + 3, 259), (r2, 3, 2), (r1, eP, 256)]) := HF6.out.step h
  clear h
  go_wp2_with fail
  refine (vcmp _ _ (fM eP (rtn A) (rtn A)) A _ _ _ (HF7.out.got 0 (okb rfl)).1 (HF7.out.arg 0 (okb rfl)).1 (by decide) (by decide)).mono ?_
  rintro e w8 ⟨rfl, q, hq⟩
  have HF8 : Hid (Fm w w8 [] [(.slice a0 a1 a2, A, 256)] [(r7, fM eP (rtn A) (rtn A), 256), (.slice n0 n1 n2, rtn A, 256), (r5, eP, 256), (r4, (eP + 3) / 8, 259), (r3, eP + 3, 259), (r2, 3, 2), (r1, eP, 256)]) := (by rw [hq]; exact HF7.out.drewN q : Fm w w8 [] [(.slice a0 a1 a2, A, 256)] [(r7, fM eP (rtn A) (rtn A), 256), (.slice n0 n1 n2, rtn A, 256), (r5, eP, 256), (r4, (eP + 3) / 8, 259), (r3, eP + 3, 259), (r2, 3, 2), (r1, eP, 256)])
  clear hq
  rw [cmp3_gt (show ((A : Nat) : Int) < ((fM eP (rtn A) (rtn A) : Nat) : Int) from Int.ofNat_lt.2 HC.out)]
  obtain ⟨ctI0, ctI1, ctI2, ctI3, ctI4, ctI5, ctI6, ctI7⟩ := tb8I (HT.out.below HF8.out.bel (Nat.le_refl _)).i
  go_wp2_with fail
  refine (numI _).mono ?_
  rintro e w9 ⟨r9, rfl, h⟩
  have HF9 : Hid (Fm w w9 [] [(.slice a0 a1 a2, A, 256)] [(r9, eI, 256), (r7, fM eP (rtn A) (rtn A), 256), (.slice n0 n1 n2, rtn A, 256), (r5, eP, 256), (r4, (eP + 3) / 8, 259), (r3, eP + 3, 259), (r2, 3, 2), (r1, eP, 256)]) := HF8.out.step h
  clear h
  clear ctI0 ctI1 ctI2 ctI3 ctI4 ctI5 ctI6 ctI7
  go_wp2_with fail
  refine (emul_v _ _ (rtn A) eI 256 256 _ (HT.out.below HF9.out.bel (Nat.le_refl _)) (HF9.out.got 2 (okb rfl)) (HF9.out.got 0 (okb rfl)) (by decide) (by decide)).mono ?_
  rintro e w10 ⟨r10, rfl, h⟩
  have HF10 : Hid (Fm w w10 [] [(.slice a0 a1 a2, A, 256)] [(r10, fM eP (rtn A) eI, 256), (r9, eI, 256), (r7, fM eP (rtn A) (rtn A), 256), (.slice n0 n1 n2, rtn A, 256), (r5, eP, 256), (r4, (eP + 3) / 8, 259), (r3, eP + 3, 259), (r2, 3, 2), (r1, eP, 256)]) := HF9.out.step h
  clear h
  go_wp2
  go_ret
  exact ⟨_, rfl, Fm.rk HF10.out 0 (okb rfl)⟩
theorem root_v (a : Value) (A : Nat) (w : World) (T : Te w) (ha : Nk w a A 256) : Calls Tryz.prog 96 #[a] w fun e w' => ∃ r, e = .returned r ∧ Rk w w' r (rtV A) 256 := by
  rcases Nat.lt_trichotomy (fM eP (rtn A) (rtn A)) A with h | h | h
  · have e : rtV A = fM eP (rtn A) eI := if_neg (fun h2 => absurd (show fM eP (rtn A) (rtn A) = A from h2) (by omega))
    rw [e]
    exact root_lt a A w T ha h
  · have e : rtV A = rtn A := if_pos h
    rw [e]
    exact root_eq a A w T ha h
  · have e : rtV A = fM eP (rtn A) eI := if_neg (fun h2 => absurd (show fM eP (rtn A) (rtn A) = A from h2) (by omega))
    rw [e]
    exact root_gt a A w T ha h
theorem dv_nz (Y : Nat) : 0 < fA eP 1 (fM eP eD (fM eP Y Y)) := by
  refine lt_nz (p := eP) fun h => divnz Y ?_
  have c : (eP : Int) ∣ (fA eP 1 (fM eP eD (fM eP Y Y)) : Int) - ((1 : Nat) + (eD : Int) * ((Y : Int) * Y)) := cg_fA cg_nat (cg_fM cg_nat (cg_fM cg_nat cg_nat))
  exact lc2 1 (-1) h c (by grind)
theorem beside_U {Y J : Nat} (h : Inz (fA eP 1 (fM eP eD (fM eP Y Y))) eP J) : (eP : Int) ∣ (1 + eD * ((Y : Int) * Y)) * (fM eP (fS eP (fM eP Y Y) 1) J : Int) - ((Y : Int) * Y - 1) := by
  have c : (eP : Int) ∣ (fA eP 1 (fM eP eD (fM eP Y Y)) : Int) - ((1 : Nat) + (eD : Int) * ((Y : Int) * Y)) := cg_fA cg_nat (cg_fM cg_nat (cg_fM cg_nat cg_nat))
  have m : (eP : Int) ∣ (fM eP (fS eP (fM eP Y Y) 1) J : Int) - ((Y : Int) * Y - (1 : Nat)) * (J : Int) := cg_fM (cg_fS pmP (cg_fM cg_nat cg_nat) cg_nat) cg_nat
  have i : (eP : Int) ∣ (fA eP 1 (fM eP eD (fM eP Y Y)) : Int) * J - 1 := by
    have h2 := dvd_modE eP (fA eP 1 (fM eP eD (fM eP Y Y)) * J)
    rw [h.2, Int.natCast_mul] at h2
    exact lc1 (-1) h2 (by grind)
  generalize ((fM eP (fS eP (fM eP Y Y) 1) J : Nat) : Int) = u at *
  generalize ((fA eP 1 (fM eP eD (fM eP Y Y)) : Nat) : Int) = v at *
  generalize ((eD : Nat) : Int) = d at *
  generalize ((eP : Nat) : Int) = q at *
  exact lc3 (-(((Y : Int) * Y - 1) * J)) (1 + d * ((Y : Int) * Y)) ((Y : Int) * Y - 1) c m i (by grind)
set_option maxHeartbeats 8000000 in
theorem beside_v (y : Value) (Y : Nat) (w : World) (T : Te w) (hy : Nk w y Y 256) : Calls Tryz.prog 49 #[y] w fun e w' => ∃ r U, (U < eP ∧ (eP : Int) ∣ (1 + eD * ((Y : Int) * Y)) * U - ((Y : Int) * Y - 1)) ∧ e = .returned r ∧ Rk w w' r (rtV U) 256 := by
  obtain ⟨y0, y1, y2, rfl⟩ := hy.sl
  have HF0 : Hid (Fm w w [] [(.slice y0 y1 y2, Y, 256)] []) := (Fm.nil (w := w) (A := [(.slice y0 y1 y2, Y, 256)]) (ar_cons hy ar_nil))
  have HT : Hid (Te w) := T
  have HD : Hid (0 < fA eP 1 (fM eP eD (fM eP Y Y)) ∧ fA eP 1 (fM eP eD (fM eP Y Y)) < eP) := ⟨dv_nz Y, fA_lt pmP _ _⟩
  clear hy T
  go_enter Tryz.func49, Tryz.ntmps49
  go_wp2_with fail
  refine (emul_v _ _ Y Y 256 256 _ (HT.out.below HF0.out.bel (Nat.le_refl _)) (HF0.out.arg 0 (okb rfl)) (HF0.out.arg 0 (okb rfl)) (by decide) (by decide)).mono ?_
  rintro e w1 ⟨r1, rfl, h⟩
  have HF1 : Hid (Fm w w1 [] [(.slice y0 y1 y2, Y, 256)] [(r1, fM eP Y Y, 256)]) := HF0.out.step h
  clear h
  go_wp2_with fail
  have HF1d : Hid (Fm w w1.drew [] [(.slice y0 y1 y2, Y, 256)] [(r1, fM eP Y Y, 256)]) := HF1.out.drew
  refine wp_region_K 5 (fun (w' : World) => T8 w' 3 lD) (by kernel_rfl) ?_
  have hHeld : ((fun (w' : World) => T8 w' 3 lD)) (World.drew _) := (HT.out.below HF1d.out.bel (Nat.le_refl _)).d
  refine wpAnyK_take 1 [2, 4, 5] (v := ?vt1) rfl (by kernel_rfl) (fun _ _ _ h => h) (Or.inl ⟨by rfl, ?ht1⟩) hHeld ?_
  case ht1 => (intro w hSw; (try dsimp only at hSw); obtain ⟨q0, q1, q2, q3, q4, q5, q6, q7⟩ := tb8D hSw; go_simp; try with_reducible rfl)
  try simp only [Act.put, List.setIfInBounds_toArray, List.set_cons_zero, List.set_cons_succ]
  refine wpAnyK_take0 3 (v := ?v3) rfl (by kernel_rfl) (fun _ _ _ h => h) (Or.inl ⟨by rfl, ?hy3⟩) (fun _ => hHeld) ?_
  case hy3 => (intro w hSw; go_simp; try with_reducible rfl)
  try simp only [Act.put, List.setIfInBounds_toArray, List.set_cons_zero, List.set_cons_succ]
  refine wpAnyK_step 0 rfl (by kernel_rfl) (fun K hK => ?_)
  go_simp
  refine (eone_v _).mono ?_
  rintro e w2 ⟨r2, rfl, h⟩
  have HF2 : Hid (Fm w w2 [] [(.slice y0 y1 y2, Y, 256)] [(r2, 1, 1), (r1, fM eP Y Y, 256)]) := HF1d.out.step h
  clear h
  try dsimp only
  refine hK.out _ _ ?hk4 ?_
  case hk4 => exact fun _ => (HT.out.below HF2.out.bel (Nat.le_refl _)).d
  have hHeld : ((fun (w' : World) => T8 w' 3 lD)) _ := (HT.out.below HF2.out.bel (Nat.le_refl _)).d
  clear hK K
  try simp only [Act.put, List.setIfInBounds_toArray, List.set_cons_zero, List.set_cons_succ]
  refine wpAnyK_step 2 rfl (by kernel_rfl) (fun K hK => ?_)
  go_simp
  refine (numD _).mono ?_
  rintro e w3 ⟨r3, rfl, h⟩
  have HF3 : Hid (Fm w w3 [] [(.slice y0 y1 y2, Y, 256)] [(r3, eD, 256), (r2, 1, 1), (r1, fM eP Y Y, 256)]) := HF2.out.step h
  clear h
  try dsimp only
  refine hK.out _ _ ?hk5 ?_
  case hk5 => exact fun _ => (HT.out.below HF3.out.bel (Nat.le_refl _)).d
  have hHeld : ((fun (w' : World) => T8 w' 3 lD)) _ := (HT.out.below HF3.out.bel (Nat.le_refl _)).d
  clear hK K
  try simp only [Act.put, List.setIfInBounds_toArray, List.set_cons_zero, List.set_cons_succ]
  refine wpAnyK_step 4 rfl (by kernel_rfl) (fun K hK => ?_)
  go_simp
  refine (emul_v _ _ eD (fM eP Y Y) 256 256 _ (HT.out.below HF3.out.bel (Nat.le_refl _)) (HF3.out.got 0 (okb rfl)) (HF3.out.got 2 (okb rfl)) (by decide) (by decide)).mono ?_
  rintro e w4 ⟨r4, rfl, h⟩
  have HF4 : Hid (Fm w w4 [] [(.slice y0 y1 y2, Y, 256)] [(r4, fM eP eD (fM eP Y Y), 256), (r3, eD, 256), (r2, 1, 1), (r1, fM eP Y Y, 256)]) := HF3.out.step h
  clear h
  try dsimp only
  refine hK.out _ _ ?hk6 ?_
  case hk6 => exact fun _ => (HT.out.below HF4.out.bel (Nat.le_refl _)).d
  have hHeld : ((fun (w' : World) => T8 w' 3 lD)) _ := (HT.out.below HF4.out.bel (Nat.le_refl _)).d
  clear hK K
  try simp only [Act.put, List.setIfInBounds_toArray, List.set_cons_zero, List.set_cons_succ]
  refine wpAnyK_step 5 rfl (by kernel_rfl) (fun K hK => ?_)
  go_simp
  refine (eadd_v _ _ 1 (fM eP eD (fM eP Y Y)) 1 256 _ (HT.out.below HF4.out.bel (Nat.le_refl _)) (HF4.out.got 2 (okb rfl)) (HF4.out.got 0 (okb rfl)) (by decide) (by decide)).mono ?_
  rintro e w5 ⟨r5, rfl, h⟩
  have HF5 : Hid (Fm w w5 [] [(.slice y0 y1 y2, Y, 256)] [(r5, fA eP 1 (fM eP eD (fM eP Y Y)), 256), (r4, fM eP eD (fM eP Y Y), 256), (r3, eD, 256), (r2, 1, 1), (r1, fM eP Y Y, 256)]) := HF4.out.step h
  clear h
  try dsimp only
  refine hK.out _ _ ?hk7 ?_
  case hk7 => exact fun _ => (HT.out.below HF5.out.bel (Nat.le_refl _)).d
  have hHeld : ((fun (w' : World) => T8 w' 3 lD)) _ := (HT.out.below HF5.out.bel (Nat.le_refl _)).d
  clear hK K
  try simp only [Act.put, List.setIfInBounds_toArray, List.set_cons_zero, List.set_cons_succ]
  refine wpAnyK_take0 6 (v := ?v8) rfl (by kernel_rfl) (fun _ _ _ h => h) (Or.inl ⟨by rfl, ?hy8⟩) (fun _ => hHeld) ?_
  case hy8 => (intro w hSw; go_simp; try with_reducible rfl)
  try simp only [Act.put, List.setIfInBounds_toArray, List.set_cons_zero, List.set_cons_succ]
  refine wpAnyK_done (by kernel_rfl) ?_ _
  go_wp2_with fail
  refine (eone_v _).mono ?_
  rintro e w6 ⟨r6, rfl, h⟩
  have HF6 : Hid (Fm w w6 [] [(.slice y0 y1 y2, Y, 256)] [(r6, 1, 1), (r5, fA eP 1 (fM eP eD (fM eP Y Y)), 256), (r4, fM eP eD (fM eP Y Y), 256), (r3, eD, 256), (r2, 1, 1), (r1, fM eP Y Y, 256)]) := HF5.out.step h
  clear h
  go_wp2_with fail
  refine (esub_v _ _ (fM eP Y Y) 1 256 1 _ (HT.out.below HF6.out.bel (Nat.le_refl _)) (HF6.out.got 5 (okb rfl)) (HF6.out.got 0 (okb rfl)) (by decide) (by decide)).mono ?_
  rintro e w7 ⟨r7, rfl, h⟩
  have HF7 : Hid (Fm w w7 [] [(.slice y0 y1 y2, Y, 256)] [(r7, fS eP (fM eP Y Y) 1, 256), (r6, 1, 1), (r5, fA eP 1 (fM eP eD (fM eP Y Y)), 256), (r4, fM eP eD (fM eP Y Y), 256), (r3, eD, 256), (r2, 1, 1), (r1, fM eP Y Y, 256)]) := HF6.out.step h
  clear h
  go_wp2_with fail
  refine (einv_v _ (fA eP 1 (fM eP eD (fM eP Y Y))) _ (HT.out.below HF7.out.bel (Nat.le_refl _)) ((HF7.out.got 2 (okb rfl)).le (okb rfl)) HD.out.1 HD.out.2).mono ?_
  rintro e w8 ⟨r8, J, hJ, rfl, h⟩
  have HJ : Hid (Inz (fA eP 1 (fM eP eD (fM eP Y Y))) eP J) := hJ
  clear hJ
  have HF8 : Hid (Fm w w8 [] [(.slice y0 y1 y2, Y, 256)] [(r8, J, 256), (r7, fS eP (fM eP Y Y) 1, 256), (r6, 1, 1), (r5, fA eP 1 (fM eP eD (fM eP Y Y)), 256), (r4, fM eP eD (fM eP Y Y), 256), (r3, eD, 256), (r2, 1, 1), (r1, fM eP Y Y, 256)]) := HF7.out.step h
  clear h
  go_wp2_with fail
  refine (emul_v _ _ (fS eP (fM eP Y Y) 1) J 256 256 _ (HT.out.below HF8.out.bel (Nat.le_refl _)) (HF8.out.got 1 (okb rfl)) (HF8.out.got 0 (okb rfl)) (by decide) (by decide)).mono ?_
  rintro e w9 ⟨r9, rfl, h⟩
  have HF9 : Hid (Fm w w9 [] [(.slice y0 y1 y2, Y, 256)] [(r9, fM eP (fS eP (fM eP Y Y) 1) J, 256), (r8, J, 256), (r7, fS eP (fM eP Y Y) 1, 256), (r6, 1, 1), (r5, fA eP 1 (fM eP eD (fM eP Y Y)), 256), (r4, fM eP eD (fM eP Y Y), 256), (r3, eD, 256), (r2, 1, 1), (r1, fM eP Y Y, 256)]) := HF8.out.step h
  clear h
  go_wp2_with fail
  refine (root_v _ (fM eP (fS eP (fM eP Y Y) 1) J) _ (HT.out.below HF9.out.bel (Nat.le_refl _)) (HF9.out.got 0 (okb rfl))).mono ?_
  rintro e w10 ⟨r10, rfl, h⟩
  have HF10 : Hid (Fm w w10 [] [(.slice y0 y1 y2, Y, 256)] [(r10, rtV (fM eP (fS eP (fM eP Y Y) 1) J), 256), (r9, fM eP (fS eP (fM eP Y Y) 1) J, 256), (r8, J, 256), (r7, fS eP (fM eP Y Y) 1, 256), (r6, 1, 1), (r5, fA eP 1 (fM eP eD (fM eP Y Y)), 256), (r4, fM eP eD (fM eP Y Y), 256), (r3, eD, 256), (r2, 1, 1), (r1, fM eP Y Y, 256)]) := HF9.out.step h
  clear h
  go_wp2
  go_ret
  exact ⟨_, _, ⟨fM_lt pmP _ _, beside_U HJ.out⟩, rfl, Fm.rk HF10.out 0 (okb rfl)⟩
end Go.Proofs.YtjpjepfmphlneaaGreatDoor
