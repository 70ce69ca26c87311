import Derived.Test.YtecapoknnnoheaaDiv
namespace Go.Proofs.Ytecapoknnnoheaa
open Go.RowKit

set_option maxHeartbeats 1000000 in
theorem divmod_zero (v u : Value) (xs ys : List Nat) (w : World) (hv : Nm w v xs) (hu : Nm w u ys) (h1 : xs.length ≤ 100000000) (h2 : ys.length ≤ 100000000) (h0 : nv Bs ys = 0) :
    Calls Try.prog 26 #[v, u] w fun e w' => e = .returned (.tuple #[.slice none 0 0, .slice none 0 0, .int .i64 60]) ∧ w' = w := by
  obtain ⟨ax, cx, X, P1, lx1, lx2, RX, SX, EX⟩ := proper_nm v xs w hv (by omega)
  obtain ⟨ay, cy, Y, P2, ly1, ly2, RY, SY, EY⟩ := proper_nm u ys w hu (by omega)
  rw [h0, dg_zero] at EY
  subst EY
  rw [List.length_nil] at P2
  clear hv hu h1 h2 h0 lx1 lx2 RX SX EX ly1 ly2 RY SY
  go_enter Try.func26, Try.ntmps26
  go_wp2_with fail
  refine P1.mono ?_
  clear P1
  rintro e w ⟨rfl, rfl⟩
  go_wp2_with fail
  refine P2.mono ?_
  clear P2
  rintro e w ⟨rfl, rfl⟩
  go_wp2
  go_ret3
  exact ⟨rfl, rfl⟩

set_option maxHeartbeats 1000000 in
theorem divmod_pos (v u : Value) (xs ys : List Nat) (w : World) (hv : Nm w v xs) (hu : Nm w u ys) (h1 : xs.length ≤ 100000000) (h2 : ys.length ≤ 100000000) (h0 : nv Bs ys ≠ 0) :
    Calls Try.prog 26 #[v, u] w fun e w' => ∃ q r b2, e = .returned (.tuple #[q, r, .int .i64 0]) ∧ Ow w' w.heap.size q (dg Bs (nv Bs xs / nv Bs ys)) ∧ Ow w' b2 r (dg Bs (nv Bs xs % nv Bs ys)) ∧ w.heap.size ≤ b2 ∧ (∀ g, q.ownBlock = some g → g < b2) ∧ Below w.heap.size w w' := by
  obtain ⟨ax, cx, X, P1, lx1, lx2, RX, SX, EX⟩ := proper_nm v xs w hv (by omega)
  obtain ⟨ay, cy, Y, P2, ly1, ly2, RY, SY, EY⟩ := proper_nm u ys w hu (by omega)
  have EX' : nv Bs X = nv Bs xs := by rw [EX, dg_nv Bs_two]
  have EY' : nv Bs Y = nv Bs ys := by rw [EY, dg_nv Bs_two]
  have hX : X.length ≤ 100000000 := by omega
  have hY : Y.length ≤ 100000000 := by omega
  have hY0 : Y.length ≠ 0 := fun e => by
    have := List.eq_nil_of_length_eq_zero e
    rw [this] at EY'
    exact h0 EY'.symm
  have HLE : Hid (nv Bs Y ≤ nv Bs X → Y.length ≤ X.length) := fun h => by
    rcases Nat.lt_or_ge X.length Y.length with h3 | h3
    · rw [EX, EY] at h3
      have := dg_mono Bs_two h3
      omega
    · exact h3
  have HXe : Hid (X = dg Bs (nv Bs X)) := by show _ = _; rw [EX']; exact EX
  obtain ⟨m, hm⟩ : ∃ m, Y.length = m + 1 := ⟨Y.length - 1, by omega⟩
  have Htop : Hid (Y.getD m 0 ≠ 0) := by
    show _ ≠ _
    intro e
    have h3 := dg_low Bs_two m (nv Bs ys) (by rw [← EY]; exact hm)
    have e2 := nv_take_succ Bs Y m
    rw [List.take_of_length_le (by omega), e, Nat.mul_zero, Nat.add_zero, EY'] at e2
    have h4 := nv_lt Bs_pos (SY.take m)
    rw [List.length_take, Nat.min_eq_left (by omega), ← e2] at h4
    exact absurd (Nat.lt_of_lt_of_le h4 h3) (Nat.lt_irrefl _)
  rw [← EX', ← EY']
  rw [hm] at P2
  have HRX : Hid (Rn w ax X) := RX
  have HRY : Hid (Rn w ay Y) := RY
  have HSX : Hid (Sm Bs X) := SX
  have HSY : Hid (Sm Bs Y) := SY
  have C := cmp_any ax ay X.length (m + 1) cx cy X Y w RX rfl lx1 RY hm.symm (by omega) SX SY (by omega) (by omega)
  have Hm : Hid (Y.length = m + 1) := hm
  clear EX EY EX' EY' RX RY SX SY hv hu h1 h2 lx1 lx2 ly1 ly2 hY0 hm h0
  by_cases hlt : nv Bs X < nv Bs Y
  · rw [cmp3_lt (by omega)] at C
    have HT : Hid (dg Bs (nv Bs X / nv Bs Y) = [] ∧ nv Bs X % nv Bs Y = nv Bs X) := ⟨by rw [Nat.div_eq_of_lt hlt, dg_zero], Nat.mod_eq_of_lt hlt⟩
    clear hlt
    go_enter Try.func26, Try.ntmps26
    go_wp2_with fail
    refine P1.mono ?_
    clear P1
    rintro e w ⟨rfl, rfl⟩
    go_wp2_with fail
    refine P2.mono ?_
    clear P2
    rintro e w ⟨rfl, rfl⟩
    go_wp2_with fail
    refine C.mono ?_
    clear C
    rintro e w1 ⟨rfl, q, hq⟩
    have HQ : Hid (w1 = w.drewN q) := hq
    have hws : w1.heap.size = w.heap.size := by rw [hq]; rfl
    have C := copied_any ax X.length cx X.length X w1 (by rw [hq]; exact HRX.out.drewN q) rfl (Nat.le_refl _) (by omega)
    rw [hws] at C
    clear hq hws
    go_wp2_with fail
    refine C.mono ?_
    clear C
    rintro e w2 ⟨rfl, hb, hbel, hsz⟩
    have HB1 : Hid (Below w.heap.size w w2) := (by rw [HQ.out]; exact below_drewN (Below.refl _ _) q : Below w.heap.size w w1).trans hbel
    have HO : Hid (Ow w2 w.heap.size (.slice (some ⟨w.heap.size, 0, none⟩) X.length X.length) X) := by
      rw [Nat.sub_self, List.replicate_zero, List.append_nil] at hb
      have := hb.ow X.length (Nat.le_refl _) (Nat.le_refl w.heap.size) (by omega)
      rw [List.take_of_length_le (Nat.le_refl _)] at this
      exact this
    clear hb hbel hsz
    go_wp2
    go_ret3
    rw [HT.out.1, HT.out.2]
    exact ⟨_, _, w.heap.size, rfl, Ow.nil _ _, by rw [← HXe.out]; exact HO.out, Nat.le_refl _, (fun g hg => by cases hg), HB1.out⟩
  · have hc : cmp3 (nv Bs X) (nv Bs Y) = 0 ∨ cmp3 (nv Bs X) (nv Bs Y) = 1 := by
      rcases Nat.lt_or_ge (nv Bs Y) (nv Bs X) with h | h
      · exact .inr (cmp3_gt (by omega))
      · exact .inl (cmp3_eq (by omega))
    obtain ⟨o, ho, hob⟩ : ∃ o : Int, cmp3 (nv Bs X) (nv Bs Y) = o ∧ decide (o < 0) = false := by
      rcases hc with h | h
      · exact ⟨0, h, by decide⟩
      · exact ⟨1, h, by decide⟩
    rw [ho] at C
    have hle := HLE.out (by omega)
    rw [Hm.out] at hle
    clear ho hc hlt
    go_enter Try.func26, Try.ntmps26
    go_wp2_with fail
    refine P1.mono ?_
    clear P1
    rintro e w ⟨rfl, rfl⟩
    go_wp2_with fail
    refine P2.mono ?_
    clear P2
    rintro e w ⟨rfl, rfl⟩
    go_wp2_with fail
    refine C.mono ?_
    clear C
    rintro e w1 ⟨rfl, q, hq⟩
    have HQ : Hid (w1 = w.drewN q) := hq
    have C := divide_any ax ay cx cy m (X.length + 1 - (m + 1)) (m + 1) X Y w1 (by rw [hq]; exact HRX.out.drewN q) (by rw [hq]; exact HRY.out.drewN q) HSX.out HSY.out Hm.out rfl (by omega) (by omega) Htop.out hX
    clear hq
    go_wp2_with fail
    refine C.mono ?_
    clear C
    rintro e w2 ⟨qv, rv, b2, rfl, h3, h4, h5, h6, h7⟩
    have hws : w1.heap.size = w.heap.size := by rw [HQ.out]; rfl
    rw [hws] at h3 h5 h7
    have HR : Hid (Ow w2 w.heap.size qv (dg Bs (nv Bs X / nv Bs Y)) ∧ Ow w2 b2 rv (dg Bs (nv Bs X % nv Bs Y)) ∧ w.heap.size ≤ b2 ∧ (∀ g, qv.ownBlock = some g → g < b2) ∧ Below w.heap.size w w2) := ⟨h3, h4, h5, h6, (by rw [HQ.out]; exact below_drewN (Below.refl _ _) q : Below w.heap.size w w1).trans h7⟩
    clear h3 h4 h5 h6 h7 hws
    go_wp2
    go_ret3
    exact ⟨qv, rv, b2, rfl, HR.out⟩

end Go.Proofs.Ytecapoknnnoheaa
