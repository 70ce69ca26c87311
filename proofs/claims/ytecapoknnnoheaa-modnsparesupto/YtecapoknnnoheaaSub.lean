import Derived.Test.YtecapoknnnoheaaOps
namespace Go.Proofs.Ytecapoknnnoheaa
open Go.RowKit

theorem diff_exact {B : Nat} (hB : 0 < B) {W : List Nat} (n c X Y : Nat) (hW : Sm B W) (hl : W.length = n) (_hX : X < B ^ n) (hle : Y ≤ X) (h : nv B W + 1 * Y = X + B ^ n * c) : nv B W = X - Y := by
  have h1 := nv_lt hB hW
  rw [hl] at h1
  rcases c with _ | c
  · omega
  · rw [Nat.mul_succ] at h; omega

set_option maxHeartbeats 1000000 in
theorem sub_nm (v u : Value) (xs ys : List Nat) (w : World) (hv : Nm w v xs) (hu : Nm w u ys) (h1 : xs.length ≤ 100000000) (h2 : ys.length ≤ 100000000) :
    Calls Try.prog 65 #[v, u] w fun e w' => ∃ r, e = .returned (.tuple #[r, .bool (decide (nv Bs ys ≤ nv Bs xs))]) ∧ Ow w' w.heap.size r (dg Bs (nv Bs xs - nv Bs ys)) ∧ Below w.heap.size w w' := by
  obtain ⟨ax, cx, X, P1, lx1, lx2, RX, SX, EX⟩ := proper_nm v xs w hv (by omega)
  obtain ⟨ay, cy, Y, P2, ly1, ly2, RY, SY, EY⟩ := proper_nm u ys w hu (by omega)
  have EX' : nv Bs X = nv Bs xs := by rw [EX, dg_nv Bs_two]
  have EY' : nv Bs Y = nv Bs ys := by rw [EY, dg_nv Bs_two]
  have hX : X.length ≤ 100000000 := by omega
  have hY : Y.length ≤ 100000000 := by omega
  have HLE : Hid (nv Bs Y ≤ nv Bs X → Y.length ≤ X.length) := fun h => by
    rcases Nat.lt_or_ge X.length Y.length with h3 | h3
    · rw [EX, EY] at h3
      have := dg_mono Bs_two h3
      omega
    · exact h3
  rw [← EX', ← EY']
  have HRX : Hid (Rn w ax X) := RX
  have HRY : Hid (Rn w ay Y) := RY
  have HSX : Hid (Sm Bs X) := SX
  have HSY : Hid (Sm Bs Y) := SY
  have C := cmp_any ax ay X.length Y.length cx cy X Y w RX rfl lx1 RY rfl ly1 SX SY (by omega) (by omega)
  clear EX EY EX' EY' RX RY SX SY hv hu h1 h2 lx1 lx2 ly1 ly2
  by_cases hlt : nv Bs X < nv Bs Y
  · rw [cmp3_lt (by omega)] at C
    have HT : Hid (dg Bs (nv Bs X - nv Bs Y) = [] ∧ decide (nv Bs Y ≤ nv Bs X) = false) := ⟨by rw [show nv Bs X - nv Bs Y = 0 by omega, dg_zero], by simp; omega⟩
    clear hlt
    go_enter Try.func65, Try.ntmps65
    go_wp2_with fail
    refine P1.mono ?_
    clear P1
    rintro e w ⟨rfl, rfl⟩
    go_wp2_with fail
    refine P2.mono ?_
    clear P2
    rintro e w ⟨rfl, rfl⟩
    go_wp2_with fail
    refine C.mono ?_
    clear C
    rintro e w1 ⟨rfl, q, hq⟩
    have HQ : Hid (w1 = w.drewN q) := hq
    clear hq
    go_wp2
    go_ret2
    rw [HT.out.1, HT.out.2]
    exact ⟨_, rfl, Ow.nil _ _, by rw [HQ.out]; exact below_drewN (Below.refl _ _) q⟩
  · have hc : cmp3 (nv Bs X) (nv Bs Y) = 0 ∨ cmp3 (nv Bs X) (nv Bs Y) = 1 := by
      rcases Nat.lt_or_ge (nv Bs Y) (nv Bs X) with h | h
      · exact .inr (cmp3_gt (by omega))
      · exact .inl (cmp3_eq (by omega))
    have HG : Hid (nv Bs Y ≤ nv Bs X) := by show _ ≤ _; omega
    clear hlt
    obtain ⟨o, ho, hob⟩ : ∃ o : Int, cmp3 (nv Bs X) (nv Bs Y) = o ∧ decide (o < 0) = false := by
      rcases hc with h | h
      · exact ⟨0, h, by decide⟩
      · exact ⟨1, h, by decide⟩
    rw [ho] at C
    clear ho hc
    go_enter Try.func65, Try.ntmps65
    go_wp2_with fail
    refine P1.mono ?_
    clear P1
    rintro e w ⟨rfl, rfl⟩
    go_wp2_with fail
    refine P2.mono ?_
    clear P2
    rintro e w ⟨rfl, rfl⟩
    go_wp2_with fail
    refine C.mono ?_
    clear C
    rintro e w1 ⟨rfl, q, hq⟩
    have HQ : Hid (w1 = w.drewN q) := hq
    have hws : w1.heap.size = w.heap.size := by rw [hq]; rfl
    have C := copied_any ax X.length cx X.length X w1 (by rw [hq]; exact HRX.out.drewN q) rfl (Nat.le_refl _) (by omega)
    rw [hws] at C
    clear hq hws
    go_wp2_with fail
    refine C.mono ?_
    clear C
    rintro e w2 ⟨rfl, hb, hbel, hsz⟩
    have HB1 : Hid (Below w.heap.size w w2) := (by rw [HQ.out]; exact below_drewN (Below.refl _ _) q : Below w.heap.size w w1).trans hbel
    have C2 := takeFrom_any w.heap.size 0 X.length X.length Y.length cy 1 ay [] X [] Y w2 (by simpa using hb) rfl rfl rfl (HRY.out.below HB1.out (Nat.le_refl _)) (HRY.out.off _ (Nat.le_refl _)) HSX.out HSY.out (by omega) (by decide)
    clear hb hbel hsz
    go_wp2_with fail
    refine C2.mono ?_
    clear C2
    rintro e w3 ⟨W, c, rfl, hbW, hlW, sW, heq, hbut, hs2⟩
    have HF : Hid (nv Bs W = nv Bs X - nv Bs Y) := by
      show _ = _
      rw [List.take_of_length_le (HLE.out HG.out)] at heq
      exact diff_exact Bs_pos X.length c _ _ sW hlW (nv_lt Bs_pos HSX.out) HG.out heq
    have C3 := proper_any (some ⟨w.heap.size, 0, none⟩) X.length X.length W w3 (by have := hbW; simp at this; exact this.rn) hlW.symm (Nat.le_refl _) (by omega)
    have HA : Hid (Ow w3 w.heap.size (.slice (some ⟨w.heap.size, 0, none⟩) (tl W) X.length) (dg Bs (nv Bs W))) := by
      have := Bl.proper (w := w3) (base := w.heap.size) (g := w.heap.size) (L := W) (by simpa using hbW) sW (Nat.le_refl _) (by omega)
      rw [hlW] at this
      exact this
    have HB2 : Hid (Below w.heap.size w w3) := HB1.out.trans (hbut.below HB1.out.size (Nat.le_refl _))
    clear hbW hlW sW heq hbut hs2
    go_wp2_with fail
    refine C3.mono ?_
    clear C3
    rintro e w3 ⟨rfl, rfl⟩
    go_wp2
    go_ret2
    rw [← HF.out, decide_eq_true HG.out]
    exact ⟨_, rfl, HA.out, HB2.out⟩

end Go.Proofs.Ytecapoknnnoheaa
