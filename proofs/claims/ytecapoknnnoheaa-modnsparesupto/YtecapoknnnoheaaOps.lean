import Derived.Test.YtecapoknnnoheaaCmp
namespace Go.Proofs.Ytecapoknnnoheaa
open Go.RowKit

theorem cmp_nm (v u : Value) (xs ys : List Nat) (w : World) (hv : Nm w v xs) (hu : Nm w u ys) (h1 : xs.length ≤ 1000000000) (h2 : ys.length ≤ 1000000000) :
    Calls Try.prog 22 #[v, u] w fun e w' => e = .returned (.int .i64 (cmp3 (nv Bs xs) (nv Bs ys))) ∧ ∃ q, w' = w.drewN q := by
  obtain ⟨ax, cx, rfl, hcx, hx, sx⟩ := hv
  obtain ⟨ay, cy, rfl, hcy, hy, sy⟩ := hu
  exact cmp_any ax ay _ _ cx cy xs ys w hx rfl hcx hy rfl hcy sx sy h1 h2

/-- What proper answers, as a number. -/
theorem proper_nm (v : Value) (xs : List Nat) (w : World) (hv : Nm w v xs) (h1 : xs.length ≤ 1000000000) :
    ∃ (ao : Option Addr) (c : Nat) (X : List Nat), (Calls Try.prog 49 #[v] w fun e w' => e = .returned (.slice ao X.length c) ∧ w' = w) ∧ X.length ≤ c ∧ X.length ≤ xs.length ∧ Rn w ao X ∧ Sm Bs X ∧ X = dg Bs (nv Bs xs) := by
  obtain ⟨ax, cx, rfl, hcx, hx, sx⟩ := hv
  have P1 := proper_any ax _ cx xs w hx rfl hcx h1
  have ht := tl_le xs
  refine ⟨ax, cx, dg Bs (nv Bs xs), ?_, ?_, ?_, ?_, dg_sm Bs_two _, rfl⟩
  · rw [dg_length Bs_two sx]; exact P1
  · rw [dg_length Bs_two sx]; omega
  · rw [dg_length Bs_two sx]; omega
  · rw [← trim_dg Bs_two sx]; exact hx.take _

theorem nv_pad {B : Nat} (xs : List Nat) (n : Nat) : nv B (xs ++ List.replicate n 0) = nv B xs := by rw [nv_append, nv_zeros]; omega

theorem sum_fits {B : Nat} (hB : 2 ≤ B) {X Y : List Nat} (n : Nat) (h1 : Sm B X) (h2 : Sm B Y) (l1 : X.length < n) (l2 : Y.length < n) : nv B X + nv B Y < B ^ n := by
  have a1 := nv_lt (by omega) h1
  have a2 := nv_lt (by omega) h2
  have b1 : B ^ X.length ≤ B ^ (n - 1) := Nat.pow_le_pow_right (by omega) (by omega)
  have b2 : B ^ Y.length ≤ B ^ (n - 1) := Nat.pow_le_pow_right (by omega) (by omega)
  have e : B ^ n = B ^ (n - 1) * B := by rw [← Nat.pow_succ]; congr 1; omega
  have : B ^ (n - 1) * 2 ≤ B ^ (n - 1) * B := Nat.mul_le_mul_left _ hB
  omega

theorem sum_exact {B : Nat} (hB : 2 ≤ B) {X Y W : List Nat} (n c : Nat) (h1 : Sm B X) (h2 : Sm B Y) (l1 : X.length < n) (l2 : Y.length < n) (h : nv B W + B ^ n * c = nv B X + nv B Y) : nv B W = nv B X + nv B Y := by
  have h3 := sum_fits hB n h1 h2 l1 l2
  rcases c with _ | c
  · omega
  · rw [Nat.mul_succ] at h; omega

set_option maxHeartbeats 1000000 in
theorem add_nm (v u : Value) (xs ys : List Nat) (w : World) (hv : Nm w v xs) (hu : Nm w u ys) (h1 : xs.length ≤ 100000000) (h2 : ys.length ≤ 100000000) :
    Calls Try.prog 23 #[v, u] w fun e w' => ∃ r, e = .returned r ∧ Ow w' w.heap.size r (dg Bs (nv Bs xs + nv Bs ys)) ∧ Below w.heap.size w w' := by
  obtain ⟨ax, cx, X, P1, lx1, lx2, RX, SX, EX⟩ := proper_nm v xs w hv (by omega)
  obtain ⟨ay, cy, Y, P2, ly1, ly2, RY, SY, EY⟩ := proper_nm u ys w hu (by omega)
  have HE : Hid (nv Bs xs + nv Bs ys = nv Bs X + nv Bs Y) := by show _ = _; rw [EX, EY, dg_nv Bs_two, dg_nv Bs_two]
  rw [HE.out]
  have hX : X.length ≤ 100000000 := by omega
  have hY : Y.length ≤ 100000000 := by omega
  rcases Nat.lt_or_ge X.length Y.length with hxy | hxy
  · have C := copied_any ax X.length cx (Y.length + 1) X w RX rfl (by omega) (by omega)
    rw [show ((Y.length + 1 : Nat) : Int) = (Y.length : Int) + 1 from by omega] at C
    have HRY : Hid (Rn w ay Y) := RY
    have HSX : Hid (Sm Bs X) := SX
    have HSY : Hid (Sm Bs Y) := SY
    clear EX EY HE RX RY SX SY hv hu h1 h2 lx1 lx2 ly1 ly2
    go_enter Try.func23, Try.ntmps23
    go_wp2_with fail
    refine P1.mono ?_
    clear P1
    rintro e w ⟨rfl, rfl⟩
    go_wp2_with fail
    refine P2.mono ?_
    clear P2
    rintro e w ⟨rfl, rfl⟩
    go_wp2_with fail
    refine C.mono ?_
    clear C
    rintro e w1 ⟨rfl, hb, hbel, hsz⟩
    have HB1 : Hid (Below w.heap.size w w1 ∧ w1.heap.size = w.heap.size + 1) := ⟨hbel, hsz⟩
    clear hsz
    have C2 := putTo_any w.heap.size 0 (Y.length + 1) (Y.length + 1) Y.length cy ay [] (X ++ List.replicate (Y.length + 1 - X.length) 0) [] Y w1 (by simpa using hb) rfl (by simp; omega) rfl (HRY.out.below hbel (Nat.le_refl _)) (HRY.out.off _ (Nat.le_refl _)) (HSX.out.append (Sm.zeros _ Bs_pos)) HSY.out (by omega)
    clear hb hbel
    go_wp2_with fail
    refine C2.mono ?_
    clear C2
    rintro e w2 ⟨rfl, W, c, hbW, hlW, sW, heq, hc1, hbut, hs2⟩
    have HF : Hid (nv Bs W = nv Bs X + nv Bs Y) := by
      show _ = _
      rw [nv_pad, List.take_of_length_le (by omega)] at heq
      exact sum_exact Bs_two (Y.length + 1) c HSX.out HSY.out (by omega) (by omega) heq
    have C3 := proper_any (some ⟨w.heap.size, 0, none⟩) (Y.length + 1) (Y.length + 1) W w2 (by have := hbW; simp at this; exact this.rn) hlW.symm (Nat.le_refl _) (by omega)
    have HA : Hid (Ow w2 w.heap.size (.slice (some ⟨w.heap.size, 0, none⟩) (tl W) (Y.length + 1)) (dg Bs (nv Bs W))) := by
      have := Bl.proper (w := w2) (base := w.heap.size) (g := w.heap.size) (L := W) (by simpa using hbW) sW (Nat.le_refl _) (by omega)
      rw [hlW] at this
      exact this
    have HB2 : Hid (Below w.heap.size w w2) := HB1.out.1.trans (hbut.below HB1.out.1.size (Nat.le_refl _))
    clear hbW hlW sW heq hc1 hbut hs2
    go_wp2_with fail
    refine C3.mono ?_
    clear C3
    rintro e w2 ⟨rfl, rfl⟩
    go_wp2
    go_ret
    rw [← HF.out]
    exact ⟨_, rfl, HA.out, HB2.out⟩
  · have C := copied_any ax X.length cx (X.length + 1) X w RX rfl (by omega) (by omega)
    rw [show ((X.length + 1 : Nat) : Int) = (X.length : Int) + 1 from by omega] at C
    have HRY : Hid (Rn w ay Y) := RY
    have HSX : Hid (Sm Bs X) := SX
    have HSY : Hid (Sm Bs Y) := SY
    clear EX EY HE RX RY SX SY hv hu h1 h2 lx1 lx2 ly1 ly2
    go_enter Try.func23, Try.ntmps23
    go_wp2_with fail
    refine P1.mono ?_
    clear P1
    rintro e w ⟨rfl, rfl⟩
    go_wp2_with fail
    refine P2.mono ?_
    clear P2
    rintro e w ⟨rfl, rfl⟩
    go_wp2_with fail
    refine C.mono ?_
    clear C
    rintro e w1 ⟨rfl, hb, hbel, hsz⟩
    have HB1 : Hid (Below w.heap.size w w1 ∧ w1.heap.size = w.heap.size + 1) := ⟨hbel, hsz⟩
    clear hsz
    have C2 := putTo_any w.heap.size 0 (X.length + 1) (X.length + 1) Y.length cy ay [] (X ++ List.replicate (X.length + 1 - X.length) 0) [] Y w1 (by simpa using hb) rfl (by simp) rfl (HRY.out.below hbel (Nat.le_refl _)) (HRY.out.off _ (Nat.le_refl _)) (HSX.out.append (Sm.zeros _ Bs_pos)) HSY.out (by omega)
    clear hb hbel
    go_wp2_with fail
    refine C2.mono ?_
    clear C2
    rintro e w2 ⟨rfl, W, c, hbW, hlW, sW, heq, hc1, hbut, hs2⟩
    have HF : Hid (nv Bs W = nv Bs X + nv Bs Y) := by
      show _ = _
      rw [nv_pad, List.take_of_length_le (by omega)] at heq
      exact sum_exact Bs_two (X.length + 1) c HSX.out HSY.out (by omega) (by omega) heq
    have C3 := proper_any (some ⟨w.heap.size, 0, none⟩) (X.length + 1) (X.length + 1) W w2 (by have := hbW; simp at this; exact this.rn) hlW.symm (Nat.le_refl _) (by omega)
    have HA : Hid (Ow w2 w.heap.size (.slice (some ⟨w.heap.size, 0, none⟩) (tl W) (X.length + 1)) (dg Bs (nv Bs W))) := by
      have := Bl.proper (w := w2) (base := w.heap.size) (g := w.heap.size) (L := W) (by simpa using hbW) sW (Nat.le_refl _) (by omega)
      rw [hlW] at this
      exact this
    have HB2 : Hid (Below w.heap.size w w2) := HB1.out.1.trans (hbut.below HB1.out.1.size (Nat.le_refl _))
    clear hbW hlW sW heq hc1 hbut hs2
    go_wp2_with fail
    refine C3.mono ?_
    clear C3
    rintro e w2 ⟨rfl, rfl⟩
    go_wp2
    go_ret
    rw [← HF.out]
    exact ⟨_, rfl, HA.out, HB2.out⟩

end Go.Proofs.Ytecapoknnnoheaa
