import Derived.Test.YtapljedegjiliaaGreatDoorDq
namespace Go.Proofs.YtapljedegjiliaaGreatDoor
open Go.RowKit Go.Shelf

set_option maxRecDepth 100000 in
set_option maxHeartbeats 8000000 in
theorem rparse_any (t : List UInt8) (w : World) :
    Calls Tryz.prog 10 #[.string ⟨t.toArray⟩] w fun e w' => Below w.heap.size w w' ∧ ∃ v, e = .returned (.tuple #[v, .int .i64 ((dparseF t).2.1 : Int), .int .i64 ((dparseF t).2.2 : Int)]) ∧ NO w.heap.size w' v (dparseF t).1 := by
  by_cases hl : 262144 < t.length
  · have HF : Hid (dparseF t = ([], 10, 0)) := by show _ = _; unfold dparseF; rw [if_pos hl]
    have hlb : decide ((t.length : Int) > 262144) = true := decide_eq_true (by omega)
    clear hl
    go_enter Tryz.func10, Tryz.ntmps10
    go_wp2
    go_ret3
    rw [HF.out]
    exact ⟨Below.refl _ _, _, rfl, World.ownsRow_nil _ _ _ _⟩
  · have hlb : decide ((t.length : Int) > 262144) = false := decide_eq_false (by omega)
    obtain ⟨z, hz⟩ : ∃ z, skp t blanksS 0 = z := ⟨_, rfl⟩
    have hzl : z ≤ t.length := by rw [← hz]; exact skp_le _ _ _ (Nat.zero_le _)
    have C1 : Calls Tryz.prog 18 #[.string ⟨t.toArray⟩, .int .i64 0] w fun e w' => e = .returned (.int .i64 z) ∧ w' = w := by
      have h := skip_any t 0 w (Nat.zero_le _) (by omega)
      rw [hz] at h
      exact h
    obtain ⟨X, hX⟩ : ∃ X, vF t 33 z = X := ⟨_, rfl⟩
    have C2 : Calls Tryz.prog 17 #[.string ⟨t.toArray⟩, .int .i64 (z : Int), .int .i64 0] w fun e w' => (∃ v, e = .returned v ∧ GotL X v w.heap.size w') ∧ Below w.heap.size w w' := by
      have h := rvalue_any t (by omega) 32 (Nat.le_refl _) z w hzl
      rw [hX] at h
      exact h
    have hok := vF_ok t 33
    have HF : Hid (dparseF t = dpG t X) := by
      show _ = _
      unfold dparseF
      rw [if_neg hl, hz, hX]
    have HOk : Hid (∀ L q2, X = .ok L q2 → z < q2 ∧ q2 ≤ t.length ∧ 0 < L.length ∧ L.length ≤ q2 - z) := fun L q2 e => hok.ok z L q2 (hX.trans e)
    have HBd : Hid (∀ c b, X = .bad c b → c ≠ 0) := fun c b e => hok.bad z c b (hX.trans e)
    clear hok hX hz
    go_enter Tryz.func10, Tryz.ntmps10
    go_wp2_with fail
    refine C1.mono ?_
    clear C1
    rintro e w1 ⟨rfl, rfl⟩
    go_wp2_with fail
    refine C2.mono ?_
    clear C2
    rintro e w2 ⟨⟨v, rfl, hv⟩, hB2⟩
    cases X with
    | bad c b =>
      obtain ⟨A, S', hv1⟩ := hv
      have hv2 : v = .agg #[.int .i64 A, .slice none 0 0, .string ⟨S'.toArray⟩, .int .i64 (c : Int), .int .i64 (b : Int)] := hv1
      clear hv1
      subst hv2
      have hc0 := HBd.out c b rfl
      have qc : ((c : Int) != 0) = true := by simp; omega
      have qc2 : ((c : Int) == 0) = false := by simp; omega
      have HQ : Hid (dparseF t = ([], c, b)) := HF.out
      have hbl : Bl 50 (w2.alloc (.cells #[.int .i64 A, .slice none 0 0, .string ⟨S'.toArray⟩, .int .i64 (c : Int), .int .i64 (b : Int)] 50)) w2.heap.size [.int .i64 A, .slice none 0 0, .string ⟨S'.toArray⟩, .int .i64 (c : Int), .int .i64 (b : Int)] := alloc_bl _ _ _
      have HB3 : Hid (Below w1.heap.size w1 (w2.alloc (.cells #[.int .i64 A, .slice none 0 0, .string ⟨S'.toArray⟩, .int .i64 (c : Int), .int .i64 (b : Int)] 50))) := hB2.trans ((alloc_below _ _).mono hB2.size)
      obtain ⟨w3, hw3⟩ : ∃ w3, w2.alloc (.cells #[.int .i64 A, .slice none 0 0, .string ⟨S'.toArray⟩, .int .i64 (c : Int), .int .i64 (b : Int)] 50) = w3 := ⟨_, rfl⟩
      rw [hw3] at hbl HB3
      have HW3 : Hid (w2.alloc (.cells #[.int .i64 A, .slice none 0 0, .string ⟨S'.toArray⟩, .int .i64 (c : Int), .int .i64 (b : Int)] 50) = w3) := hw3
      have k3 : w3.cell? ⟨w2.heap.size, 3, none⟩ = some (.int .i64 (c : Int)) := hbl.cell 3 (by simp)
      have k4 : w3.cell? ⟨w2.heap.size, 4, none⟩ = some (.int .i64 (b : Int)) := hbl.cell 4 (by simp)
      clear hw3 hbl HF HOk HBd hB2
      go_upto_region 4 with fail
      rw [HW3.out]
      clear HW3
      go_wp2
      go_quiet (fail)
      go_wp2
      go_ret3
      rw [HQ.out]
      exact ⟨below_drewN HB3.out _, _, rfl, World.ownsRow_nil _ _ _ _⟩
    | ok L q =>
      have hyo := HOk.out L q rfl
      obtain ⟨lv, S', hv1, hno⟩ := hv
      obtain ⟨g, cap, hlv, hg1, hg2⟩ := World.ownsRow.form hno hyo.2.2.1
      subst hlv
      have hv2 : v = .agg #[.int .i64 (q : Int), .slice (some ⟨g, 0, none⟩) L.length cap, .string ⟨S'.toArray⟩, .int .i64 0, .int .i64 0] := hv1
      clear hv1
      subst hv2
      obtain ⟨z2, hz2⟩ : ∃ z2, skp t blanksS q = z2 := ⟨_, rfl⟩
      have HQ : Hid (dparseF t = if z2 < t.length then ([], 31, z2) else (L, 0, 0)) := by show _ = _; rw [HF.out]; unfold dpG; dsimp only; rw [hz2]
      have hbl : Bl 50 (w2.alloc (.cells #[.int .i64 (q : Int), .slice (some ⟨g, 0, none⟩) L.length cap, .string ⟨S'.toArray⟩, .int .i64 0, .int .i64 0] 50)) w2.heap.size [.int .i64 (q : Int), .slice (some ⟨g, 0, none⟩) L.length cap, .string ⟨S'.toArray⟩, .int .i64 0, .int .i64 0] := alloc_bl _ _ _
      have HB3 : Hid (Below w1.heap.size w1 (w2.alloc (.cells #[.int .i64 (q : Int), .slice (some ⟨g, 0, none⟩) L.length cap, .string ⟨S'.toArray⟩, .int .i64 0, .int .i64 0] 50))) := hB2.trans ((alloc_below _ _).mono hB2.size)
      have HN3 : Hid (NO w1.heap.size (w2.alloc (.cells #[.int .i64 (q : Int), .slice (some ⟨g, 0, none⟩) L.length cap, .string ⟨S'.toArray⟩, .int .i64 0, .int .i64 0] 50)) (.slice (some ⟨g, 0, none⟩) L.length cap) L) := World.ownsRow.alloc hno _
      obtain ⟨w3, hw3⟩ : ∃ w3, w2.alloc (.cells #[.int .i64 (q : Int), .slice (some ⟨g, 0, none⟩) L.length cap, .string ⟨S'.toArray⟩, .int .i64 0, .int .i64 0] 50) = w3 := ⟨_, rfl⟩
      rw [hw3] at hbl HB3 HN3
      have HW3 : Hid (w2.alloc (.cells #[.int .i64 (q : Int), .slice (some ⟨g, 0, none⟩) L.length cap, .string ⟨S'.toArray⟩, .int .i64 0, .int .i64 0] 50) = w3) := hw3
      have k0 : w3.cell? ⟨w2.heap.size, 0, none⟩ = some (.int .i64 (q : Int)) := hbl.cell 0 (by simp)
      have k1 : w3.cell? ⟨w2.heap.size, 1, none⟩ = some (.slice (some ⟨g, 0, none⟩) L.length cap) := hbl.cell 1 (by simp)
      have k3 : w3.cell? ⟨w2.heap.size, 3, none⟩ = some (.int .i64 0) := hbl.cell 3 (by simp)
      have C3 := skip_any t q w3 hyo.2.1 (by omega)
      rw [hz2] at C3
      clear hw3 hbl HF HOk HBd hB2 hz2 hno
      go_upto_region 4 with fail
      rw [HW3.out]
      clear HW3
      go_wp2_with fail
      refine C3.mono ?_
      clear C3
      rintro e w4 ⟨rfl, hw4⟩
      obtain rfl := hw4.symm
      by_cases hlt : z2 < t.length
      · have q0 : decide ((z2 : Int) < (t.length : Int)) = true := decide_eq_true (by omega)
        have HE : Hid (dparseF t = ([], 31, z2)) := by show _ = _; rw [HQ.out, if_pos hlt]
        clear HQ
        go_wp2
        go_ret3
        rw [HE.out]
        exact ⟨HB3.out, _, rfl, World.ownsRow_nil _ _ _ _⟩
      · have q0 : decide ((z2 : Int) < (t.length : Int)) = false := decide_eq_false (by omega)
        have HE : Hid (dparseF t = (L, 0, 0)) := by show _ = _; rw [HQ.out, if_neg hlt]
        clear HQ
        go_wp2
        go_ret3
        rw [HE.out]
        exact ⟨HB3.out, _, rfl, HN3.out⟩

end Go.Proofs.YtapljedegjiliaaGreatDoor
