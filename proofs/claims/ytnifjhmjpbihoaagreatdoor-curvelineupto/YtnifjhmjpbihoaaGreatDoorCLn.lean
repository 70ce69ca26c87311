import Derived.Test.YtnifjhmjpbihoaaGreatDoorCLm
import Derived.Laws.ResultCell
namespace Go.Proofs.YtnifjhmjpbihoaaGreatDoor
open Go.RowKit

set_option maxRecDepth 100000

set_option maxHeartbeats 1000000 in
theorem lfadd_v (pv a b : Value) (p A B k m : Nat) (w : World) (hp : Pm p) (hpv : Nu w pv p) (ha : Nk w a A k) (hb : Nk w b B m) (hk : k ≤ 4096) (hm : m ≤ 4096) :
    Calls Tryz.prog 47 #[.agg #[pv], a, b] w fun e w' => ∃ r, e = .returned r ∧ Rk w w' r (fA p A B) 384 := by
  obtain ⟨p0, p1, p2, rfl⟩ := hpv.shape
  obtain ⟨a0, a1, a2, rfl⟩ := ha.1.shape
  obtain ⟨c0, c1, c2, rfl⟩ := hb.1.shape
  have hbel := alloc_below w (.cells #[.slice p0 p1 p2] 70)
  have hc := (alloc_bl w [.slice p0 p1 p2] 70).cell 0 (by simp)
  have C := madd_v (.slice a0 a1 a2) (.slice c0 c1 c2) (.slice p0 p1 p2) A B p _ (ha.1.below hbel (Nat.le_refl _)) (hb.1.below hbel (Nat.le_refl _)) (hpv.below hbel (Nat.le_refl _))
  rw [rcode_fine hp.1 hp.lt4 ha.2 hb.2 hk hm] at C
  have HB : Hid (Below w.heap.size w (w.alloc (.cells #[.slice p0 p1 p2] 70))) := hbel
  have HL : Hid (fA p A B < pw 384) := hp.lt (fA_lt hp A B)
  clear hpv ha hb hbel
  go_enter Tryz.func47, Tryz.ntmps47
  go_wp2_with fail
  refine C.mono ?_
  clear C hc
  rintro e w1 h
  rcases h with ⟨h, _⟩ | ⟨_, r, rfl, h⟩
  · exact absurd rfl h
  have H : Hid (Rk w w1 r (fA p A B) 384) := ⟨Re.later HB.out h, HL.out⟩
  obtain ⟨r0, r1, r2, rfl⟩ := h.nu.shape
  clear h
  go_wp2
  go_ret
  exact ⟨_, rfl, H.out⟩
set_option maxHeartbeats 1000000 in
theorem lfsub_v (pv a b : Value) (p A B k m : Nat) (w : World) (hp : Pm p) (hpv : Nu w pv p) (ha : Nk w a A k) (hb : Nk w b B m) (hk : k ≤ 4096) (hm : m ≤ 4096) :
    Calls Tryz.prog 46 #[.agg #[pv], a, b] w fun e w' => ∃ r, e = .returned r ∧ Rk w w' r (fS p A B) 384 := by
  obtain ⟨p0, p1, p2, rfl⟩ := hpv.shape
  obtain ⟨a0, a1, a2, rfl⟩ := ha.1.shape
  obtain ⟨c0, c1, c2, rfl⟩ := hb.1.shape
  have hbel := alloc_below w (.cells #[.slice p0 p1 p2] 70)
  have hc := (alloc_bl w [.slice p0 p1 p2] 70).cell 0 (by simp)
  have C := msub_v (.slice a0 a1 a2) (.slice c0 c1 c2) (.slice p0 p1 p2) A B p _ (ha.1.below hbel (Nat.le_refl _)) (hb.1.below hbel (Nat.le_refl _)) (hpv.below hbel (Nat.le_refl _))
  rw [rcode_fine hp.1 hp.lt4 ha.2 hb.2 hk hm] at C
  have HB : Hid (Below w.heap.size w (w.alloc (.cells #[.slice p0 p1 p2] 70))) := hbel
  have HL : Hid (fS p A B < pw 384) := hp.lt (fS_lt hp A B)
  clear hpv ha hb hbel
  go_enter Tryz.func46, Tryz.ntmps46
  go_wp2_with fail
  refine C.mono ?_
  clear C hc
  rintro e w1 h
  rcases h with ⟨h, _⟩ | ⟨_, r, rfl, h⟩
  · exact absurd rfl h
  have H : Hid (Rk w w1 r (fS p A B) 384) := ⟨Re.later HB.out h, HL.out⟩
  obtain ⟨r0, r1, r2, rfl⟩ := h.nu.shape
  clear h
  go_wp2
  go_ret
  exact ⟨_, rfl, H.out⟩
set_option maxHeartbeats 1000000 in
theorem lfmul_v (pv a b : Value) (p A B k m : Nat) (w : World) (hp : Pm p) (hpv : Nu w pv p) (ha : Nk w a A k) (hb : Nk w b B m) (hk : k ≤ 4096) (hm : m ≤ 4096) :
    Calls Tryz.prog 48 #[.agg #[pv], a, b] w fun e w' => ∃ r, e = .returned r ∧ Rk w w' r (fM p A B) 384 := by
  obtain ⟨p0, p1, p2, rfl⟩ := hpv.shape
  obtain ⟨a0, a1, a2, rfl⟩ := ha.1.shape
  obtain ⟨c0, c1, c2, rfl⟩ := hb.1.shape
  have hbel := alloc_below w (.cells #[.slice p0 p1 p2] 70)
  have hc := (alloc_bl w [.slice p0 p1 p2] 70).cell 0 (by simp)
  have C := mmul_v (.slice a0 a1 a2) (.slice c0 c1 c2) (.slice p0 p1 p2) A B p _ (ha.1.below hbel (Nat.le_refl _)) (hb.1.below hbel (Nat.le_refl _)) (hpv.below hbel (Nat.le_refl _))
  rw [rcode_fine hp.1 hp.lt4 ha.2 hb.2 hk hm] at C
  have HB : Hid (Below w.heap.size w (w.alloc (.cells #[.slice p0 p1 p2] 70))) := hbel
  have HL : Hid (fM p A B < pw 384) := hp.lt (fM_lt hp A B)
  clear hpv ha hb hbel
  go_enter Tryz.func48, Tryz.ntmps48
  go_wp2_with fail
  refine C.mono ?_
  clear C hc
  rintro e w1 h
  rcases h with ⟨h, _⟩ | ⟨_, r, rfl, h⟩
  · exact absurd rfl h
  have H : Hid (Rk w w1 r (fM p A B) 384) := ⟨Re.later HB.out h, HL.out⟩
  obtain ⟨r0, r1, r2, rfl⟩ := h.nu.shape
  clear h
  go_wp2
  go_ret
  exact ⟨_, rfl, H.out⟩
set_option maxHeartbeats 20000000 in
theorem line_v (pv x y u v s t k m : Value) (p X1 Y1 X2 Y2 X3 Y3 UP AC : Nat) (f1 f2 f3 : Bool) (w : World) (Hp : Hid (Pm p)) (hp : Nk w pv p 384) (hx : Nk w x X1 384) (hy : Nk w y Y1 384) (hu : Nk w u X2 384) (hv : Nk w v Y2 384) (hs : Nk w s X3 384) (ht : Nk w t Y3 384) (hk : Nk w k UP 384) (hm : Nk w m AC 384)
    (h1 : Hid (fM p (fA p X3 (fA p X1 X2)) (fM p AC AC) = fM p UP UP)) (h2 : Hid (fM p (fA p Y3 Y1) AC = fM p UP (fS p X1 X3))) :
    Calls Tryz.prog 45 #[.agg #[pv], .agg #[x, y, .bool f1], .agg #[u, v, .bool f2], .agg #[s, t, .bool f3], k, m] w fun e w' => e = .returned (.bool true) ∧ Below w.heap.size w w' := by
  obtain ⟨p0, p1, p2, rfl⟩ := hp.sl
  obtain ⟨x0, x1, x2, rfl⟩ := hx.sl
  obtain ⟨y0, y1, y2, rfl⟩ := hy.sl
  obtain ⟨u0, u1, u2, rfl⟩ := hu.sl
  obtain ⟨v0, v1, v2, rfl⟩ := hv.sl
  obtain ⟨s0, s1, s2, rfl⟩ := hs.sl
  obtain ⟨t0, t1, t2, rfl⟩ := ht.sl
  obtain ⟨k0, k1, k2, rfl⟩ := hk.sl
  obtain ⟨m0, m1, m2, rfl⟩ := hm.sl
  have HF0 : Hid (Fm w ((((w.alloc (.cells #[.slice p0 p1 p2] 70)).alloc (.cells #[.slice x0 x1 x2, .slice y0 y1 y2, .bool f1] 45)).alloc (.cells #[.slice u0 u1 u2, .slice v0 v1 v2, .bool f2] 45)).alloc (.cells #[.slice s0 s1 s2, .slice t0 t1 t2, .bool f3] 45)) [(70, [.slice p0 p1 p2]), (45, [.slice x0 x1 x2, .slice y0 y1 y2, .bool f1]), (45, [.slice u0 u1 u2, .slice v0 v1 v2, .bool f2]), (45, [.slice s0 s1 s2, .slice t0 t1 t2, .bool f3])] [(.slice p0 p1 p2, p, 384), (.slice x0 x1 x2, X1, 384), (.slice y0 y1 y2, Y1, 384), (.slice u0 u1 u2, X2, 384), (.slice v0 v1 v2, Y2, 384), (.slice s0 s1 s2, X3, 384), (.slice t0 t1 t2, Y3, 384), (.slice k0 k1 k2, UP, 384), (.slice m0 m1 m2, AC, 384)] []) := (((((Fm.nil (w := w) (A := [(.slice p0 p1 p2, p, 384), (.slice x0 x1 x2, X1, 384), (.slice y0 y1 y2, Y1, 384), (.slice u0 u1 u2, X2, 384), (.slice v0 v1 v2, Y2, 384), (.slice s0 s1 s2, X3, 384), (.slice t0 t1 t2, Y3, 384), (.slice k0 k1 k2, UP, 384), (.slice m0 m1 m2, AC, 384)]) (ar_cons hp (ar_cons hx (ar_cons hy (ar_cons hu (ar_cons hv (ar_cons hs (ar_cons ht (ar_cons hk (ar_cons hm ar_nil)))))))))).push (by simp) 70 [.slice p0 p1 p2]).push (by simp) 45 [.slice x0 x1 x2, .slice y0 y1 y2, .bool f1]).push (by simp) 45 [.slice u0 u1 u2, .slice v0 v1 v2, .bool f2]).push (by simp) 45 [.slice s0 s1 s2, .slice t0 t1 t2, .bool f3])
  clear hp hx hy hu hv hs ht hk hm
  go_enter Tryz.func45, Tryz.ntmps45
  go_wp2_with fail
  generalize ((((w.alloc (.cells #[.slice p0 p1 p2] 70)).alloc (.cells #[.slice x0 x1 x2, .slice y0 y1 y2, .bool f1] 45)).alloc (.cells #[.slice u0 u1 u2, .slice v0 v1 v2, .bool f2] 45)).alloc (.cells #[.slice s0 s1 s2, .slice t0 t1 t2, .bool f3] 45)) = w0 at *
  have HF0d : Hid (Fm w w0.drew [(70, [.slice p0 p1 p2]), (45, [.slice x0 x1 x2, .slice y0 y1 y2, .bool f1]), (45, [.slice u0 u1 u2, .slice v0 v1 v2, .bool f2]), (45, [.slice s0 s1 s2, .slice t0 t1 t2, .bool f3])] [(.slice p0 p1 p2, p, 384), (.slice x0 x1 x2, X1, 384), (.slice y0 y1 y2, Y1, 384), (.slice u0 u1 u2, X2, 384), (.slice v0 v1 v2, Y2, 384), (.slice s0 s1 s2, X3, 384), (.slice t0 t1 t2, Y3, 384), (.slice k0 k1 k2, UP, 384), (.slice m0 m1 m2, AC, 384)] []) := HF0.out.drew
  refine wp_region_K 15 (fun (w' : World) => w'.cell? ⟨w.heap.size, 0, none⟩ = some (.slice p0 p1 p2) ∧ w'.cell? ⟨w.heap.size + 1, 0, none⟩ = some (.slice x0 x1 x2) ∧ w'.cell? ⟨w.heap.size + 1, 1, none⟩ = some (.slice y0 y1 y2) ∧ w'.cell? ⟨w.heap.size + 1, 2, none⟩ = some (.bool f1) ∧ w'.cell? ⟨w.heap.size + 2, 0, none⟩ = some (.slice u0 u1 u2) ∧ w'.cell? ⟨w.heap.size + 2, 1, none⟩ = some (.slice v0 v1 v2) ∧ w'.cell? ⟨w.heap.size + 2, 2, none⟩ = some (.bool f2) ∧ w'.cell? ⟨w.heap.size + 3, 0, none⟩ = some (.slice s0 s1 s2) ∧ w'.cell? ⟨w.heap.size + 3, 1, none⟩ = some (.slice t0 t1 t2) ∧ w'.cell? ⟨w.heap.size + 3, 2, none⟩ = some (.bool f3)) (by kernel_rfl) ?_
  have hHeld : ((fun (w' : World) => w'.cell? ⟨w.heap.size, 0, none⟩ = some (.slice p0 p1 p2) ∧ w'.cell? ⟨w.heap.size + 1, 0, none⟩ = some (.slice x0 x1 x2) ∧ w'.cell? ⟨w.heap.size + 1, 1, none⟩ = some (.slice y0 y1 y2) ∧ w'.cell? ⟨w.heap.size + 1, 2, none⟩ = some (.bool f1) ∧ w'.cell? ⟨w.heap.size + 2, 0, none⟩ = some (.slice u0 u1 u2) ∧ w'.cell? ⟨w.heap.size + 2, 1, none⟩ = some (.slice v0 v1 v2) ∧ w'.cell? ⟨w.heap.size + 2, 2, none⟩ = some (.bool f2) ∧ w'.cell? ⟨w.heap.size + 3, 0, none⟩ = some (.slice s0 s1 s2) ∧ w'.cell? ⟨w.heap.size + 3, 1, none⟩ = some (.slice t0 t1 t2) ∧ w'.cell? ⟨w.heap.size + 3, 2, none⟩ = some (.bool f3))) (World.drew _) := ⟨HF0d.out.cell 0 0 (Nat.le_of_ble_eq_true rfl) (Nat.le_of_ble_eq_true rfl), HF0d.out.cell 1 0 (Nat.le_of_ble_eq_true rfl) (Nat.le_of_ble_eq_true rfl), HF0d.out.cell 1 1 (Nat.le_of_ble_eq_true rfl) (Nat.le_of_ble_eq_true rfl), HF0d.out.cell 1 2 (Nat.le_of_ble_eq_true rfl) (Nat.le_of_ble_eq_true rfl), HF0d.out.cell 2 0 (Nat.le_of_ble_eq_true rfl) (Nat.le_of_ble_eq_true rfl), HF0d.out.cell 2 1 (Nat.le_of_ble_eq_true rfl) (Nat.le_of_ble_eq_true rfl), HF0d.out.cell 2 2 (Nat.le_of_ble_eq_true rfl) (Nat.le_of_ble_eq_true rfl), HF0d.out.cell 3 0 (Nat.le_of_ble_eq_true rfl) (Nat.le_of_ble_eq_true rfl), HF0d.out.cell 3 1 (Nat.le_of_ble_eq_true rfl) (Nat.le_of_ble_eq_true rfl), HF0d.out.cell 3 2 (Nat.le_of_ble_eq_true rfl) (Nat.le_of_ble_eq_true rfl)⟩
  refine wpAnyK_take 0 [15] (v := ?v1) rfl (by kernel_rfl) (fun _ _ _ h => h) (Or.inl ⟨by rfl, ?hy1⟩) hHeld ?_
  case hy1 => (intro w hSw; (try dsimp only at hSw); go_simp; try with_reducible rfl)
  try simp only [Act.put, List.setIfInBounds_toArray, List.set_cons_zero, List.set_cons_succ]
  refine wpAnyK_take 1 [10, 15] (v := ?v2) rfl (by kernel_rfl) (fun _ _ _ h => h) (Or.inl ⟨by rfl, ?hy2⟩) hHeld ?_
  case hy2 => (intro w hSw; (try dsimp only at hSw); go_simp; try with_reducible rfl)
  try simp only [Act.put, List.setIfInBounds_toArray, List.set_cons_zero, List.set_cons_succ]
  refine wpAnyK_take0 2 (v := ?v3) rfl (by kernel_rfl) (fun _ _ _ h => h) (Or.inl ⟨by rfl, ?hy3⟩) (fun _ => hHeld) ?_
  case hy3 => (intro w hSw; go_simp; try with_reducible rfl)
  try simp only [Act.put, List.setIfInBounds_toArray, List.set_cons_zero, List.set_cons_succ]
  refine wpAnyK_take 3 [10, 15] (v := ?v4) rfl (by kernel_rfl) (fun _ _ _ h => h) (Or.inl ⟨by rfl, ?hy4⟩) hHeld ?_
  case hy4 => (intro w hSw; (try dsimp only at hSw); go_simp; try with_reducible rfl)
  try simp only [Act.put, List.setIfInBounds_toArray, List.set_cons_zero, List.set_cons_succ]
  refine wpAnyK_take 4 [9, 10, 15] (v := ?v5) rfl (by kernel_rfl) (fun _ _ _ h => h) (Or.inl ⟨by rfl, ?hy5⟩) hHeld ?_
  case hy5 => (intro w hSw; (try dsimp only at hSw); go_simp; try with_reducible rfl)
  try simp only [Act.put, List.setIfInBounds_toArray, List.set_cons_zero, List.set_cons_succ]
  refine wpAnyK_take0 5 (v := ?v6) rfl (by kernel_rfl) (fun _ _ _ h => h) (Or.inl ⟨by rfl, ?hy6⟩) (fun _ => hHeld) ?_
  case hy6 => (intro w hSw; go_simp; try with_reducible rfl)
  try simp only [Act.put, List.setIfInBounds_toArray, List.set_cons_zero, List.set_cons_succ]
  refine wpAnyK_take 6 [9, 10, 15] (v := ?v7) rfl (by kernel_rfl) (fun _ _ _ h => h) (Or.inl ⟨by rfl, ?hy7⟩) hHeld ?_
  case hy7 => (intro w hSw; (try dsimp only at hSw); go_simp; try with_reducible rfl)
  try simp only [Act.put, List.setIfInBounds_toArray, List.set_cons_zero, List.set_cons_succ]
  refine wpAnyK_take0 7 (v := ?v8) rfl (by kernel_rfl) (fun _ _ _ h => h) (Or.inl ⟨by rfl, ?hy8⟩) (fun _ => hHeld) ?_
  case hy8 => (intro w hSw; go_simp; try with_reducible rfl)
  try simp only [Act.put, List.setIfInBounds_toArray, List.set_cons_zero, List.set_cons_succ]
  refine wpAnyK_take 8 [9, 10, 15] (v := ?v9) rfl (by kernel_rfl) (fun _ _ _ h => h) (Or.inl ⟨by rfl, ?hy9⟩) hHeld ?_
  case hy9 => (intro w hSw; (try dsimp only at hSw); go_simp; try with_reducible rfl)
  try simp only [Act.put, List.setIfInBounds_toArray, List.set_cons_zero, List.set_cons_succ]
  refine wpAnyK_take 11 [14, 15] (v := ?v10) rfl (by kernel_rfl) (fun _ _ _ h => h) (Or.inl ⟨by rfl, ?hy10⟩) hHeld ?_
  case hy10 => (intro w hSw; (try dsimp only at hSw); go_simp; try with_reducible rfl)
  try simp only [Act.put, List.setIfInBounds_toArray, List.set_cons_zero, List.set_cons_succ]
  refine wpAnyK_take0 12 (v := ?v11) rfl (by kernel_rfl) (fun _ _ _ h => h) (Or.inl ⟨by rfl, ?hy11⟩) (fun _ => hHeld) ?_
  case hy11 => (intro w hSw; go_simp; try with_reducible rfl)
  try simp only [Act.put, List.setIfInBounds_toArray, List.set_cons_zero, List.set_cons_succ]
  refine wpAnyK_take0 13 (v := ?v12) rfl (by kernel_rfl) (fun _ _ _ h => h) (Or.inl ⟨by rfl, ?hy12⟩) (fun _ => hHeld) ?_
  case hy12 => (intro w hSw; go_simp; try with_reducible rfl)
  try simp only [Act.put, List.setIfInBounds_toArray, List.set_cons_zero, List.set_cons_succ]
  refine wpAnyK_step 9 rfl (by kernel_rfl) (fun K hK => ?_)
  go_simp
  refine (lfadd_v _ _ _ p X1 X2 384 384 _ Hp.out (HF0d.out.arg 0 (Nat.le_of_ble_eq_true rfl)).1 (HF0d.out.arg 1 (Nat.le_of_ble_eq_true rfl)) (HF0d.out.arg 3 (Nat.le_of_ble_eq_true rfl)) (by decide) (by decide)).mono ?_
  rintro e w1 ⟨r1, rfl, h⟩
  obtain ⟨V1, HV1⟩ : ∃ V, Hid (V = fA p X1 X2) := ⟨_, rfl⟩
  rw [← HV1.out] at h
  have HF1 : Hid (Fm w w1 [(70, [.slice p0 p1 p2]), (45, [.slice x0 x1 x2, .slice y0 y1 y2, .bool f1]), (45, [.slice u0 u1 u2, .slice v0 v1 v2, .bool f2]), (45, [.slice s0 s1 s2, .slice t0 t1 t2, .bool f3])] [(.slice p0 p1 p2, p, 384), (.slice x0 x1 x2, X1, 384), (.slice y0 y1 y2, Y1, 384), (.slice u0 u1 u2, X2, 384), (.slice v0 v1 v2, Y2, 384), (.slice s0 s1 s2, X3, 384), (.slice t0 t1 t2, Y3, 384), (.slice k0 k1 k2, UP, 384), (.slice m0 m1 m2, AC, 384)] [(r1, V1, 384)]) := HF0d.out.step h
  clear h
  try dsimp only
  refine hK.out _ _ ?hk13 ?_
  case hk13 => exact fun _ => ⟨HF1.out.cell 0 0 (Nat.le_of_ble_eq_true rfl) (Nat.le_of_ble_eq_true rfl), HF1.out.cell 1 0 (Nat.le_of_ble_eq_true rfl) (Nat.le_of_ble_eq_true rfl), HF1.out.cell 1 1 (Nat.le_of_ble_eq_true rfl) (Nat.le_of_ble_eq_true rfl), HF1.out.cell 1 2 (Nat.le_of_ble_eq_true rfl) (Nat.le_of_ble_eq_true rfl), HF1.out.cell 2 0 (Nat.le_of_ble_eq_true rfl) (Nat.le_of_ble_eq_true rfl), HF1.out.cell 2 1 (Nat.le_of_ble_eq_true rfl) (Nat.le_of_ble_eq_true rfl), HF1.out.cell 2 2 (Nat.le_of_ble_eq_true rfl) (Nat.le_of_ble_eq_true rfl), HF1.out.cell 3 0 (Nat.le_of_ble_eq_true rfl) (Nat.le_of_ble_eq_true rfl), HF1.out.cell 3 1 (Nat.le_of_ble_eq_true rfl) (Nat.le_of_ble_eq_true rfl), HF1.out.cell 3 2 (Nat.le_of_ble_eq_true rfl) (Nat.le_of_ble_eq_true rfl)⟩
  have hHeld : ((fun (w' : World) => w'.cell? ⟨w.heap.size, 0, none⟩ = some (.slice p0 p1 p2) ∧ w'.cell? ⟨w.heap.size + 1, 0, none⟩ = some (.slice x0 x1 x2) ∧ w'.cell? ⟨w.heap.size + 1, 1, none⟩ = some (.slice y0 y1 y2) ∧ w'.cell? ⟨w.heap.size + 1, 2, none⟩ = some (.bool f1) ∧ w'.cell? ⟨w.heap.size + 2, 0, none⟩ = some (.slice u0 u1 u2) ∧ w'.cell? ⟨w.heap.size + 2, 1, none⟩ = some (.slice v0 v1 v2) ∧ w'.cell? ⟨w.heap.size + 2, 2, none⟩ = some (.bool f2) ∧ w'.cell? ⟨w.heap.size + 3, 0, none⟩ = some (.slice s0 s1 s2) ∧ w'.cell? ⟨w.heap.size + 3, 1, none⟩ = some (.slice t0 t1 t2) ∧ w'.cell? ⟨w.heap.size + 3, 2, none⟩ = some (.bool f3))) _ := ⟨HF1.out.cell 0 0 (Nat.le_of_ble_eq_true rfl) (Nat.le_of_ble_eq_true rfl), HF1.out.cell 1 0 (Nat.le_of_ble_eq_true rfl) (Nat.le_of_ble_eq_true rfl), HF1.out.cell 1 1 (Nat.le_of_ble_eq_true rfl) (Nat.le_of_ble_eq_true rfl), HF1.out.cell 1 2 (Nat.le_of_ble_eq_true rfl) (Nat.le_of_ble_eq_true rfl), HF1.out.cell 2 0 (Nat.le_of_ble_eq_true rfl) (Nat.le_of_ble_eq_true rfl), HF1.out.cell 2 1 (Nat.le_of_ble_eq_true rfl) (Nat.le_of_ble_eq_true rfl), HF1.out.cell 2 2 (Nat.le_of_ble_eq_true rfl) (Nat.le_of_ble_eq_true rfl), HF1.out.cell 3 0 (Nat.le_of_ble_eq_true rfl) (Nat.le_of_ble_eq_true rfl), HF1.out.cell 3 1 (Nat.le_of_ble_eq_true rfl) (Nat.le_of_ble_eq_true rfl), HF1.out.cell 3 2 (Nat.le_of_ble_eq_true rfl) (Nat.le_of_ble_eq_true rfl)⟩
  clear hK K
  try simp only [Act.put, List.setIfInBounds_toArray, List.set_cons_zero, List.set_cons_succ]
  refine wpAnyK_step 10 rfl (by kernel_rfl) (fun K hK => ?_)
  go_simp
  refine (lfadd_v _ _ _ p X3 V1 384 384 _ Hp.out (HF1.out.arg 0 (Nat.le_of_ble_eq_true rfl)).1 (HF1.out.arg 5 (Nat.le_of_ble_eq_true rfl)) (HF1.out.got 0 (Nat.le_of_ble_eq_true rfl)) (by decide) (by decide)).mono ?_
  rintro e w2 ⟨r2, rfl, h⟩
  obtain ⟨V2, HV2⟩ : ∃ V, Hid (V = fA p X3 V1) := ⟨_, rfl⟩
  rw [← HV2.out] at h
  have HF2 : Hid (Fm w w2 [(70, [.slice p0 p1 p2]), (45, [.slice x0 x1 x2, .slice y0 y1 y2, .bool f1]), (45, [.slice u0 u1 u2, .slice v0 v1 v2, .bool f2]), (45, [.slice s0 s1 s2, .slice t0 t1 t2, .bool f3])] [(.slice p0 p1 p2, p, 384), (.slice x0 x1 x2, X1, 384), (.slice y0 y1 y2, Y1, 384), (.slice u0 u1 u2, X2, 384), (.slice v0 v1 v2, Y2, 384), (.slice s0 s1 s2, X3, 384), (.slice t0 t1 t2, Y3, 384), (.slice k0 k1 k2, UP, 384), (.slice m0 m1 m2, AC, 384)] [(r2, V2, 384), (r1, V1, 384)]) := HF1.out.step h
  clear h
  try dsimp only
  refine hK.out _ _ ?hk14 ?_
  case hk14 => exact fun _ => ⟨HF2.out.cell 0 0 (Nat.le_of_ble_eq_true rfl) (Nat.le_of_ble_eq_true rfl), HF2.out.cell 1 0 (Nat.le_of_ble_eq_true rfl) (Nat.le_of_ble_eq_true rfl), HF2.out.cell 1 1 (Nat.le_of_ble_eq_true rfl) (Nat.le_of_ble_eq_true rfl), HF2.out.cell 1 2 (Nat.le_of_ble_eq_true rfl) (Nat.le_of_ble_eq_true rfl), HF2.out.cell 2 0 (Nat.le_of_ble_eq_true rfl) (Nat.le_of_ble_eq_true rfl), HF2.out.cell 2 1 (Nat.le_of_ble_eq_true rfl) (Nat.le_of_ble_eq_true rfl), HF2.out.cell 2 2 (Nat.le_of_ble_eq_true rfl) (Nat.le_of_ble_eq_true rfl), HF2.out.cell 3 0 (Nat.le_of_ble_eq_true rfl) (Nat.le_of_ble_eq_true rfl), HF2.out.cell 3 1 (Nat.le_of_ble_eq_true rfl) (Nat.le_of_ble_eq_true rfl), HF2.out.cell 3 2 (Nat.le_of_ble_eq_true rfl) (Nat.le_of_ble_eq_true rfl)⟩
  have hHeld : ((fun (w' : World) => w'.cell? ⟨w.heap.size, 0, none⟩ = some (.slice p0 p1 p2) ∧ w'.cell? ⟨w.heap.size + 1, 0, none⟩ = some (.slice x0 x1 x2) ∧ w'.cell? ⟨w.heap.size + 1, 1, none⟩ = some (.slice y0 y1 y2) ∧ w'.cell? ⟨w.heap.size + 1, 2, none⟩ = some (.bool f1) ∧ w'.cell? ⟨w.heap.size + 2, 0, none⟩ = some (.slice u0 u1 u2) ∧ w'.cell? ⟨w.heap.size + 2, 1, none⟩ = some (.slice v0 v1 v2) ∧ w'.cell? ⟨w.heap.size + 2, 2, none⟩ = some (.bool f2) ∧ w'.cell? ⟨w.heap.size + 3, 0, none⟩ = some (.slice s0 s1 s2) ∧ w'.cell? ⟨w.heap.size + 3, 1, none⟩ = some (.slice t0 t1 t2) ∧ w'.cell? ⟨w.heap.size + 3, 2, none⟩ = some (.bool f3))) _ := ⟨HF2.out.cell 0 0 (Nat.le_of_ble_eq_true rfl) (Nat.le_of_ble_eq_true rfl), HF2.out.cell 1 0 (Nat.le_of_ble_eq_true rfl) (Nat.le_of_ble_eq_true rfl), HF2.out.cell 1 1 (Nat.le_of_ble_eq_true rfl) (Nat.le_of_ble_eq_true rfl), HF2.out.cell 1 2 (Nat.le_of_ble_eq_true rfl) (Nat.le_of_ble_eq_true rfl), HF2.out.cell 2 0 (Nat.le_of_ble_eq_true rfl) (Nat.le_of_ble_eq_true rfl), HF2.out.cell 2 1 (Nat.le_of_ble_eq_true rfl) (Nat.le_of_ble_eq_true rfl), HF2.out.cell 2 2 (Nat.le_of_ble_eq_true rfl) (Nat.le_of_ble_eq_true rfl), HF2.out.cell 3 0 (Nat.le_of_ble_eq_true rfl) (Nat.le_of_ble_eq_true rfl), HF2.out.cell 3 1 (Nat.le_of_ble_eq_true rfl) (Nat.le_of_ble_eq_true rfl), HF2.out.cell 3 2 (Nat.le_of_ble_eq_true rfl) (Nat.le_of_ble_eq_true rfl)⟩
  clear hK K
  try simp only [Act.put, List.setIfInBounds_toArray, List.set_cons_zero, List.set_cons_succ]
  refine wpAnyK_step 14 rfl (by kernel_rfl) (fun K hK => ?_)
  go_simp
  refine (lfmul_v _ _ _ p AC AC 384 384 _ Hp.out (HF2.out.arg 0 (Nat.le_of_ble_eq_true rfl)).1 (HF2.out.arg 8 (Nat.le_of_ble_eq_true rfl)) (HF2.out.arg 8 (Nat.le_of_ble_eq_true rfl)) (by decide) (by decide)).mono ?_
  rintro e w3 ⟨r3, rfl, h⟩
  obtain ⟨V3, HV3⟩ : ∃ V, Hid (V = fM p AC AC) := ⟨_, rfl⟩
  rw [← HV3.out] at h
  have HF3 : Hid (Fm w w3 [(70, [.slice p0 p1 p2]), (45, [.slice x0 x1 x2, .slice y0 y1 y2, .bool f1]), (45, [.slice u0 u1 u2, .slice v0 v1 v2, .bool f2]), (45, [.slice s0 s1 s2, .slice t0 t1 t2, .bool f3])] [(.slice p0 p1 p2, p, 384), (.slice x0 x1 x2, X1, 384), (.slice y0 y1 y2, Y1, 384), (.slice u0 u1 u2, X2, 384), (.slice v0 v1 v2, Y2, 384), (.slice s0 s1 s2, X3, 384), (.slice t0 t1 t2, Y3, 384), (.slice k0 k1 k2, UP, 384), (.slice m0 m1 m2, AC, 384)] [(r3, V3, 384), (r2, V2, 384), (r1, V1, 384)]) := HF2.out.step h
  clear h
  try dsimp only
  refine hK.out _ _ ?hk15 ?_
  case hk15 => exact fun _ => ⟨HF3.out.cell 0 0 (Nat.le_of_ble_eq_true rfl) (Nat.le_of_ble_eq_true rfl), HF3.out.cell 1 0 (Nat.le_of_ble_eq_true rfl) (Nat.le_of_ble_eq_true rfl), HF3.out.cell 1 1 (Nat.le_of_ble_eq_true rfl) (Nat.le_of_ble_eq_true rfl), HF3.out.cell 1 2 (Nat.le_of_ble_eq_true rfl) (Nat.le_of_ble_eq_true rfl), HF3.out.cell 2 0 (Nat.le_of_ble_eq_true rfl) (Nat.le_of_ble_eq_true rfl), HF3.out.cell 2 1 (Nat.le_of_ble_eq_true rfl) (Nat.le_of_ble_eq_true rfl), HF3.out.cell 2 2 (Nat.le_of_ble_eq_true rfl) (Nat.le_of_ble_eq_true rfl), HF3.out.cell 3 0 (Nat.le_of_ble_eq_true rfl) (Nat.le_of_ble_eq_true rfl), HF3.out.cell 3 1 (Nat.le_of_ble_eq_true rfl) (Nat.le_of_ble_eq_true rfl), HF3.out.cell 3 2 (Nat.le_of_ble_eq_true rfl) (Nat.le_of_ble_eq_true rfl)⟩
  have hHeld : ((fun (w' : World) => w'.cell? ⟨w.heap.size, 0, none⟩ = some (.slice p0 p1 p2) ∧ w'.cell? ⟨w.heap.size + 1, 0, none⟩ = some (.slice x0 x1 x2) ∧ w'.cell? ⟨w.heap.size + 1, 1, none⟩ = some (.slice y0 y1 y2) ∧ w'.cell? ⟨w.heap.size + 1, 2, none⟩ = some (.bool f1) ∧ w'.cell? ⟨w.heap.size + 2, 0, none⟩ = some (.slice u0 u1 u2) ∧ w'.cell? ⟨w.heap.size + 2, 1, none⟩ = some (.slice v0 v1 v2) ∧ w'.cell? ⟨w.heap.size + 2, 2, none⟩ = some (.bool f2) ∧ w'.cell? ⟨w.heap.size + 3, 0, none⟩ = some (.slice s0 s1 s2) ∧ w'.cell? ⟨w.heap.size + 3, 1, none⟩ = some (.slice t0 t1 t2) ∧ w'.cell? ⟨w.heap.size + 3, 2, none⟩ = some (.bool f3))) _ := ⟨HF3.out.cell 0 0 (Nat.le_of_ble_eq_true rfl) (Nat.le_of_ble_eq_true rfl), HF3.out.cell 1 0 (Nat.le_of_ble_eq_true rfl) (Nat.le_of_ble_eq_true rfl), HF3.out.cell 1 1 (Nat.le_of_ble_eq_true rfl) (Nat.le_of_ble_eq_true rfl), HF3.out.cell 1 2 (Nat.le_of_ble_eq_true rfl) (Nat.le_of_ble_eq_true rfl), HF3.out.cell 2 0 (Nat.le_of_ble_eq_true rfl) (Nat.le_of_ble_eq_true rfl), HF3.out.cell 2 1 (Nat.le_of_ble_eq_true rfl) (Nat.le_of_ble_eq_true rfl), HF3.out.cell 2 2 (Nat.le_of_ble_eq_true rfl) (Nat.le_of_ble_eq_true rfl), HF3.out.cell 3 0 (Nat.le_of_ble_eq_true rfl) (Nat.le_of_ble_eq_true rfl), HF3.out.cell 3 1 (Nat.le_of_ble_eq_true rfl) (Nat.le_of_ble_eq_true rfl), HF3.out.cell 3 2 (Nat.le_of_ble_eq_true rfl) (Nat.le_of_ble_eq_true rfl)⟩
  clear hK K
  try simp only [Act.put, List.setIfInBounds_toArray, List.set_cons_zero, List.set_cons_succ]
  refine wpAnyK_step 15 rfl (by kernel_rfl) (fun K hK => ?_)
  go_simp
  refine (lfmul_v _ _ _ p V2 V3 384 384 _ Hp.out (HF3.out.arg 0 (Nat.le_of_ble_eq_true rfl)).1 (HF3.out.got 1 (Nat.le_of_ble_eq_true rfl)) (HF3.out.got 0 (Nat.le_of_ble_eq_true rfl)) (by decide) (by decide)).mono ?_
  rintro e w4 ⟨r4, rfl, h⟩
  obtain ⟨V4, HV4⟩ : ∃ V, Hid (V = fM p V2 V3) := ⟨_, rfl⟩
  rw [← HV4.out] at h
  have HF4 : Hid (Fm w w4 [(70, [.slice p0 p1 p2]), (45, [.slice x0 x1 x2, .slice y0 y1 y2, .bool f1]), (45, [.slice u0 u1 u2, .slice v0 v1 v2, .bool f2]), (45, [.slice s0 s1 s2, .slice t0 t1 t2, .bool f3])] [(.slice p0 p1 p2, p, 384), (.slice x0 x1 x2, X1, 384), (.slice y0 y1 y2, Y1, 384), (.slice u0 u1 u2, X2, 384), (.slice v0 v1 v2, Y2, 384), (.slice s0 s1 s2, X3, 384), (.slice t0 t1 t2, Y3, 384), (.slice k0 k1 k2, UP, 384), (.slice m0 m1 m2, AC, 384)] [(r4, V4, 384), (r3, V3, 384), (r2, V2, 384), (r1, V1, 384)]) := HF3.out.step h
  clear h
  try dsimp only
  refine hK.out _ _ ?hk16 ?_
  case hk16 => exact fun _ => ⟨HF4.out.cell 0 0 (Nat.le_of_ble_eq_true rfl) (Nat.le_of_ble_eq_true rfl), HF4.out.cell 1 0 (Nat.le_of_ble_eq_true rfl) (Nat.le_of_ble_eq_true rfl), HF4.out.cell 1 1 (Nat.le_of_ble_eq_true rfl) (Nat.le_of_ble_eq_true rfl), HF4.out.cell 1 2 (Nat.le_of_ble_eq_true rfl) (Nat.le_of_ble_eq_true rfl), HF4.out.cell 2 0 (Nat.le_of_ble_eq_true rfl) (Nat.le_of_ble_eq_true rfl), HF4.out.cell 2 1 (Nat.le_of_ble_eq_true rfl) (Nat.le_of_ble_eq_true rfl), HF4.out.cell 2 2 (Nat.le_of_ble_eq_true rfl) (Nat.le_of_ble_eq_true rfl), HF4.out.cell 3 0 (Nat.le_of_ble_eq_true rfl) (Nat.le_of_ble_eq_true rfl), HF4.out.cell 3 1 (Nat.le_of_ble_eq_true rfl) (Nat.le_of_ble_eq_true rfl), HF4.out.cell 3 2 (Nat.le_of_ble_eq_true rfl) (Nat.le_of_ble_eq_true rfl)⟩
  have hHeld : ((fun (w' : World) => w'.cell? ⟨w.heap.size, 0, none⟩ = some (.slice p0 p1 p2) ∧ w'.cell? ⟨w.heap.size + 1, 0, none⟩ = some (.slice x0 x1 x2) ∧ w'.cell? ⟨w.heap.size + 1, 1, none⟩ = some (.slice y0 y1 y2) ∧ w'.cell? ⟨w.heap.size + 1, 2, none⟩ = some (.bool f1) ∧ w'.cell? ⟨w.heap.size + 2, 0, none⟩ = some (.slice u0 u1 u2) ∧ w'.cell? ⟨w.heap.size + 2, 1, none⟩ = some (.slice v0 v1 v2) ∧ w'.cell? ⟨w.heap.size + 2, 2, none⟩ = some (.bool f2) ∧ w'.cell? ⟨w.heap.size + 3, 0, none⟩ = some (.slice s0 s1 s2) ∧ w'.cell? ⟨w.heap.size + 3, 1, none⟩ = some (.slice t0 t1 t2) ∧ w'.cell? ⟨w.heap.size + 3, 2, none⟩ = some (.bool f3))) _ := ⟨HF4.out.cell 0 0 (Nat.le_of_ble_eq_true rfl) (Nat.le_of_ble_eq_true rfl), HF4.out.cell 1 0 (Nat.le_of_ble_eq_true rfl) (Nat.le_of_ble_eq_true rfl), HF4.out.cell 1 1 (Nat.le_of_ble_eq_true rfl) (Nat.le_of_ble_eq_true rfl), HF4.out.cell 1 2 (Nat.le_of_ble_eq_true rfl) (Nat.le_of_ble_eq_true rfl), HF4.out.cell 2 0 (Nat.le_of_ble_eq_true rfl) (Nat.le_of_ble_eq_true rfl), HF4.out.cell 2 1 (Nat.le_of_ble_eq_true rfl) (Nat.le_of_ble_eq_true rfl), HF4.out.cell 2 2 (Nat.le_of_ble_eq_true rfl) (Nat.le_of_ble_eq_true rfl), HF4.out.cell 3 0 (Nat.le_of_ble_eq_true rfl) (Nat.le_of_ble_eq_true rfl), HF4.out.cell 3 1 (Nat.le_of_ble_eq_true rfl) (Nat.le_of_ble_eq_true rfl), HF4.out.cell 3 2 (Nat.le_of_ble_eq_true rfl) (Nat.le_of_ble_eq_true rfl)⟩
  clear hK K
  try simp only [Act.put, List.setIfInBounds_toArray, List.set_cons_zero, List.set_cons_succ]
  refine wpAnyK_take0 16 (v := ?v17) rfl (by kernel_rfl) (fun _ _ _ h => h) (Or.inl ⟨by rfl, ?hy17⟩) (fun _ => hHeld) ?_
  case hy17 => (intro w hSw; go_simp; try with_reducible rfl)
  try simp only [Act.put, List.setIfInBounds_toArray, List.set_cons_zero, List.set_cons_succ]
  refine wpAnyK_done (by kernel_rfl) ?_ _
  go_wp2_with fail
  have HF4d : Hid (Fm w w4.drew [(70, [.slice p0 p1 p2]), (45, [.slice x0 x1 x2, .slice y0 y1 y2, .bool f1]), (45, [.slice u0 u1 u2, .slice v0 v1 v2, .bool f2]), (45, [.slice s0 s1 s2, .slice t0 t1 t2, .bool f3])] [(.slice p0 p1 p2, p, 384), (.slice x0 x1 x2, X1, 384), (.slice y0 y1 y2, Y1, 384), (.slice u0 u1 u2, X2, 384), (.slice v0 v1 v2, Y2, 384), (.slice s0 s1 s2, X3, 384), (.slice t0 t1 t2, Y3, 384), (.slice k0 k1 k2, UP, 384), (.slice m0 m1 m2, AC, 384)] [(r4, V4, 384), (r3, V3, 384), (r2, V2, 384), (r1, V1, 384)]) := HF4.out.drew
  refine wp_region_K 8 (fun (w' : World) => w'.cell? ⟨w.heap.size, 0, none⟩ = some (.slice p0 p1 p2) ∧ w'.cell? ⟨w.heap.size + 1, 0, none⟩ = some (.slice x0 x1 x2) ∧ w'.cell? ⟨w.heap.size + 1, 1, none⟩ = some (.slice y0 y1 y2) ∧ w'.cell? ⟨w.heap.size + 1, 2, none⟩ = some (.bool f1) ∧ w'.cell? ⟨w.heap.size + 2, 0, none⟩ = some (.slice u0 u1 u2) ∧ w'.cell? ⟨w.heap.size + 2, 1, none⟩ = some (.slice v0 v1 v2) ∧ w'.cell? ⟨w.heap.size + 2, 2, none⟩ = some (.bool f2) ∧ w'.cell? ⟨w.heap.size + 3, 0, none⟩ = some (.slice s0 s1 s2) ∧ w'.cell? ⟨w.heap.size + 3, 1, none⟩ = some (.slice t0 t1 t2) ∧ w'.cell? ⟨w.heap.size + 3, 2, none⟩ = some (.bool f3)) (by kernel_rfl) ?_
  have hHeld : ((fun (w' : World) => w'.cell? ⟨w.heap.size, 0, none⟩ = some (.slice p0 p1 p2) ∧ w'.cell? ⟨w.heap.size + 1, 0, none⟩ = some (.slice x0 x1 x2) ∧ w'.cell? ⟨w.heap.size + 1, 1, none⟩ = some (.slice y0 y1 y2) ∧ w'.cell? ⟨w.heap.size + 1, 2, none⟩ = some (.bool f1) ∧ w'.cell? ⟨w.heap.size + 2, 0, none⟩ = some (.slice u0 u1 u2) ∧ w'.cell? ⟨w.heap.size + 2, 1, none⟩ = some (.slice v0 v1 v2) ∧ w'.cell? ⟨w.heap.size + 2, 2, none⟩ = some (.bool f2) ∧ w'.cell? ⟨w.heap.size + 3, 0, none⟩ = some (.slice s0 s1 s2) ∧ w'.cell? ⟨w.heap.size + 3, 1, none⟩ = some (.slice t0 t1 t2) ∧ w'.cell? ⟨w.heap.size + 3, 2, none⟩ = some (.bool f3))) (World.drew _) := ⟨HF4d.out.cell 0 0 (Nat.le_of_ble_eq_true rfl) (Nat.le_of_ble_eq_true rfl), HF4d.out.cell 1 0 (Nat.le_of_ble_eq_true rfl) (Nat.le_of_ble_eq_true rfl), HF4d.out.cell 1 1 (Nat.le_of_ble_eq_true rfl) (Nat.le_of_ble_eq_true rfl), HF4d.out.cell 1 2 (Nat.le_of_ble_eq_true rfl) (Nat.le_of_ble_eq_true rfl), HF4d.out.cell 2 0 (Nat.le_of_ble_eq_true rfl) (Nat.le_of_ble_eq_true rfl), HF4d.out.cell 2 1 (Nat.le_of_ble_eq_true rfl) (Nat.le_of_ble_eq_true rfl), HF4d.out.cell 2 2 (Nat.le_of_ble_eq_true rfl) (Nat.le_of_ble_eq_true rfl), HF4d.out.cell 3 0 (Nat.le_of_ble_eq_true rfl) (Nat.le_of_ble_eq_true rfl), HF4d.out.cell 3 1 (Nat.le_of_ble_eq_true rfl) (Nat.le_of_ble_eq_true rfl), HF4d.out.cell 3 2 (Nat.le_of_ble_eq_true rfl) (Nat.le_of_ble_eq_true rfl)⟩
  refine wpAnyK_take 0 [8] (v := ?v18) rfl (by kernel_rfl) (fun _ _ _ h => h) (Or.inl ⟨by rfl, ?hy18⟩) hHeld ?_
  case hy18 => (intro w hSw; (try dsimp only at hSw); go_simp; try with_reducible rfl)
  try simp only [Act.put, List.setIfInBounds_toArray, List.set_cons_zero, List.set_cons_succ]
  refine wpAnyK_take 1 [6, 8] (v := ?v19) rfl (by kernel_rfl) (fun _ _ _ h => h) (Or.inl ⟨by rfl, ?hy19⟩) hHeld ?_
  case hy19 => (intro w hSw; (try dsimp only at hSw); go_simp; try with_reducible rfl)
  try simp only [Act.put, List.setIfInBounds_toArray, List.set_cons_zero, List.set_cons_succ]
  refine wpAnyK_take0 2 (v := ?v20) rfl (by kernel_rfl) (fun _ _ _ h => h) (Or.inl ⟨by rfl, ?hy20⟩) (fun _ => hHeld) ?_
  case hy20 => (intro w hSw; go_simp; try with_reducible rfl)
  try simp only [Act.put, List.setIfInBounds_toArray, List.set_cons_zero, List.set_cons_succ]
  refine wpAnyK_take 3 [6, 8] (v := ?v21) rfl (by kernel_rfl) (fun _ _ _ h => h) (Or.inl ⟨by rfl, ?hy21⟩) hHeld ?_
  case hy21 => (intro w hSw; (try dsimp only at hSw); go_simp; try with_reducible rfl)
  try simp only [Act.put, List.setIfInBounds_toArray, List.set_cons_zero, List.set_cons_succ]
  refine wpAnyK_take0 4 (v := ?v22) rfl (by kernel_rfl) (fun _ _ _ h => h) (Or.inl ⟨by rfl, ?hy22⟩) (fun _ => hHeld) ?_
  case hy22 => (intro w hSw; go_simp; try with_reducible rfl)
  try simp only [Act.put, List.setIfInBounds_toArray, List.set_cons_zero, List.set_cons_succ]
  refine wpAnyK_take 5 [6, 8] (v := ?v23) rfl (by kernel_rfl) (fun _ _ _ h => h) (Or.inl ⟨by rfl, ?hy23⟩) hHeld ?_
  case hy23 => (intro w hSw; (try dsimp only at hSw); go_simp; try with_reducible rfl)
  try simp only [Act.put, List.setIfInBounds_toArray, List.set_cons_zero, List.set_cons_succ]
  refine wpAnyK_take0 7 (v := ?v24) rfl (by kernel_rfl) (fun _ _ _ h => h) (Or.inl ⟨by rfl, ?hy24⟩) (fun _ => hHeld) ?_
  case hy24 => (intro w hSw; go_simp; try with_reducible rfl)
  try simp only [Act.put, List.setIfInBounds_toArray, List.set_cons_zero, List.set_cons_succ]
  refine wpAnyK_step 6 rfl (by kernel_rfl) (fun K hK => ?_)
  go_simp
  refine (lfadd_v _ _ _ p Y3 Y1 384 384 _ Hp.out (HF4d.out.arg 0 (Nat.le_of_ble_eq_true rfl)).1 (HF4d.out.arg 6 (Nat.le_of_ble_eq_true rfl)) (HF4d.out.arg 2 (Nat.le_of_ble_eq_true rfl)) (by decide) (by decide)).mono ?_
  rintro e w5 ⟨r5, rfl, h⟩
  obtain ⟨V5, HV5⟩ : ∃ V, Hid (V = fA p Y3 Y1) := ⟨_, rfl⟩
  rw [← HV5.out] at h
  have HF5 : Hid (Fm w w5 [(70, [.slice p0 p1 p2]), (45, [.slice x0 x1 x2, .slice y0 y1 y2, .bool f1]), (45, [.slice u0 u1 u2, .slice v0 v1 v2, .bool f2]), (45, [.slice s0 s1 s2, .slice t0 t1 t2, .bool f3])] [(.slice p0 p1 p2, p, 384), (.slice x0 x1 x2, X1, 384), (.slice y0 y1 y2, Y1, 384), (.slice u0 u1 u2, X2, 384), (.slice v0 v1 v2, Y2, 384), (.slice s0 s1 s2, X3, 384), (.slice t0 t1 t2, Y3, 384), (.slice k0 k1 k2, UP, 384), (.slice m0 m1 m2, AC, 384)] [(r5, V5, 384), (r4, V4, 384), (r3, V3, 384), (r2, V2, 384), (r1, V1, 384)]) := HF4d.out.step h
  clear h
  try dsimp only
  refine hK.out _ _ ?hk25 ?_
  case hk25 => exact fun _ => ⟨HF5.out.cell 0 0 (Nat.le_of_ble_eq_true rfl) (Nat.le_of_ble_eq_true rfl), HF5.out.cell 1 0 (Nat.le_of_ble_eq_true rfl) (Nat.le_of_ble_eq_true rfl), HF5.out.cell 1 1 (Nat.le_of_ble_eq_true rfl) (Nat.le_of_ble_eq_true rfl), HF5.out.cell 1 2 (Nat.le_of_ble_eq_true rfl) (Nat.le_of_ble_eq_true rfl), HF5.out.cell 2 0 (Nat.le_of_ble_eq_true rfl) (Nat.le_of_ble_eq_true rfl), HF5.out.cell 2 1 (Nat.le_of_ble_eq_true rfl) (Nat.le_of_ble_eq_true rfl), HF5.out.cell 2 2 (Nat.le_of_ble_eq_true rfl) (Nat.le_of_ble_eq_true rfl), HF5.out.cell 3 0 (Nat.le_of_ble_eq_true rfl) (Nat.le_of_ble_eq_true rfl), HF5.out.cell 3 1 (Nat.le_of_ble_eq_true rfl) (Nat.le_of_ble_eq_true rfl), HF5.out.cell 3 2 (Nat.le_of_ble_eq_true rfl) (Nat.le_of_ble_eq_true rfl)⟩
  have hHeld : ((fun (w' : World) => w'.cell? ⟨w.heap.size, 0, none⟩ = some (.slice p0 p1 p2) ∧ w'.cell? ⟨w.heap.size + 1, 0, none⟩ = some (.slice x0 x1 x2) ∧ w'.cell? ⟨w.heap.size + 1, 1, none⟩ = some (.slice y0 y1 y2) ∧ w'.cell? ⟨w.heap.size + 1, 2, none⟩ = some (.bool f1) ∧ w'.cell? ⟨w.heap.size + 2, 0, none⟩ = some (.slice u0 u1 u2) ∧ w'.cell? ⟨w.heap.size + 2, 1, none⟩ = some (.slice v0 v1 v2) ∧ w'.cell? ⟨w.heap.size + 2, 2, none⟩ = some (.bool f2) ∧ w'.cell? ⟨w.heap.size + 3, 0, none⟩ = some (.slice s0 s1 s2) ∧ w'.cell? ⟨w.heap.size + 3, 1, none⟩ = some (.slice t0 t1 t2) ∧ w'.cell? ⟨w.heap.size + 3, 2, none⟩ = some (.bool f3))) _ := ⟨HF5.out.cell 0 0 (Nat.le_of_ble_eq_true rfl) (Nat.le_of_ble_eq_true rfl), HF5.out.cell 1 0 (Nat.le_of_ble_eq_true rfl) (Nat.le_of_ble_eq_true rfl), HF5.out.cell 1 1 (Nat.le_of_ble_eq_true rfl) (Nat.le_of_ble_eq_true rfl), HF5.out.cell 1 2 (Nat.le_of_ble_eq_true rfl) (Nat.le_of_ble_eq_true rfl), HF5.out.cell 2 0 (Nat.le_of_ble_eq_true rfl) (Nat.le_of_ble_eq_true rfl), HF5.out.cell 2 1 (Nat.le_of_ble_eq_true rfl) (Nat.le_of_ble_eq_true rfl), HF5.out.cell 2 2 (Nat.le_of_ble_eq_true rfl) (Nat.le_of_ble_eq_true rfl), HF5.out.cell 3 0 (Nat.le_of_ble_eq_true rfl) (Nat.le_of_ble_eq_true rfl), HF5.out.cell 3 1 (Nat.le_of_ble_eq_true rfl) (Nat.le_of_ble_eq_true rfl), HF5.out.cell 3 2 (Nat.le_of_ble_eq_true rfl) (Nat.le_of_ble_eq_true rfl)⟩
  clear hK K
  try simp only [Act.put, List.setIfInBounds_toArray, List.set_cons_zero, List.set_cons_succ]
  refine wpAnyK_step 8 rfl (by kernel_rfl) (fun K hK => ?_)
  go_simp
  refine (lfmul_v _ _ _ p V5 AC 384 384 _ Hp.out (HF5.out.arg 0 (Nat.le_of_ble_eq_true rfl)).1 (HF5.out.got 0 (Nat.le_of_ble_eq_true rfl)) (HF5.out.arg 8 (Nat.le_of_ble_eq_true rfl)) (by decide) (by decide)).mono ?_
  rintro e w6 ⟨r6, rfl, h⟩
  obtain ⟨V6, HV6⟩ : ∃ V, Hid (V = fM p V5 AC) := ⟨_, rfl⟩
  rw [← HV6.out] at h
  have HF6 : Hid (Fm w w6 [(70, [.slice p0 p1 p2]), (45, [.slice x0 x1 x2, .slice y0 y1 y2, .bool f1]), (45, [.slice u0 u1 u2, .slice v0 v1 v2, .bool f2]), (45, [.slice s0 s1 s2, .slice t0 t1 t2, .bool f3])] [(.slice p0 p1 p2, p, 384), (.slice x0 x1 x2, X1, 384), (.slice y0 y1 y2, Y1, 384), (.slice u0 u1 u2, X2, 384), (.slice v0 v1 v2, Y2, 384), (.slice s0 s1 s2, X3, 384), (.slice t0 t1 t2, Y3, 384), (.slice k0 k1 k2, UP, 384), (.slice m0 m1 m2, AC, 384)] [(r6, V6, 384), (r5, V5, 384), (r4, V4, 384), (r3, V3, 384), (r2, V2, 384), (r1, V1, 384)]) := HF5.out.step h
  clear h
  try dsimp only
  refine hK.out _ _ ?hk26 ?_
  case hk26 => exact fun _ => ⟨HF6.out.cell 0 0 (Nat.le_of_ble_eq_true rfl) (Nat.le_of_ble_eq_true rfl), HF6.out.cell 1 0 (Nat.le_of_ble_eq_true rfl) (Nat.le_of_ble_eq_true rfl), HF6.out.cell 1 1 (Nat.le_of_ble_eq_true rfl) (Nat.le_of_ble_eq_true rfl), HF6.out.cell 1 2 (Nat.le_of_ble_eq_true rfl) (Nat.le_of_ble_eq_true rfl), HF6.out.cell 2 0 (Nat.le_of_ble_eq_true rfl) (Nat.le_of_ble_eq_true rfl), HF6.out.cell 2 1 (Nat.le_of_ble_eq_true rfl) (Nat.le_of_ble_eq_true rfl), HF6.out.cell 2 2 (Nat.le_of_ble_eq_true rfl) (Nat.le_of_ble_eq_true rfl), HF6.out.cell 3 0 (Nat.le_of_ble_eq_true rfl) (Nat.le_of_ble_eq_true rfl), HF6.out.cell 3 1 (Nat.le_of_ble_eq_true rfl) (Nat.le_of_ble_eq_true rfl), HF6.out.cell 3 2 (Nat.le_of_ble_eq_true rfl) (Nat.le_of_ble_eq_true rfl)⟩
  have hHeld : ((fun (w' : World) => w'.cell? ⟨w.heap.size, 0, none⟩ = some (.slice p0 p1 p2) ∧ w'.cell? ⟨w.heap.size + 1, 0, none⟩ = some (.slice x0 x1 x2) ∧ w'.cell? ⟨w.heap.size + 1, 1, none⟩ = some (.slice y0 y1 y2) ∧ w'.cell? ⟨w.heap.size + 1, 2, none⟩ = some (.bool f1) ∧ w'.cell? ⟨w.heap.size + 2, 0, none⟩ = some (.slice u0 u1 u2) ∧ w'.cell? ⟨w.heap.size + 2, 1, none⟩ = some (.slice v0 v1 v2) ∧ w'.cell? ⟨w.heap.size + 2, 2, none⟩ = some (.bool f2) ∧ w'.cell? ⟨w.heap.size + 3, 0, none⟩ = some (.slice s0 s1 s2) ∧ w'.cell? ⟨w.heap.size + 3, 1, none⟩ = some (.slice t0 t1 t2) ∧ w'.cell? ⟨w.heap.size + 3, 2, none⟩ = some (.bool f3))) _ := ⟨HF6.out.cell 0 0 (Nat.le_of_ble_eq_true rfl) (Nat.le_of_ble_eq_true rfl), HF6.out.cell 1 0 (Nat.le_of_ble_eq_true rfl) (Nat.le_of_ble_eq_true rfl), HF6.out.cell 1 1 (Nat.le_of_ble_eq_true rfl) (Nat.le_of_ble_eq_true rfl), HF6.out.cell 1 2 (Nat.le_of_ble_eq_true rfl) (Nat.le_of_ble_eq_true rfl), HF6.out.cell 2 0 (Nat.le_of_ble_eq_true rfl) (Nat.le_of_ble_eq_true rfl), HF6.out.cell 2 1 (Nat.le_of_ble_eq_true rfl) (Nat.le_of_ble_eq_true rfl), HF6.out.cell 2 2 (Nat.le_of_ble_eq_true rfl) (Nat.le_of_ble_eq_true rfl), HF6.out.cell 3 0 (Nat.le_of_ble_eq_true rfl) (Nat.le_of_ble_eq_true rfl), HF6.out.cell 3 1 (Nat.le_of_ble_eq_true rfl) (Nat.le_of_ble_eq_true rfl), HF6.out.cell 3 2 (Nat.le_of_ble_eq_true rfl) (Nat.le_of_ble_eq_true rfl)⟩
  clear hK K
  try simp only [Act.put, List.setIfInBounds_toArray, List.set_cons_zero, List.set_cons_succ]
  refine wpAnyK_take0 9 (v := ?v27) rfl (by kernel_rfl) (fun _ _ _ h => h) (Or.inl ⟨by rfl, ?hy27⟩) (fun _ => hHeld) ?_
  case hy27 => (intro w hSw; go_simp; try with_reducible rfl)
  try simp only [Act.put, List.setIfInBounds_toArray, List.set_cons_zero, List.set_cons_succ]
  refine wpAnyK_done (by kernel_rfl) ?_ _
  go_wp2_with fail
  have HF6d : Hid (Fm w w6.drew [(70, [.slice p0 p1 p2]), (45, [.slice x0 x1 x2, .slice y0 y1 y2, .bool f1]), (45, [.slice u0 u1 u2, .slice v0 v1 v2, .bool f2]), (45, [.slice s0 s1 s2, .slice t0 t1 t2, .bool f3])] [(.slice p0 p1 p2, p, 384), (.slice x0 x1 x2, X1, 384), (.slice y0 y1 y2, Y1, 384), (.slice u0 u1 u2, X2, 384), (.slice v0 v1 v2, Y2, 384), (.slice s0 s1 s2, X3, 384), (.slice t0 t1 t2, Y3, 384), (.slice k0 k1 k2, UP, 384), (.slice m0 m1 m2, AC, 384)] [(r6, V6, 384), (r5, V5, 384), (r4, V4, 384), (r3, V3, 384), (r2, V2, 384), (r1, V1, 384)]) := HF6.out.drew
  refine wp_region_K 18 (fun (w' : World) => w'.cell? ⟨w.heap.size, 0, none⟩ = some (.slice p0 p1 p2) ∧ w'.cell? ⟨w.heap.size + 1, 0, none⟩ = some (.slice x0 x1 x2) ∧ w'.cell? ⟨w.heap.size + 1, 1, none⟩ = some (.slice y0 y1 y2) ∧ w'.cell? ⟨w.heap.size + 1, 2, none⟩ = some (.bool f1) ∧ w'.cell? ⟨w.heap.size + 2, 0, none⟩ = some (.slice u0 u1 u2) ∧ w'.cell? ⟨w.heap.size + 2, 1, none⟩ = some (.slice v0 v1 v2) ∧ w'.cell? ⟨w.heap.size + 2, 2, none⟩ = some (.bool f2) ∧ w'.cell? ⟨w.heap.size + 3, 0, none⟩ = some (.slice s0 s1 s2) ∧ w'.cell? ⟨w.heap.size + 3, 1, none⟩ = some (.slice t0 t1 t2) ∧ w'.cell? ⟨w.heap.size + 3, 2, none⟩ = some (.bool f3)) (by kernel_rfl) ?_
  have hHeld : ((fun (w' : World) => w'.cell? ⟨w.heap.size, 0, none⟩ = some (.slice p0 p1 p2) ∧ w'.cell? ⟨w.heap.size + 1, 0, none⟩ = some (.slice x0 x1 x2) ∧ w'.cell? ⟨w.heap.size + 1, 1, none⟩ = some (.slice y0 y1 y2) ∧ w'.cell? ⟨w.heap.size + 1, 2, none⟩ = some (.bool f1) ∧ w'.cell? ⟨w.heap.size + 2, 0, none⟩ = some (.slice u0 u1 u2) ∧ w'.cell? ⟨w.heap.size + 2, 1, none⟩ = some (.slice v0 v1 v2) ∧ w'.cell? ⟨w.heap.size + 2, 2, none⟩ = some (.bool f2) ∧ w'.cell? ⟨w.heap.size + 3, 0, none⟩ = some (.slice s0 s1 s2) ∧ w'.cell? ⟨w.heap.size + 3, 1, none⟩ = some (.slice t0 t1 t2) ∧ w'.cell? ⟨w.heap.size + 3, 2, none⟩ = some (.bool f3))) (World.drew _) := ⟨HF6d.out.cell 0 0 (Nat.le_of_ble_eq_true rfl) (Nat.le_of_ble_eq_true rfl), HF6d.out.cell 1 0 (Nat.le_of_ble_eq_true rfl) (Nat.le_of_ble_eq_true rfl), HF6d.out.cell 1 1 (Nat.le_of_ble_eq_true rfl) (Nat.le_of_ble_eq_true rfl), HF6d.out.cell 1 2 (Nat.le_of_ble_eq_true rfl) (Nat.le_of_ble_eq_true rfl), HF6d.out.cell 2 0 (Nat.le_of_ble_eq_true rfl) (Nat.le_of_ble_eq_true rfl), HF6d.out.cell 2 1 (Nat.le_of_ble_eq_true rfl) (Nat.le_of_ble_eq_true rfl), HF6d.out.cell 2 2 (Nat.le_of_ble_eq_true rfl) (Nat.le_of_ble_eq_true rfl), HF6d.out.cell 3 0 (Nat.le_of_ble_eq_true rfl) (Nat.le_of_ble_eq_true rfl), HF6d.out.cell 3 1 (Nat.le_of_ble_eq_true rfl) (Nat.le_of_ble_eq_true rfl), HF6d.out.cell 3 2 (Nat.le_of_ble_eq_true rfl) (Nat.le_of_ble_eq_true rfl)⟩
  refine wpAnyK_take0 0 (v := ?v28) rfl (by kernel_rfl) (fun _ _ _ h => h) (Or.inl ⟨by rfl, ?hy28⟩) (fun _ => hHeld) ?_
  case hy28 => (intro w hSw; go_simp; try with_reducible rfl)
  try simp only [Act.put, List.setIfInBounds_toArray, List.set_cons_zero, List.set_cons_succ]
  refine wpAnyK_take 1 [4, 5, 6, 7, 18] (v := ?v29) rfl (by kernel_rfl) (fun _ _ _ h => h) (Or.inl ⟨by rfl, ?hy29⟩) hHeld ?_
  case hy29 => (intro w hSw; (try dsimp only at hSw); go_simp; try with_reducible rfl)
  try simp only [Act.put, List.setIfInBounds_toArray, List.set_cons_zero, List.set_cons_succ]
  refine wpAnyK_take0 2 (v := ?v30) rfl (by kernel_rfl) (fun _ _ _ h => h) (Or.inl ⟨by rfl, ?hy30⟩) (fun _ => hHeld) ?_
  case hy30 => (intro w hSw; go_simp; try with_reducible rfl)
  try simp only [Act.put, List.setIfInBounds_toArray, List.set_cons_zero, List.set_cons_succ]
  refine wpAnyK_take0 3 (v := ?v31) rfl (by kernel_rfl) (fun _ _ _ h => h) (Or.inl ⟨by rfl, ?hy31⟩) (fun _ => hHeld) ?_
  case hy31 => (intro w hSw; go_simp; try with_reducible rfl)
  try simp only [Act.put, List.setIfInBounds_toArray, List.set_cons_zero, List.set_cons_succ]
  refine wpAnyK_step 4 rfl (by kernel_rfl) (fun K hK => ?_)
  go_simp
  refine (lfmul_v _ _ _ p UP UP 384 384 _ Hp.out (HF6d.out.arg 0 (Nat.le_of_ble_eq_true rfl)).1 (HF6d.out.arg 7 (Nat.le_of_ble_eq_true rfl)) (HF6d.out.arg 7 (Nat.le_of_ble_eq_true rfl)) (by decide) (by decide)).mono ?_
  rintro e w7 ⟨r7, rfl, h⟩
  obtain ⟨V7, HV7⟩ : ∃ V, Hid (V = fM p UP UP) := ⟨_, rfl⟩
  rw [← HV7.out] at h
  have HF7 : Hid (Fm w w7 [(70, [.slice p0 p1 p2]), (45, [.slice x0 x1 x2, .slice y0 y1 y2, .bool f1]), (45, [.slice u0 u1 u2, .slice v0 v1 v2, .bool f2]), (45, [.slice s0 s1 s2, .slice t0 t1 t2, .bool f3])] [(.slice p0 p1 p2, p, 384), (.slice x0 x1 x2, X1, 384), (.slice y0 y1 y2, Y1, 384), (.slice u0 u1 u2, X2, 384), (.slice v0 v1 v2, Y2, 384), (.slice s0 s1 s2, X3, 384), (.slice t0 t1 t2, Y3, 384), (.slice k0 k1 k2, UP, 384), (.slice m0 m1 m2, AC, 384)] [(r7, V7, 384), (r6, V6, 384), (r5, V5, 384), (r4, V4, 384), (r3, V3, 384), (r2, V2, 384), (r1, V1, 384)]) := HF6d.out.step h
  clear h
  try dsimp only
  refine hK.out _ _ ?hk32 ?_
  case hk32 => exact fun _ => ⟨HF7.out.cell 0 0 (Nat.le_of_ble_eq_true rfl) (Nat.le_of_ble_eq_true rfl), HF7.out.cell 1 0 (Nat.le_of_ble_eq_true rfl) (Nat.le_of_ble_eq_true rfl), HF7.out.cell 1 1 (Nat.le_of_ble_eq_true rfl) (Nat.le_of_ble_eq_true rfl), HF7.out.cell 1 2 (Nat.le_of_ble_eq_true rfl) (Nat.le_of_ble_eq_true rfl), HF7.out.cell 2 0 (Nat.le_of_ble_eq_true rfl) (Nat.le_of_ble_eq_true rfl), HF7.out.cell 2 1 (Nat.le_of_ble_eq_true rfl) (Nat.le_of_ble_eq_true rfl), HF7.out.cell 2 2 (Nat.le_of_ble_eq_true rfl) (Nat.le_of_ble_eq_true rfl), HF7.out.cell 3 0 (Nat.le_of_ble_eq_true rfl) (Nat.le_of_ble_eq_true rfl), HF7.out.cell 3 1 (Nat.le_of_ble_eq_true rfl) (Nat.le_of_ble_eq_true rfl), HF7.out.cell 3 2 (Nat.le_of_ble_eq_true rfl) (Nat.le_of_ble_eq_true rfl)⟩
  have hHeld : ((fun (w' : World) => w'.cell? ⟨w.heap.size, 0, none⟩ = some (.slice p0 p1 p2) ∧ w'.cell? ⟨w.heap.size + 1, 0, none⟩ = some (.slice x0 x1 x2) ∧ w'.cell? ⟨w.heap.size + 1, 1, none⟩ = some (.slice y0 y1 y2) ∧ w'.cell? ⟨w.heap.size + 1, 2, none⟩ = some (.bool f1) ∧ w'.cell? ⟨w.heap.size + 2, 0, none⟩ = some (.slice u0 u1 u2) ∧ w'.cell? ⟨w.heap.size + 2, 1, none⟩ = some (.slice v0 v1 v2) ∧ w'.cell? ⟨w.heap.size + 2, 2, none⟩ = some (.bool f2) ∧ w'.cell? ⟨w.heap.size + 3, 0, none⟩ = some (.slice s0 s1 s2) ∧ w'.cell? ⟨w.heap.size + 3, 1, none⟩ = some (.slice t0 t1 t2) ∧ w'.cell? ⟨w.heap.size + 3, 2, none⟩ = some (.bool f3))) _ := ⟨HF7.out.cell 0 0 (Nat.le_of_ble_eq_true rfl) (Nat.le_of_ble_eq_true rfl), HF7.out.cell 1 0 (Nat.le_of_ble_eq_true rfl) (Nat.le_of_ble_eq_true rfl), HF7.out.cell 1 1 (Nat.le_of_ble_eq_true rfl) (Nat.le_of_ble_eq_true rfl), HF7.out.cell 1 2 (Nat.le_of_ble_eq_true rfl) (Nat.le_of_ble_eq_true rfl), HF7.out.cell 2 0 (Nat.le_of_ble_eq_true rfl) (Nat.le_of_ble_eq_true rfl), HF7.out.cell 2 1 (Nat.le_of_ble_eq_true rfl) (Nat.le_of_ble_eq_true rfl), HF7.out.cell 2 2 (Nat.le_of_ble_eq_true rfl) (Nat.le_of_ble_eq_true rfl), HF7.out.cell 3 0 (Nat.le_of_ble_eq_true rfl) (Nat.le_of_ble_eq_true rfl), HF7.out.cell 3 1 (Nat.le_of_ble_eq_true rfl) (Nat.le_of_ble_eq_true rfl), HF7.out.cell 3 2 (Nat.le_of_ble_eq_true rfl) (Nat.le_of_ble_eq_true rfl)⟩
  clear hK K
  try simp only [Act.put, List.setIfInBounds_toArray, List.set_cons_zero, List.set_cons_succ]
  refine wpAnyK_step 5 rfl (by kernel_rfl) (fun K hK => ?_)
  go_simp
  have HQ1 : Hid (V4 = V7) := (by rw [HV4.out, HV2.out, HV1.out, HV3.out, HV7.out]; exact h1.out : V4 = V7)
  refine (vcmp _ _ V4 V7 _ _ _ (HF7.out.got 3 (Nat.le_of_ble_eq_true rfl)).1 (HF7.out.got 0 (Nat.le_of_ble_eq_true rfl)).1 (by decide) (by decide)).mono ?_
  rw [cmp3_eq (show ((V4 : Nat) : Int) = ((V7 : Nat) : Int) by rw [HQ1.out])]
  rintro e w8 ⟨rfl, q, hq⟩
  have HF8 : Hid (Fm w w8 [(70, [.slice p0 p1 p2]), (45, [.slice x0 x1 x2, .slice y0 y1 y2, .bool f1]), (45, [.slice u0 u1 u2, .slice v0 v1 v2, .bool f2]), (45, [.slice s0 s1 s2, .slice t0 t1 t2, .bool f3])] [(.slice p0 p1 p2, p, 384), (.slice x0 x1 x2, X1, 384), (.slice y0 y1 y2, Y1, 384), (.slice u0 u1 u2, X2, 384), (.slice v0 v1 v2, Y2, 384), (.slice s0 s1 s2, X3, 384), (.slice t0 t1 t2, Y3, 384), (.slice k0 k1 k2, UP, 384), (.slice m0 m1 m2, AC, 384)] [(r7, V7, 384), (r6, V6, 384), (r5, V5, 384), (r4, V4, 384), (r3, V3, 384), (r2, V2, 384), (r1, V1, 384)]) := (by rw [hq]; exact HF7.out.drewN q : Fm w w8 [(70, [.slice p0 p1 p2]), (45, [.slice x0 x1 x2, .slice y0 y1 y2, .bool f1]), (45, [.slice u0 u1 u2, .slice v0 v1 v2, .bool f2]), (45, [.slice s0 s1 s2, .slice t0 t1 t2, .bool f3])] [(.slice p0 p1 p2, p, 384), (.slice x0 x1 x2, X1, 384), (.slice y0 y1 y2, Y1, 384), (.slice u0 u1 u2, X2, 384), (.slice v0 v1 v2, Y2, 384), (.slice s0 s1 s2, X3, 384), (.slice t0 t1 t2, Y3, 384), (.slice k0 k1 k2, UP, 384), (.slice m0 m1 m2, AC, 384)] [(r7, V7, 384), (r6, V6, 384), (r5, V5, 384), (r4, V4, 384), (r3, V3, 384), (r2, V2, 384), (r1, V1, 384)])
  clear hq
  try dsimp only
  refine hK.out _ _ ?hk33 ?_
  case hk33 => exact fun _ => ⟨HF8.out.cell 0 0 (Nat.le_of_ble_eq_true rfl) (Nat.le_of_ble_eq_true rfl), HF8.out.cell 1 0 (Nat.le_of_ble_eq_true rfl) (Nat.le_of_ble_eq_true rfl), HF8.out.cell 1 1 (Nat.le_of_ble_eq_true rfl) (Nat.le_of_ble_eq_true rfl), HF8.out.cell 1 2 (Nat.le_of_ble_eq_true rfl) (Nat.le_of_ble_eq_true rfl), HF8.out.cell 2 0 (Nat.le_of_ble_eq_true rfl) (Nat.le_of_ble_eq_true rfl), HF8.out.cell 2 1 (Nat.le_of_ble_eq_true rfl) (Nat.le_of_ble_eq_true rfl), HF8.out.cell 2 2 (Nat.le_of_ble_eq_true rfl) (Nat.le_of_ble_eq_true rfl), HF8.out.cell 3 0 (Nat.le_of_ble_eq_true rfl) (Nat.le_of_ble_eq_true rfl), HF8.out.cell 3 1 (Nat.le_of_ble_eq_true rfl) (Nat.le_of_ble_eq_true rfl), HF8.out.cell 3 2 (Nat.le_of_ble_eq_true rfl) (Nat.le_of_ble_eq_true rfl)⟩
  have hHeld : ((fun (w' : World) => w'.cell? ⟨w.heap.size, 0, none⟩ = some (.slice p0 p1 p2) ∧ w'.cell? ⟨w.heap.size + 1, 0, none⟩ = some (.slice x0 x1 x2) ∧ w'.cell? ⟨w.heap.size + 1, 1, none⟩ = some (.slice y0 y1 y2) ∧ w'.cell? ⟨w.heap.size + 1, 2, none⟩ = some (.bool f1) ∧ w'.cell? ⟨w.heap.size + 2, 0, none⟩ = some (.slice u0 u1 u2) ∧ w'.cell? ⟨w.heap.size + 2, 1, none⟩ = some (.slice v0 v1 v2) ∧ w'.cell? ⟨w.heap.size + 2, 2, none⟩ = some (.bool f2) ∧ w'.cell? ⟨w.heap.size + 3, 0, none⟩ = some (.slice s0 s1 s2) ∧ w'.cell? ⟨w.heap.size + 3, 1, none⟩ = some (.slice t0 t1 t2) ∧ w'.cell? ⟨w.heap.size + 3, 2, none⟩ = some (.bool f3))) _ := ⟨HF8.out.cell 0 0 (Nat.le_of_ble_eq_true rfl) (Nat.le_of_ble_eq_true rfl), HF8.out.cell 1 0 (Nat.le_of_ble_eq_true rfl) (Nat.le_of_ble_eq_true rfl), HF8.out.cell 1 1 (Nat.le_of_ble_eq_true rfl) (Nat.le_of_ble_eq_true rfl), HF8.out.cell 1 2 (Nat.le_of_ble_eq_true rfl) (Nat.le_of_ble_eq_true rfl), HF8.out.cell 2 0 (Nat.le_of_ble_eq_true rfl) (Nat.le_of_ble_eq_true rfl), HF8.out.cell 2 1 (Nat.le_of_ble_eq_true rfl) (Nat.le_of_ble_eq_true rfl), HF8.out.cell 2 2 (Nat.le_of_ble_eq_true rfl) (Nat.le_of_ble_eq_true rfl), HF8.out.cell 3 0 (Nat.le_of_ble_eq_true rfl) (Nat.le_of_ble_eq_true rfl), HF8.out.cell 3 1 (Nat.le_of_ble_eq_true rfl) (Nat.le_of_ble_eq_true rfl), HF8.out.cell 3 2 (Nat.le_of_ble_eq_true rfl) (Nat.le_of_ble_eq_true rfl)⟩
  clear hK K
  try simp only [Act.put, List.setIfInBounds_toArray, List.set_cons_zero, List.set_cons_succ]
  refine wpAnyK_take0 6 (v := ?v34) rfl (by kernel_rfl) (fun _ _ _ h => h) (Or.inl ⟨by rfl, ?hy34⟩) (fun _ => hHeld) ?_
  case hy34 => (intro w hSw; go_simp; try with_reducible rfl)
  try simp only [Act.put, List.setIfInBounds_toArray, List.set_cons_zero, List.set_cons_succ]
  refine wpAnyK_take0 7 (v := ?v35) rfl (by kernel_rfl) (fun _ _ _ h => h) (Or.inl ⟨by rfl, ?hy35⟩) (fun _ => hHeld) ?_
  case hy35 => (intro w hSw; go_simp; try with_reducible rfl)
  try simp only [Act.put, List.setIfInBounds_toArray, List.set_cons_zero, List.set_cons_succ]
  refine wpAnyK_take0 8 (v := ?v36) rfl (by kernel_rfl) (fun _ _ _ h => h) (Or.inl ⟨by rfl, ?hy36⟩) (fun _ => hHeld) ?_
  case hy36 => (intro w hSw; go_simp; try with_reducible rfl)
  try simp only [Act.put, List.setIfInBounds_toArray, List.set_cons_zero, List.set_cons_succ]
  refine wpAnyK_take 9 [17, 18] (v := ?v37) rfl (by kernel_rfl) (fun _ _ _ h => h) (Or.inl ⟨by rfl, ?hy37⟩) hHeld ?_
  case hy37 => (intro w hSw; (try dsimp only at hSw); go_simp; try with_reducible rfl)
  try simp only [Act.put, List.setIfInBounds_toArray, List.set_cons_zero, List.set_cons_succ]
  refine wpAnyK_take0 10 (v := ?v38) rfl (by kernel_rfl) (fun _ _ _ h => h) (Or.inl ⟨by rfl, ?hy38⟩) (fun _ => hHeld) ?_
  case hy38 => (intro w hSw; go_simp; try with_reducible rfl)
  try simp only [Act.put, List.setIfInBounds_toArray, List.set_cons_zero, List.set_cons_succ]
  refine wpAnyK_take 11 [16, 17, 18] (v := ?v39) rfl (by kernel_rfl) (fun _ _ _ h => h) (Or.inl ⟨by rfl, ?hy39⟩) hHeld ?_
  case hy39 => (intro w hSw; (try dsimp only at hSw); go_simp; try with_reducible rfl)
  try simp only [Act.put, List.setIfInBounds_toArray, List.set_cons_zero, List.set_cons_succ]
  refine wpAnyK_take0 12 (v := ?v40) rfl (by kernel_rfl) (fun _ _ _ h => h) (Or.inl ⟨by rfl, ?hy40⟩) (fun _ => hHeld) ?_
  case hy40 => (intro w hSw; go_simp; try with_reducible rfl)
  try simp only [Act.put, List.setIfInBounds_toArray, List.set_cons_zero, List.set_cons_succ]
  refine wpAnyK_take 13 [16, 17, 18] (v := ?v41) rfl (by kernel_rfl) (fun _ _ _ h => h) (Or.inl ⟨by rfl, ?hy41⟩) hHeld ?_
  case hy41 => (intro w hSw; (try dsimp only at hSw); go_simp; try with_reducible rfl)
  try simp only [Act.put, List.setIfInBounds_toArray, List.set_cons_zero, List.set_cons_succ]
  refine wpAnyK_take0 14 (v := ?v42) rfl (by kernel_rfl) (fun _ _ _ h => h) (Or.inl ⟨by rfl, ?hy42⟩) (fun _ => hHeld) ?_
  case hy42 => (intro w hSw; go_simp; try with_reducible rfl)
  try simp only [Act.put, List.setIfInBounds_toArray, List.set_cons_zero, List.set_cons_succ]
  refine wpAnyK_take 15 [16, 17, 18] (v := ?v43) rfl (by kernel_rfl) (fun _ _ _ h => h) (Or.inl ⟨by rfl, ?hy43⟩) hHeld ?_
  case hy43 => (intro w hSw; (try dsimp only at hSw); go_simp; try with_reducible rfl)
  try simp only [Act.put, List.setIfInBounds_toArray, List.set_cons_zero, List.set_cons_succ]
  refine wpAnyK_step 16 rfl (by kernel_rfl) (fun K hK => ?_)
  go_simp
  refine (lfsub_v _ _ _ p X1 X3 384 384 _ Hp.out (HF8.out.arg 0 (Nat.le_of_ble_eq_true rfl)).1 (HF8.out.arg 1 (Nat.le_of_ble_eq_true rfl)) (HF8.out.arg 5 (Nat.le_of_ble_eq_true rfl)) (by decide) (by decide)).mono ?_
  rintro e w9 ⟨r9, rfl, h⟩
  obtain ⟨V9, HV9⟩ : ∃ V, Hid (V = fS p X1 X3) := ⟨_, rfl⟩
  rw [← HV9.out] at h
  have HF9 : Hid (Fm w w9 [(70, [.slice p0 p1 p2]), (45, [.slice x0 x1 x2, .slice y0 y1 y2, .bool f1]), (45, [.slice u0 u1 u2, .slice v0 v1 v2, .bool f2]), (45, [.slice s0 s1 s2, .slice t0 t1 t2, .bool f3])] [(.slice p0 p1 p2, p, 384), (.slice x0 x1 x2, X1, 384), (.slice y0 y1 y2, Y1, 384), (.slice u0 u1 u2, X2, 384), (.slice v0 v1 v2, Y2, 384), (.slice s0 s1 s2, X3, 384), (.slice t0 t1 t2, Y3, 384), (.slice k0 k1 k2, UP, 384), (.slice m0 m1 m2, AC, 384)] [(r9, V9, 384), (r7, V7, 384), (r6, V6, 384), (r5, V5, 384), (r4, V4, 384), (r3, V3, 384), (r2, V2, 384), (r1, V1, 384)]) := HF8.out.step h
  clear h
  try dsimp only
  refine hK.out _ _ ?hk44 ?_
  case hk44 => exact fun _ => ⟨HF9.out.cell 0 0 (Nat.le_of_ble_eq_true rfl) (Nat.le_of_ble_eq_true rfl), HF9.out.cell 1 0 (Nat.le_of_ble_eq_true rfl) (Nat.le_of_ble_eq_true rfl), HF9.out.cell 1 1 (Nat.le_of_ble_eq_true rfl) (Nat.le_of_ble_eq_true rfl), HF9.out.cell 1 2 (Nat.le_of_ble_eq_true rfl) (Nat.le_of_ble_eq_true rfl), HF9.out.cell 2 0 (Nat.le_of_ble_eq_true rfl) (Nat.le_of_ble_eq_true rfl), HF9.out.cell 2 1 (Nat.le_of_ble_eq_true rfl) (Nat.le_of_ble_eq_true rfl), HF9.out.cell 2 2 (Nat.le_of_ble_eq_true rfl) (Nat.le_of_ble_eq_true rfl), HF9.out.cell 3 0 (Nat.le_of_ble_eq_true rfl) (Nat.le_of_ble_eq_true rfl), HF9.out.cell 3 1 (Nat.le_of_ble_eq_true rfl) (Nat.le_of_ble_eq_true rfl), HF9.out.cell 3 2 (Nat.le_of_ble_eq_true rfl) (Nat.le_of_ble_eq_true rfl)⟩
  have hHeld : ((fun (w' : World) => w'.cell? ⟨w.heap.size, 0, none⟩ = some (.slice p0 p1 p2) ∧ w'.cell? ⟨w.heap.size + 1, 0, none⟩ = some (.slice x0 x1 x2) ∧ w'.cell? ⟨w.heap.size + 1, 1, none⟩ = some (.slice y0 y1 y2) ∧ w'.cell? ⟨w.heap.size + 1, 2, none⟩ = some (.bool f1) ∧ w'.cell? ⟨w.heap.size + 2, 0, none⟩ = some (.slice u0 u1 u2) ∧ w'.cell? ⟨w.heap.size + 2, 1, none⟩ = some (.slice v0 v1 v2) ∧ w'.cell? ⟨w.heap.size + 2, 2, none⟩ = some (.bool f2) ∧ w'.cell? ⟨w.heap.size + 3, 0, none⟩ = some (.slice s0 s1 s2) ∧ w'.cell? ⟨w.heap.size + 3, 1, none⟩ = some (.slice t0 t1 t2) ∧ w'.cell? ⟨w.heap.size + 3, 2, none⟩ = some (.bool f3))) _ := ⟨HF9.out.cell 0 0 (Nat.le_of_ble_eq_true rfl) (Nat.le_of_ble_eq_true rfl), HF9.out.cell 1 0 (Nat.le_of_ble_eq_true rfl) (Nat.le_of_ble_eq_true rfl), HF9.out.cell 1 1 (Nat.le_of_ble_eq_true rfl) (Nat.le_of_ble_eq_true rfl), HF9.out.cell 1 2 (Nat.le_of_ble_eq_true rfl) (Nat.le_of_ble_eq_true rfl), HF9.out.cell 2 0 (Nat.le_of_ble_eq_true rfl) (Nat.le_of_ble_eq_true rfl), HF9.out.cell 2 1 (Nat.le_of_ble_eq_true rfl) (Nat.le_of_ble_eq_true rfl), HF9.out.cell 2 2 (Nat.le_of_ble_eq_true rfl) (Nat.le_of_ble_eq_true rfl), HF9.out.cell 3 0 (Nat.le_of_ble_eq_true rfl) (Nat.le_of_ble_eq_true rfl), HF9.out.cell 3 1 (Nat.le_of_ble_eq_true rfl) (Nat.le_of_ble_eq_true rfl), HF9.out.cell 3 2 (Nat.le_of_ble_eq_true rfl) (Nat.le_of_ble_eq_true rfl)⟩
  clear hK K
  try simp only [Act.put, List.setIfInBounds_toArray, List.set_cons_zero, List.set_cons_succ]
  refine wpAnyK_step 17 rfl (by kernel_rfl) (fun K hK => ?_)
  go_simp
  refine (lfmul_v _ _ _ p UP V9 384 384 _ Hp.out (HF9.out.arg 0 (Nat.le_of_ble_eq_true rfl)).1 (HF9.out.arg 7 (Nat.le_of_ble_eq_true rfl)) (HF9.out.got 0 (Nat.le_of_ble_eq_true rfl)) (by decide) (by decide)).mono ?_
  rintro e w10 ⟨r10, rfl, h⟩
  obtain ⟨V10, HV10⟩ : ∃ V, Hid (V = fM p UP V9) := ⟨_, rfl⟩
  rw [← HV10.out] at h
  have HF10 : Hid (Fm w w10 [(70, [.slice p0 p1 p2]), (45, [.slice x0 x1 x2, .slice y0 y1 y2, .bool f1]), (45, [.slice u0 u1 u2, .slice v0 v1 v2, .bool f2]), (45, [.slice s0 s1 s2, .slice t0 t1 t2, .bool f3])] [(.slice p0 p1 p2, p, 384), (.slice x0 x1 x2, X1, 384), (.slice y0 y1 y2, Y1, 384), (.slice u0 u1 u2, X2, 384), (.slice v0 v1 v2, Y2, 384), (.slice s0 s1 s2, X3, 384), (.slice t0 t1 t2, Y3, 384), (.slice k0 k1 k2, UP, 384), (.slice m0 m1 m2, AC, 384)] [(r10, V10, 384), (r9, V9, 384), (r7, V7, 384), (r6, V6, 384), (r5, V5, 384), (r4, V4, 384), (r3, V3, 384), (r2, V2, 384), (r1, V1, 384)]) := HF9.out.step h
  clear h
  try dsimp only
  refine hK.out _ _ ?hk45 ?_
  case hk45 => exact fun _ => ⟨HF10.out.cell 0 0 (Nat.le_of_ble_eq_true rfl) (Nat.le_of_ble_eq_true rfl), HF10.out.cell 1 0 (Nat.le_of_ble_eq_true rfl) (Nat.le_of_ble_eq_true rfl), HF10.out.cell 1 1 (Nat.le_of_ble_eq_true rfl) (Nat.le_of_ble_eq_true rfl), HF10.out.cell 1 2 (Nat.le_of_ble_eq_true rfl) (Nat.le_of_ble_eq_true rfl), HF10.out.cell 2 0 (Nat.le_of_ble_eq_true rfl) (Nat.le_of_ble_eq_true rfl), HF10.out.cell 2 1 (Nat.le_of_ble_eq_true rfl) (Nat.le_of_ble_eq_true rfl), HF10.out.cell 2 2 (Nat.le_of_ble_eq_true rfl) (Nat.le_of_ble_eq_true rfl), HF10.out.cell 3 0 (Nat.le_of_ble_eq_true rfl) (Nat.le_of_ble_eq_true rfl), HF10.out.cell 3 1 (Nat.le_of_ble_eq_true rfl) (Nat.le_of_ble_eq_true rfl), HF10.out.cell 3 2 (Nat.le_of_ble_eq_true rfl) (Nat.le_of_ble_eq_true rfl)⟩
  have hHeld : ((fun (w' : World) => w'.cell? ⟨w.heap.size, 0, none⟩ = some (.slice p0 p1 p2) ∧ w'.cell? ⟨w.heap.size + 1, 0, none⟩ = some (.slice x0 x1 x2) ∧ w'.cell? ⟨w.heap.size + 1, 1, none⟩ = some (.slice y0 y1 y2) ∧ w'.cell? ⟨w.heap.size + 1, 2, none⟩ = some (.bool f1) ∧ w'.cell? ⟨w.heap.size + 2, 0, none⟩ = some (.slice u0 u1 u2) ∧ w'.cell? ⟨w.heap.size + 2, 1, none⟩ = some (.slice v0 v1 v2) ∧ w'.cell? ⟨w.heap.size + 2, 2, none⟩ = some (.bool f2) ∧ w'.cell? ⟨w.heap.size + 3, 0, none⟩ = some (.slice s0 s1 s2) ∧ w'.cell? ⟨w.heap.size + 3, 1, none⟩ = some (.slice t0 t1 t2) ∧ w'.cell? ⟨w.heap.size + 3, 2, none⟩ = some (.bool f3))) _ := ⟨HF10.out.cell 0 0 (Nat.le_of_ble_eq_true rfl) (Nat.le_of_ble_eq_true rfl), HF10.out.cell 1 0 (Nat.le_of_ble_eq_true rfl) (Nat.le_of_ble_eq_true rfl), HF10.out.cell 1 1 (Nat.le_of_ble_eq_true rfl) (Nat.le_of_ble_eq_true rfl), HF10.out.cell 1 2 (Nat.le_of_ble_eq_true rfl) (Nat.le_of_ble_eq_true rfl), HF10.out.cell 2 0 (Nat.le_of_ble_eq_true rfl) (Nat.le_of_ble_eq_true rfl), HF10.out.cell 2 1 (Nat.le_of_ble_eq_true rfl) (Nat.le_of_ble_eq_true rfl), HF10.out.cell 2 2 (Nat.le_of_ble_eq_true rfl) (Nat.le_of_ble_eq_true rfl), HF10.out.cell 3 0 (Nat.le_of_ble_eq_true rfl) (Nat.le_of_ble_eq_true rfl), HF10.out.cell 3 1 (Nat.le_of_ble_eq_true rfl) (Nat.le_of_ble_eq_true rfl), HF10.out.cell 3 2 (Nat.le_of_ble_eq_true rfl) (Nat.le_of_ble_eq_true rfl)⟩
  clear hK K
  try simp only [Act.put, List.setIfInBounds_toArray, List.set_cons_zero, List.set_cons_succ]
  refine wpAnyK_step 18 rfl (by kernel_rfl) (fun K hK => ?_)
  go_simp
  have HQ2 : Hid (V6 = V10) := (by rw [HV6.out, HV5.out, HV10.out, HV9.out]; exact h2.out : V6 = V10)
  refine (vcmp _ _ V6 V10 _ _ _ (HF10.out.got 3 (Nat.le_of_ble_eq_true rfl)).1 (HF10.out.got 0 (Nat.le_of_ble_eq_true rfl)).1 (by decide) (by decide)).mono ?_
  rw [cmp3_eq (show ((V6 : Nat) : Int) = ((V10 : Nat) : Int) by rw [HQ2.out])]
  rintro e w11 ⟨rfl, q, hq⟩
  have HF11 : Hid (Fm w w11 [(70, [.slice p0 p1 p2]), (45, [.slice x0 x1 x2, .slice y0 y1 y2, .bool f1]), (45, [.slice u0 u1 u2, .slice v0 v1 v2, .bool f2]), (45, [.slice s0 s1 s2, .slice t0 t1 t2, .bool f3])] [(.slice p0 p1 p2, p, 384), (.slice x0 x1 x2, X1, 384), (.slice y0 y1 y2, Y1, 384), (.slice u0 u1 u2, X2, 384), (.slice v0 v1 v2, Y2, 384), (.slice s0 s1 s2, X3, 384), (.slice t0 t1 t2, Y3, 384), (.slice k0 k1 k2, UP, 384), (.slice m0 m1 m2, AC, 384)] [(r10, V10, 384), (r9, V9, 384), (r7, V7, 384), (r6, V6, 384), (r5, V5, 384), (r4, V4, 384), (r3, V3, 384), (r2, V2, 384), (r1, V1, 384)]) := (by rw [hq]; exact HF10.out.drewN q : Fm w w11 [(70, [.slice p0 p1 p2]), (45, [.slice x0 x1 x2, .slice y0 y1 y2, .bool f1]), (45, [.slice u0 u1 u2, .slice v0 v1 v2, .bool f2]), (45, [.slice s0 s1 s2, .slice t0 t1 t2, .bool f3])] [(.slice p0 p1 p2, p, 384), (.slice x0 x1 x2, X1, 384), (.slice y0 y1 y2, Y1, 384), (.slice u0 u1 u2, X2, 384), (.slice v0 v1 v2, Y2, 384), (.slice s0 s1 s2, X3, 384), (.slice t0 t1 t2, Y3, 384), (.slice k0 k1 k2, UP, 384), (.slice m0 m1 m2, AC, 384)] [(r10, V10, 384), (r9, V9, 384), (r7, V7, 384), (r6, V6, 384), (r5, V5, 384), (r4, V4, 384), (r3, V3, 384), (r2, V2, 384), (r1, V1, 384)])
  clear hq
  try dsimp only
  refine hK.out _ _ ?hk46 ?_
  case hk46 => exact fun _ => ⟨HF11.out.cell 0 0 (Nat.le_of_ble_eq_true rfl) (Nat.le_of_ble_eq_true rfl), HF11.out.cell 1 0 (Nat.le_of_ble_eq_true rfl) (Nat.le_of_ble_eq_true rfl), HF11.out.cell 1 1 (Nat.le_of_ble_eq_true rfl) (Nat.le_of_ble_eq_true rfl), HF11.out.cell 1 2 (Nat.le_of_ble_eq_true rfl) (Nat.le_of_ble_eq_true rfl), HF11.out.cell 2 0 (Nat.le_of_ble_eq_true rfl) (Nat.le_of_ble_eq_true rfl), HF11.out.cell 2 1 (Nat.le_of_ble_eq_true rfl) (Nat.le_of_ble_eq_true rfl), HF11.out.cell 2 2 (Nat.le_of_ble_eq_true rfl) (Nat.le_of_ble_eq_true rfl), HF11.out.cell 3 0 (Nat.le_of_ble_eq_true rfl) (Nat.le_of_ble_eq_true rfl), HF11.out.cell 3 1 (Nat.le_of_ble_eq_true rfl) (Nat.le_of_ble_eq_true rfl), HF11.out.cell 3 2 (Nat.le_of_ble_eq_true rfl) (Nat.le_of_ble_eq_true rfl)⟩
  have hHeld : ((fun (w' : World) => w'.cell? ⟨w.heap.size, 0, none⟩ = some (.slice p0 p1 p2) ∧ w'.cell? ⟨w.heap.size + 1, 0, none⟩ = some (.slice x0 x1 x2) ∧ w'.cell? ⟨w.heap.size + 1, 1, none⟩ = some (.slice y0 y1 y2) ∧ w'.cell? ⟨w.heap.size + 1, 2, none⟩ = some (.bool f1) ∧ w'.cell? ⟨w.heap.size + 2, 0, none⟩ = some (.slice u0 u1 u2) ∧ w'.cell? ⟨w.heap.size + 2, 1, none⟩ = some (.slice v0 v1 v2) ∧ w'.cell? ⟨w.heap.size + 2, 2, none⟩ = some (.bool f2) ∧ w'.cell? ⟨w.heap.size + 3, 0, none⟩ = some (.slice s0 s1 s2) ∧ w'.cell? ⟨w.heap.size + 3, 1, none⟩ = some (.slice t0 t1 t2) ∧ w'.cell? ⟨w.heap.size + 3, 2, none⟩ = some (.bool f3))) _ := ⟨HF11.out.cell 0 0 (Nat.le_of_ble_eq_true rfl) (Nat.le_of_ble_eq_true rfl), HF11.out.cell 1 0 (Nat.le_of_ble_eq_true rfl) (Nat.le_of_ble_eq_true rfl), HF11.out.cell 1 1 (Nat.le_of_ble_eq_true rfl) (Nat.le_of_ble_eq_true rfl), HF11.out.cell 1 2 (Nat.le_of_ble_eq_true rfl) (Nat.le_of_ble_eq_true rfl), HF11.out.cell 2 0 (Nat.le_of_ble_eq_true rfl) (Nat.le_of_ble_eq_true rfl), HF11.out.cell 2 1 (Nat.le_of_ble_eq_true rfl) (Nat.le_of_ble_eq_true rfl), HF11.out.cell 2 2 (Nat.le_of_ble_eq_true rfl) (Nat.le_of_ble_eq_true rfl), HF11.out.cell 3 0 (Nat.le_of_ble_eq_true rfl) (Nat.le_of_ble_eq_true rfl), HF11.out.cell 3 1 (Nat.le_of_ble_eq_true rfl) (Nat.le_of_ble_eq_true rfl), HF11.out.cell 3 2 (Nat.le_of_ble_eq_true rfl) (Nat.le_of_ble_eq_true rfl)⟩
  clear hK K
  try simp only [Act.put, List.setIfInBounds_toArray, List.set_cons_zero, List.set_cons_succ]
  refine wpAnyK_take0 19 (v := ?v47) rfl (by kernel_rfl) (fun _ _ _ h => h) (Or.inl ⟨by rfl, ?hy47⟩) (fun _ => hHeld) ?_
  case hy47 => (intro w hSw; go_simp; try with_reducible rfl)
  try simp only [Act.put, List.setIfInBounds_toArray, List.set_cons_zero, List.set_cons_succ]
  refine wpAnyK_take0 20 (v := ?v48) rfl (by kernel_rfl) (fun _ _ _ h => h) (Or.inl ⟨by rfl, ?hy48⟩) (fun _ => hHeld) ?_
  case hy48 => (intro w hSw; go_simp; try with_reducible rfl)
  try simp only [Act.put, List.setIfInBounds_toArray, List.set_cons_zero, List.set_cons_succ]
  refine wpAnyK_take0 21 (v := ?v49) rfl (by kernel_rfl) (fun _ _ _ h => h) (Or.inl ⟨by rfl, ?hy49⟩) (fun _ => hHeld) ?_
  case hy49 => (intro w hSw; go_simp; try with_reducible rfl)
  try simp only [Act.put, List.setIfInBounds_toArray, List.set_cons_zero, List.set_cons_succ]
  refine wpAnyK_done (by kernel_rfl) ?_ _
  go_wp2
  go_ret
  exact ⟨rfl, HF11.out.bel⟩
set_option maxHeartbeats 4000000 in
theorem add_none (c : Int) (h1 : c ≠ 1) (h2 : c ≠ 2) (x y u v : Value) (inf jnf : Bool) (w : World) (hx : Sl3 x) (hy : Sl3 y) (hu : Sl3 u) (hv : Sl3 v) :
    Calls Tryz.prog 34 #[.int .i64 c, .agg #[x, y, .bool inf], .agg #[u, v, .bool jnf]] w fun e w' => e = .returned (.tuple #[.agg #[.slice none 0 0, .slice none 0 0, .bool false], .int .i64 93]) ∧ Below w.heap.size w w' := by
  obtain ⟨x0, x1, x2, rfl⟩ := hx
  obtain ⟨y0, y1, y2, rfl⟩ := hy
  obtain ⟨u0, u1, u2, rfl⟩ := hu
  obtain ⟨v0, v1, v2, rfl⟩ := hv
  have HF0 : Hid (Fm w (((w.alloc (.cells #[.slice x0 x1 x2, .slice y0 y1 y2, .bool inf] 45)).alloc (.cells #[.slice u0 u1 u2, .slice v0 v1 v2, .bool jnf] 45)).alloc (.cells #[.slice none 0 0, .slice none 0 0, .bool false] 45)) [(45, [.slice x0 x1 x2, .slice y0 y1 y2, .bool inf]), (45, [.slice u0 u1 u2, .slice v0 v1 v2, .bool jnf]), (45, [.slice none 0 0, .slice none 0 0, .bool false])] [] []) := ((((Fm.nil (w := w) (A := []) ar_nil).push (by simp) 45 [.slice x0 x1 x2, .slice y0 y1 y2, .bool inf]).push (by simp) 45 [.slice u0 u1 u2, .slice v0 v1 v2, .bool jnf]).push (by simp) 45 [.slice none 0 0, .slice none 0 0, .bool false])
  have hsn : ∀ (w : World) (a : Addr), Sem.run Tryz.prog (store a .nilFunc) w = _ := fun w a => run_store Tryz.prog w a .nilFunc _ rfl
  go_enter Tryz.func34, Tryz.ntmps34
  go_wp2_with fail
  generalize (((w.alloc (.cells #[.slice x0 x1 x2, .slice y0 y1 y2, .bool inf] 45)).alloc (.cells #[.slice u0 u1 u2, .slice v0 v1 v2, .bool jnf] 45)).alloc (.cells #[.slice none 0 0, .slice none 0 0, .bool false] 45)) = w0 at *
  refine (of_none c _ h1 h2).mono ?_
  rintro e w1 ⟨rfl, hB⟩
  have HF1 : Hid (Fm w w1 [(45, [.slice x0 x1 x2, .slice y0 y1 y2, .bool inf]), (45, [.slice u0 u1 u2, .slice v0 v1 v2, .bool jnf]), (45, [.slice none 0 0, .slice none 0 0, .bool false])] [] []) := HF0.out.below hB
  clear hB HF0
  have a0 : ∀ o, (w1.alloc o).cell? ⟨w.heap.size, 0, none⟩ = some (.slice x0 x1 x2) := fun o => (World.cell?_alloc_lt _ _ _ (HF1.out.bx 0 (Nat.le_of_ble_eq_true rfl)).lt).trans (HF1.out.cell 0 0 (Nat.le_of_ble_eq_true rfl) (Nat.le_of_ble_eq_true rfl))
  have a1 : ∀ o, (w1.alloc o).cell? ⟨w.heap.size, 1, none⟩ = some (.slice y0 y1 y2) := fun o => (World.cell?_alloc_lt _ _ _ (HF1.out.bx 0 (Nat.le_of_ble_eq_true rfl)).lt).trans (HF1.out.cell 0 1 (Nat.le_of_ble_eq_true rfl) (Nat.le_of_ble_eq_true rfl))
  have a2 : ∀ o, (w1.alloc o).cell? ⟨w.heap.size, 2, none⟩ = some (.bool inf) := fun o => (World.cell?_alloc_lt _ _ _ (HF1.out.bx 0 (Nat.le_of_ble_eq_true rfl)).lt).trans (HF1.out.cell 0 2 (Nat.le_of_ble_eq_true rfl) (Nat.le_of_ble_eq_true rfl))
  go_wp2_with fail
  clear a0 a1 a2
  have HF2 : Hid (Fm w (w1.alloc (.cells #[.slice none 0 0, .slice none 0 0, .int .i64 0, .slice none 0 0, .slice none 0 0, .slice none 0 0, .bool false, .nilFunc] 78)) [(45, [.slice x0 x1 x2, .slice y0 y1 y2, .bool inf]), (45, [.slice u0 u1 u2, .slice v0 v1 v2, .bool jnf]), (45, [.slice none 0 0, .slice none 0 0, .bool false])] [] []) := HF1.out.below (alloc_below _ _)
  generalize (w1.alloc (.cells #[.slice none 0 0, .slice none 0 0, .int .i64 0, .slice none 0 0, .slice none 0 0, .slice none 0 0, .bool false, .nilFunc] 78)) = w2 at *
  refine (has_none _ _ inf _ ⟨_, _, _, rfl⟩ ⟨_, _, _, rfl⟩).mono ?_
  rintro e w3 ⟨rfl, hB⟩
  have HF3 : Hid (Fm w w3 [(45, [.slice x0 x1 x2, .slice y0 y1 y2, .bool inf]), (45, [.slice u0 u1 u2, .slice v0 v1 v2, .bool jnf]), (45, [.slice none 0 0, .slice none 0 0, .bool false])] [] []) := HF2.out.below hB
  clear hB
  have c0 : w3.cell? ⟨w.heap.size + 2, 0, none⟩ = some (.slice none 0 0) := HF3.out.cell 2 0 (Nat.le_of_ble_eq_true rfl) (Nat.le_of_ble_eq_true rfl)
  have c1 : w3.cell? ⟨w.heap.size + 2, 1, none⟩ = some (.slice none 0 0) := HF3.out.cell 2 1 (Nat.le_of_ble_eq_true rfl) (Nat.le_of_ble_eq_true rfl)
  have c2 : w3.cell? ⟨w.heap.size + 2, 2, none⟩ = some (.bool false) := HF3.out.cell 2 2 (Nat.le_of_ble_eq_true rfl) (Nat.le_of_ble_eq_true rfl)
  have f0 : w3.frozen? ⟨w.heap.size + 2, 0, none⟩ = false := HF3.out.frozen 2 0 (Nat.le_of_ble_eq_true rfl)
  have f1 : w3.frozen? ⟨w.heap.size + 2, 1, none⟩ = false := HF3.out.frozen 2 1 (Nat.le_of_ble_eq_true rfl)
  have f2 : w3.frozen? ⟨w.heap.size + 2, 2, none⟩ = false := HF3.out.frozen 2 2 (Nat.le_of_ble_eq_true rfl)
  go_wp2
  (try simp only [Exit.inBlock, Exit.then])
  have hb := (((But.refl w3 (w.heap.size + 2)).set 0 (.slice none 0 0)).set 1 (.slice none 0 0)).set 2 (.bool false)
  refine bodyPost_ret (v := .tuple #[.agg #[.slice none 0 0, .slice none 0 0, .bool false], .int .i64 93]) ?_ rfl ⟨rfl, HF3.out.outB 2 (by simp) hb⟩
  rw [results_cell_tmp rfl]; go_simp
end Go.Proofs.YtnifjhmjpbihoaaGreatDoor
