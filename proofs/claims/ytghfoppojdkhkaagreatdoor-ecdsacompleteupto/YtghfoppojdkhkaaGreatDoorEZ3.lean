import Derived.Test.YtghfoppojdkhkaaGreatDoorCE
import Derived.Test.YtghfoppojdkhkaaGreatDoorCJ
import Derived.Test.YtghfoppojdkhkaaGreatDoorEZ2
namespace Go.Proofs.YtghfoppojdkhkaaGreatDoor
open Go.RowKit

set_option maxRecDepth 100000

/-- The inverse below n, where there is one. -/
noncomputable def iv (n d : Nat) : Nat := open Classical in if h : ∃ i, Inz d n i then Classical.choose h else 0
set_option maxHeartbeats 4000000 in
theorem inRange_v {c s : Int} {p b n gx gy : Nat} (hk : Kv c p b n gx gy s) (v : Value) (K : Nat) (w : World) (hv : Nu w v K) : Calls Tryz.prog 32 #[.int .i64 c, v] w fun e w' => e = .returned (.bool (decide (0 < K ∧ K < n))) ∧ Below w.heap.size w w' := by
  have HV : Hid (Nu w v K) := hv
  have C := vbits _ K _ w hv (by decide)
  clear hv
  by_cases h0 : K = 0
  · subst h0
    rw [show bl 0 = 0 by decide] at C
    have hd : Hid (decide (0 < 0 ∧ 0 < n) = false) := (by simp : decide (0 < 0 ∧ 0 < n) = false)
    go_enter Tryz.func32, Tryz.ntmps32
    go_wp2_with fail
    refine C.mono ?_
    rintro e w1 ⟨rfl, rfl⟩
    clear C
    go_wp2
    go_ret
    exact ⟨by rw [hd.out]; rfl, Below.refl _ _⟩
  · have hz := bl_nz h0
    obtain ⟨z, Hz⟩ : ∃ z, Hid (z = ((bl K : Nat) : Int)) := ⟨_, rfl⟩
    rw [← Hz.out] at C
    have g1 : decide (z > 0) = true := decide_eq_true (by have := Hz.out; omega)
    have g2 : 0 < z := by have := Hz.out; omega
    go_enter Tryz.func32, Tryz.ntmps32
    go_wp2_with fail
    refine C.mono ?_
    rintro e w1 ⟨rfl, rfl⟩
    clear C
    go_wp2_with fail
    refine (order_v hk _).mono ?_
    rintro e w2 ⟨r, rfl, m, hB⟩
    have HB : Hid (Below w1.heap.size w1 w2) := hB
    have C2 := vcmp _ _ K n _ _ w2 (HV.out.below hB (Nat.le_refl _)) m.nk.1 (by decide) (by decide)
    obtain ⟨r0, r1, r2, rfl⟩ := m.nk.sl
    clear m hB
    by_cases hn : K < n
    · rw [cmp3_lt (by omega)] at C2
      go_wp2_with fail
      refine C2.mono ?_
      rintro e w3 ⟨rfl, q, rfl⟩
      clear C2
      have hd : Hid (decide (0 < K ∧ K < n) = true) := decide_eq_true ⟨by omega, hn⟩
      go_wp2
      go_ret
      exact ⟨by rw [hd.out]; rfl, below_drewN HB.out q⟩
    · obtain ⟨z2, Hz2⟩ : ∃ z2, Hid (z2 = cmp3 ((K : Nat) : Int) ((n : Nat) : Int)) := ⟨_, rfl⟩
      rw [← Hz2.out] at C2
      have h3 : 0 ≤ z2 := by
        rw [Hz2.out]
        rcases Nat.eq_or_lt_of_le (Nat.le_of_not_lt hn) with h | h
        · rw [cmp3_eq (by omega)]; omega
        · rw [cmp3_gt (by omega)]; omega
      have g3 : decide (z2 < 0) = false := decide_eq_false (by omega)
      have g4 : ¬ z2 < 0 := by omega
      have hd : Hid (decide (0 < K ∧ K < n) = false) := decide_eq_false (by omega)
      go_wp2_with fail
      refine C2.mono ?_
      rintro e w3 ⟨rfl, q, rfl⟩
      clear C2
      go_wp2
      go_ret
      exact ⟨by rw [hd.out]; rfl, below_drewN HB.out q⟩
set_option maxHeartbeats 4000000 in
theorem makes_v {c s : Int} {p b n gx gy : Nat} (hk : Kv c p b n gx gy s) (x y v : Value) (X Y R : Nat) (inf : Bool) (w : World) (hx : Nu w x X) (hy : Nu w y Y) (hv : Nu w v R) : Calls Tryz.prog 35 #[.int .i64 c, .agg #[x, y, .bool inf], v] w fun e w' => e = .returned (.bool (decide (X % n = R))) ∧ Below w.heap.size w w' := by
  obtain ⟨x0, x1, x2, rfl⟩ := hx.shape
  obtain ⟨y0, y1, y2, rfl⟩ := hy.shape
  obtain ⟨v0, v1, v2, rfl⟩ := hv.shape
  have HN : Hid (Nu w (.slice x0 x1 x2) X ∧ Nu w (.slice v0 v1 v2) R) := ⟨hx, hv⟩
  have Hn0 : Hid (n ≠ 0) := hk.n0
  have HF0 : Hid (Fm w (w.alloc (.cells #[.slice x0 x1 x2, .slice y0 y1 y2, .bool inf] 41)) [(41, [.slice x0 x1 x2, .slice y0 y1 y2, .bool inf])] [] []) := ((Fm.nil (w := w) (A := []) ar_nil).push (by simp) 41 [.slice x0 x1 x2, .slice y0 y1 y2, .bool inf])
  clear hx hy hv
  go_enter Tryz.func35, Tryz.ntmps35
  go_wp2_with fail
  generalize (w.alloc (.cells #[.slice x0 x1 x2, .slice y0 y1 y2, .bool inf] 41)) = w0 at *
  have HFd : Hid (Fm w w0.drew [(41, [.slice x0 x1 x2, .slice y0 y1 y2, .bool inf])] [] []) := HF0.out.drew
  refine wp_region_K 4 (fun (w' : World) => w'.cell? ⟨w.heap.size, 0, none⟩ = some (.slice x0 x1 x2)) (by kernel_rfl) ?_
  have hHeld : ((fun (w' : World) => w'.cell? ⟨w.heap.size, 0, none⟩ = some (.slice x0 x1 x2))) (World.drew _) := HFd.out.cell 0 0 (Nat.le_of_ble_eq_true rfl) (Nat.le_of_ble_eq_true rfl)
  refine wpAnyK_take0 0 (v := ?v1) rfl (by kernel_rfl) (fun _ _ _ h => h) (Or.inl ⟨by rfl, ?hy1⟩) (fun _ => hHeld) ?_
  case hy1 => (intro w hSw; go_simp; try with_reducible rfl)
  try simp only [Act.put, List.setIfInBounds_toArray, List.set_cons_zero, List.set_cons_succ]
  refine wpAnyK_take 1 [4] (v := ?v2) rfl (by kernel_rfl) (fun _ _ _ h => h) (Or.inl ⟨by rfl, ?hy2⟩) hHeld ?_
  case hy2 => (intro w hSw; (try dsimp only at hSw); go_simp; try with_reducible rfl)
  try simp only [Act.put, List.setIfInBounds_toArray, List.set_cons_zero, List.set_cons_succ]
  refine wpAnyK_take0 2 (v := ?v3) rfl (by kernel_rfl) (fun _ _ _ h => h) (Or.inl ⟨by rfl, ?hy3⟩) (fun _ => hHeld) ?_
  case hy3 => (intro w hSw; go_simp; try with_reducible rfl)
  try simp only [Act.put, List.setIfInBounds_toArray, List.set_cons_zero, List.set_cons_succ]
  refine wpAnyK_step 3 rfl (by kernel_rfl) (fun K hK => ?_)
  go_simp
  refine (order_v hk _).mono ?_
  rintro e w1 ⟨nv, rfl, mN, hB⟩
  have HF1 : Hid (Fm w w1 [(41, [.slice x0 x1 x2, .slice y0 y1 y2, .bool inf])] [] []) := HFd.out.below hB
  have HN1 : Hid (Nk w1 nv n 384) := mN.nk
  obtain ⟨n0, n1, n2, rfl⟩ := mN.nk.sl
  clear hB mN
  try dsimp only
  refine hK.out _ _ ?hk4 ?_
  case hk4 => exact fun _ => HF1.out.cell 0 0 (Nat.le_of_ble_eq_true rfl) (Nat.le_of_ble_eq_true rfl)
  have hHeld : ((fun (w' : World) => w'.cell? ⟨w.heap.size, 0, none⟩ = some (.slice x0 x1 x2))) _ := HF1.out.cell 0 0 (Nat.le_of_ble_eq_true rfl) (Nat.le_of_ble_eq_true rfl)
  clear hK K
  try simp only [Act.put, List.setIfInBounds_toArray, List.set_cons_zero, List.set_cons_succ]
  refine wpAnyK_step 4 rfl (by kernel_rfl) (fun K hK => ?_)
  go_simp
  refine (vdiv _ _ X n _ _ _ (HN.out.1.below HF1.out.bel (Nat.le_refl _)) HN1.out.1 (by decide) (by decide) Hn0.out).mono ?_
  rintro e w2 ⟨q, r, rfl, hq, hr⟩
  have HF2 : Hid (Fm w w2 [(41, [.slice x0 x1 x2, .slice y0 y1 y2, .bool inf])] [] []) := HF1.out.below hq.2.2
  have HR : Hid (Nu w2 r (X % n)) := New.vl hr
  obtain ⟨q0, q1, q2, rfl⟩ := hq.vl.shape
  obtain ⟨r0, r1, r2, rfl⟩ := hr.vl.shape
  clear hq hr
  try dsimp only
  refine hK.out _ _ ?hk5 ?_
  case hk5 => exact fun _ => HF2.out.cell 0 0 (Nat.le_of_ble_eq_true rfl) (Nat.le_of_ble_eq_true rfl)
  have hHeld : ((fun (w' : World) => w'.cell? ⟨w.heap.size, 0, none⟩ = some (.slice x0 x1 x2))) _ := HF2.out.cell 0 0 (Nat.le_of_ble_eq_true rfl) (Nat.le_of_ble_eq_true rfl)
  clear hK K
  try simp only [Act.put, List.setIfInBounds_toArray, List.set_cons_zero, List.set_cons_succ]
  refine wpAnyK_take0 5 (v := ?v6) rfl (by kernel_rfl) (fun _ _ _ h => h) (Or.inl ⟨by rfl, ?hy6⟩) (fun _ => hHeld) ?_
  case hy6 => (intro w hSw; go_simp; try with_reducible rfl)
  try simp only [Act.put, List.setIfInBounds_toArray, List.set_cons_zero, List.set_cons_succ]
  refine wpAnyK_take0 6 (v := ?v7) rfl (by kernel_rfl) (fun _ _ _ h => h) (Or.inl ⟨by rfl, ?hy7⟩) (fun _ => hHeld) ?_
  case hy7 => (intro w hSw; go_simp; try with_reducible rfl)
  try simp only [Act.put, List.setIfInBounds_toArray, List.set_cons_zero, List.set_cons_succ]
  refine wpAnyK_take0 7 (v := ?v8) rfl (by kernel_rfl) (fun _ _ _ h => h) (Or.inl ⟨by rfl, ?hy8⟩) (fun _ => hHeld) ?_
  case hy8 => (intro w hSw; go_simp; try with_reducible rfl)
  try simp only [Act.put, List.setIfInBounds_toArray, List.set_cons_zero, List.set_cons_succ]
  refine wpAnyK_take0 8 (v := ?v9) rfl (by kernel_rfl) (fun _ _ _ h => h) (Or.inl ⟨by rfl, ?hy9⟩) (fun _ => hHeld) ?_
  case hy9 => (intro w hSw; go_simp; try with_reducible rfl)
  try simp only [Act.put, List.setIfInBounds_toArray, List.set_cons_zero, List.set_cons_succ]
  refine wpAnyK_take0 9 (v := ?v10) rfl (by kernel_rfl) (fun _ _ _ h => h) (Or.inl ⟨by rfl, ?hy10⟩) (fun _ => hHeld) ?_
  case hy10 => (intro w hSw; go_simp; try with_reducible rfl)
  try simp only [Act.put, List.setIfInBounds_toArray, List.set_cons_zero, List.set_cons_succ]
  refine wpAnyK_take0 10 (v := ?v11) rfl (by kernel_rfl) (fun _ _ _ h => h) (Or.inl ⟨by rfl, ?hy11⟩) (fun _ => hHeld) ?_
  case hy11 => (intro w hSw; go_simp; try with_reducible rfl)
  try simp only [Act.put, List.setIfInBounds_toArray, List.set_cons_zero, List.set_cons_succ]
  refine wpAnyK_take0 11 (v := ?v12) rfl (by kernel_rfl) (fun _ _ _ h => h) (Or.inl ⟨by rfl, ?hy12⟩) (fun _ => hHeld) ?_
  case hy12 => (intro w hSw; go_simp; try with_reducible rfl)
  try simp only [Act.put, List.setIfInBounds_toArray, List.set_cons_zero, List.set_cons_succ]
  refine wpAnyK_done (by kernel_rfl) ?_ _
  have C := vcmp _ _ (X % n) R _ _ w2 HR.out (HN.out.2.below HF2.out.bel (Nat.le_refl _)) (by decide) (by decide)
  obtain ⟨z, Hz⟩ : ∃ z, Hid (z = cmp3 ((X % n : Nat) : Int) ((R : Nat) : Int)) := ⟨_, rfl⟩
  rw [← Hz.out] at C
  have hz : Hid ((z == 0) = decide (X % n = R)) := (by rw [Hz.out, cmp3_zero] : (z == 0) = decide (X % n = R))
  go_wp2_with fail
  refine C.mono ?_
  rintro e w3 ⟨rfl, q, rfl⟩
  clear C
  go_wp2
  go_ret
  exact ⟨by rw [← hz.out]; rfl, below_drewN HF2.out.bel q⟩
end Go.Proofs.YtghfoppojdkhkaaGreatDoor

namespace Go.Proofs.YtghfoppojdkhkaaGreatDoor
open Go.RowKit

set_option maxRecDepth 100000

theorem Kv.pmn {c s : Int} {p b n gx gy : Nat} (hk : Kv c p b n gx gy s) : Pm n := by cases hk <;> exact ⟨by decide +kernel, by decide +kernel⟩
theorem inz_one {d n i j : Nat} (h1 : Inz d n i) (h2 : Inz d n j) : i = j := by
  have e1 : (i * (d * j)) % n = i := by rw [Nat.mul_mod, h2.2, Nat.mul_one, Nat.mod_mod, Nat.mod_eq_of_lt h1.1]
  have e2 : (j * (d * i)) % n = j := by rw [Nat.mul_mod, h1.2, Nat.mul_one, Nat.mod_mod, Nat.mod_eq_of_lt h2.1]
  have e3 : i * (d * j) = j * (d * i) := by rw [Nat.mul_left_comm, Nat.mul_left_comm j, Nat.mul_comm i j]
  rw [← e1, e3, e2]
theorem iv_is {d n i : Nat} (h : Inz d n i) : iv n d = i := by
  have hx : ∃ i, Inz d n i := ⟨i, h⟩
  unfold iv
  rw [dif_pos hx]
  exact inz_one (Classical.choose_spec hx) h
theorem iv_inz {d n : Nat} (hp : Prim n) (h0 : 0 < d) (h1 : d < n) : Inz d n (iv n d) := by
  have hd : ¬ (n : Int) ∣ (d : Int) := fun h => by
    have := Nat.le_of_dvd h0 (Int.natCast_dvd_natCast.1 h)
    omega
  obtain ⟨t, ht⟩ := hp.invI hd
  have hn0 : 0 < n := by omega
  have h2 : (n : Int) ∣ ((d * md n t : Nat) : Int) - (1 : Nat) := by
    have := md_dvd hn0 t
    rw [Int.natCast_mul]
    exact lc2 1 (d : Int) ht this (by grind)
  have h3 : (d * md n t) % n = 1 % n := by
    have h4 := Int.emod_eq_emod_iff_emod_sub_eq_zero.2 (Int.emod_eq_zero_of_dvd h2)
    exact_mod_cast h4
  have hi : Inz d n (md n t) := ⟨md_lt hn0 t, by rw [h3, Nat.mod_eq_of_lt hp.1]⟩
  rw [iv_is hi]
  exact hi
theorem invn_v {c s : Int} {p b n gx gy : Nat} (hk : Kv c p b n gx gy s) (dv nv : Value) (D : Nat) (w : World) (hd : Nu w dv D) (hn : Nu w nv n) (h0 : 0 < D) (h1 : D < n) : Calls Tryz.prog 27 #[dv, nv] w fun e w' => ∃ r, e = .returned (.tuple #[r, .int .i64 0]) ∧ Rk w w' r (iv n D) 384 := by
  refine (minv_v dv nv D n w hd hn).mono ?_
  have hr := rcode_inv hk.pmn (hk.pmn.lt h1)
  have hi := iv_inz hk.prn h0 h1
  rintro e w' (⟨h, _⟩ | ⟨_, hg, _⟩ | ⟨_, Y, r, hY, rfl, h⟩)
  · exact absurd hr h
  · refine absurd ?_ hg
    rw [Nat.gcd_comm]
    exact hk.prn.cop fun h => by have := Nat.le_of_dvd h0 h; omega
  · rw [← iv_is hY] at h
    exact ⟨r, rfl, h, hk.pmn.lt hi.1⟩
theorem muln_v {c s : Int} {p b n gx gy : Nat} (hk : Kv c p b n gx gy s) (a b_ nv : Value) (A B : Nat) (w : World) (ha : Nk w a A 384) (hb : Nk w b_ B 384) (hn : Nu w nv n) : Calls Tryz.prog 28 #[a, b_, nv] w fun e w' => ∃ r, e = .returned (.tuple #[r, .int .i64 0]) ∧ Rk w w' r (A * B % n) 384 := by
  have C := mmul_v a b_ nv A B n w ha.1 hb.1 hn
  rw [rcode_fine hk.pmn.1 hk.pmn.lt4 ha.2 hb.2 (by decide) (by decide)] at C
  refine C.mono ?_
  rintro e w' (⟨h, _⟩ | ⟨_, r, h1, h2⟩)
  · exact absurd rfl h
  · exact ⟨r, h1, h2, hk.pmn.lt (Nat.mod_lt _ (by have := hk.pmn.1; omega))⟩
theorem subn_v {c s : Int} {p b n gx gy : Nat} (hk : Kv c p b n gx gy s) (b_ nv : Value) (B : Nat) (w : World) (hb : Nk w b_ B 384) (hn : Nu w nv n) : Calls Tryz.prog 44 #[.slice none 0 0, b_, nv] w fun e w' => ∃ r, e = .returned (.tuple #[r, .int .i64 0]) ∧ Rk w w' r (fS n 0 B) 384 := by
  have C := msub_v (.slice none 0 0) b_ nv 0 B n w (Nk.none _ 384).1 hb.1 hn
  rw [rcode_fine (A := 0) (k := 384) hk.pmn.1 hk.pmn.lt4 (Nk.none w 384).2 hb.2 (by decide) (by decide)] at C
  refine C.mono ?_
  rintro e w' (⟨h, _⟩ | ⟨_, r, h1, h2⟩)
  · exact absurd rfl h
  · exact ⟨r, h1, h2, hk.pmn.lt (fS_lt hk.pmn _ _)⟩
theorem fS_mn {n : Nat} (hp : Pm n) (z : Nat) : fS n 0 z = mn n z := by
  have h1 := hp.1
  have h2 := Nat.mod_lt z (show 0 < n by omega)
  unfold fS lessV mn
  rw [Nat.zero_mod]
  generalize z % n = y at *
  split
  · rw [Nat.mod_eq_of_lt (by omega)]; omega
  · obtain rfl : y = 0 := by omega
    simp
theorem Fm.bare {w wN : World} {bs : List (TypeId × List Value)} {A M : List (Value × Nat × Nat)} (h : Fm w wN bs A M) : Fm w wN bs A [] := ⟨h.bx, h.ar, fun q hq => (by cases hq), .nil, h.sz, h.bel⟩
theorem Pa.below {w w1 w2 : World} {v : Value} {P : Pt} (h : Pa w w1 v P) (hb : Below w1.heap.size w1 w2) : Pa w w2 v P := by
  cases P with
  | O => exact ⟨h.1, h.2.trans (hb.mono h.2.size)⟩
  | A a c =>
    obtain ⟨⟨x, y, rfl, m1, m2, ma⟩, h2⟩ := h
    exact ⟨⟨x, y, rfl, m1.below hb, m2.below hb, ma⟩, h2.trans (hb.mono h2.size)⟩
set_option maxHeartbeats 8000000 in
theorem ejoint_v {c s : Int} {p b n gx gy : Nat} (hk : Kv c p b n gx gy s) (a b_ d x y : Value) (A B D X Y : Nat) (inf : Bool) (w : World) (ha : Nk w a A 384) (hb : Nk w b_ B 384) (hd : Nu w d D) (hx : Nu w x X) (hy : Nu w y Y) (ho : onB p b X Y inf = true) (h0 : 0 < D) (h1 : D < n) :
    Calls Tryz.prog 33 #[.int .i64 c, a, b_, d, .agg #[x, y, .bool inf]] w fun e w' => ∃ r, e = .returned r ∧ Pa w w' r (jt p n (.A gx gy) A B (iv n D) (ptO X Y inf)) := by
  obtain ⟨a0, a1, a2, rfl⟩ := ha.sl
  obtain ⟨b0, b1, b2, rfl⟩ := hb.sl
  obtain ⟨d0, d1, d2, rfl⟩ := hd.shape
  obtain ⟨x0, x1, x2, rfl⟩ := hx.shape
  obtain ⟨y0, y1, y2, rfl⟩ := hy.shape
  have HN : Hid (Nk w (.slice a0 a1 a2) A 384 ∧ Nk w (.slice b0 b1 b2) B 384 ∧ Nu w (.slice d0 d1 d2) D ∧ Nu w (.slice x0 x1 x2) X ∧ Nu w (.slice y0 y1 y2) Y) := ⟨ha, hb, hd, hx, hy⟩
  have HF0 : Hid (Fm w ((w.alloc (.cells #[.slice x0 x1 x2, .slice y0 y1 y2, .bool inf] 41)).alloc (.cells #[.slice none 0 0, .slice none 0 0, .bool false] 41)) [(41, [.slice x0 x1 x2, .slice y0 y1 y2, .bool inf]), (41, [.slice none 0 0, .slice none 0 0, .bool false])] [] []) := (((Fm.nil (w := w) (A := []) ar_nil).push (by simp) 41 [.slice x0 x1 x2, .slice y0 y1 y2, .bool inf]).push (by simp) 41 [.slice none 0 0, .slice none 0 0, .bool false])
  clear ha hb hd hx hy
  go_enter Tryz.func33, Tryz.ntmps33
  go_wp2_with fail
  generalize ((w.alloc (.cells #[.slice x0 x1 x2, .slice y0 y1 y2, .bool inf] 41)).alloc (.cells #[.slice none 0 0, .slice none 0 0, .bool false] 41)) = w0 at *
  refine (order_v hk _).mono ?_
  rintro e w1 ⟨nv, rfl, mN, hB⟩
  have HF1 : Hid (Fm w w1 [(41, [.slice x0 x1 x2, .slice y0 y1 y2, .bool inf]), (41, [.slice none 0 0, .slice none 0 0, .bool false])] [] []) := HF0.out.below hB
  have HO1 : Hid (Nu w1 nv n) := mN.nk.1
  obtain ⟨n0, n1, n2, rfl⟩ := mN.nk.sl
  clear hB mN
  go_wp2_with fail
  refine (invn_v hk _ _ D w1 (HN.out.2.2.1.below HF1.out.bel (Nat.le_refl _)) HO1.out h0 h1).mono ?_
  rintro e w2 ⟨i, rfl, h⟩
  have HF2 : Hid (Fm w w2 [(41, [.slice x0 x1 x2, .slice y0 y1 y2, .bool inf]), (41, [.slice none 0 0, .slice none 0 0, .bool false])] [] [(i, iv n D, 384)]) := HF1.out.step h
  have HO2 : Hid (Nu w2 (.slice n0 n1 n2) n) := HO1.out.below h.bel (Nat.le_refl _)
  obtain ⟨i0, i1, i2, rfl⟩ := h.sl
  clear h
  go_wp2_with fail
  refine (muln_v hk _ _ _ A (iv n D) w2 (HN.out.1.below HF2.out.bel (Nat.le_refl _)) (HF2.out.got 0 (Nat.le_of_ble_eq_true rfl)) HO2.out).mono ?_
  rintro e w3 ⟨u, rfl, h⟩
  have HF3 : Hid (Fm w w3 [(41, [.slice x0 x1 x2, .slice y0 y1 y2, .bool inf]), (41, [.slice none 0 0, .slice none 0 0, .bool false])] [] [(u, A * iv n D % n, 384), (.slice i0 i1 i2, iv n D, 384)]) := HF2.out.step h
  have HO3 : Hid (Nu w3 (.slice n0 n1 n2) n) := HO2.out.below h.bel (Nat.le_refl _)
  obtain ⟨u0, u1, u2, rfl⟩ := h.sl
  clear h
  go_wp2_with fail
  refine (muln_v hk _ _ _ B (iv n D) w3 (HN.out.2.1.below HF3.out.bel (Nat.le_refl _)) (HF3.out.got 1 (Nat.le_of_ble_eq_true rfl)) HO3.out).mono ?_
  rintro e w4 ⟨v, rfl, h⟩
  have HF4 : Hid (Fm w w4 [(41, [.slice x0 x1 x2, .slice y0 y1 y2, .bool inf]), (41, [.slice none 0 0, .slice none 0 0, .bool false])] [] [(v, B * iv n D % n, 384), (.slice u0 u1 u2, A * iv n D % n, 384), (.slice i0 i1 i2, iv n D, 384)]) := HF3.out.step h
  obtain ⟨v0, v1, v2, rfl⟩ := h.sl
  clear h
  have k0 : w4.cell? ⟨w.heap.size, 0, none⟩ = some (.slice x0 x1 x2) := HF4.out.cell 0 0 (Nat.le_of_ble_eq_true rfl) (Nat.le_of_ble_eq_true rfl)
  have k1 : w4.cell? ⟨w.heap.size, 1, none⟩ = some (.slice y0 y1 y2) := HF4.out.cell 0 1 (Nat.le_of_ble_eq_true rfl) (Nat.le_of_ble_eq_true rfl)
  have k2 : w4.cell? ⟨w.heap.size, 2, none⟩ = some (.bool inf) := HF4.out.cell 0 2 (Nat.le_of_ble_eq_true rfl) (Nat.le_of_ble_eq_true rfl)
  go_wp2_with fail
  clear k0 k1 k2
  have C := joint_ok hk _ _ _ _ (A * iv n D % n) (B * iv n D % n) X Y inf w4 (HF4.out.got 1 (Nat.le_of_ble_eq_true rfl)).1 (HF4.out.got 0 (Nat.le_of_ble_eq_true rfl)).1 (HN.out.2.2.2.1.below HF4.out.bel (Nat.le_refl _)) (HN.out.2.2.2.2.below HF4.out.bel (Nat.le_refl _)) ho (by have := bl_pw (V := A * iv n D % n) (HF4.out.got 1 (Nat.le_of_ble_eq_true rfl)).2; omega) (by have := bl_pw (V := B * iv n D % n) (HF4.out.got 0 (Nat.le_of_ble_eq_true rfl)).2; omega)
  rw [Nat.mod_mod, Nat.mod_mod] at C
  refine C.mono ?_
  clear C
  rintro e w5 ⟨r, rfl, hPa⟩
  have HP : Hid (Pa w4 w5 r (jt p n (.A gx gy) A B (iv n D) (ptO X Y inf))) := hPa
  obtain ⟨r0, r1, r2, t0, t1, t2, jf, rfl⟩ := hPa.shape
  have hB := hPa.bel
  have HF5 : Hid (Fm w (w5.alloc (.cells #[.slice r0 r1 r2, .slice t0 t1 t2, .bool jf] 41)) [(41, [.slice x0 x1 x2, .slice y0 y1 y2, .bool inf]), (41, [.slice none 0 0, .slice none 0 0, .bool false])] [] []) := (HF4.out.below hB).bare.below (alloc_below _ _)
  clear hPa hB
  have c0 : (w5.alloc (.cells #[.slice r0 r1 r2, .slice t0 t1 t2, .bool jf] 41)).cell? ⟨w.heap.size + 1, 0, none⟩ = some (.slice none 0 0) := HF5.out.cell 1 0 (Nat.le_of_ble_eq_true rfl) (Nat.le_of_ble_eq_true rfl)
  have c1 : (w5.alloc (.cells #[.slice r0 r1 r2, .slice t0 t1 t2, .bool jf] 41)).cell? ⟨w.heap.size + 1, 1, none⟩ = some (.slice none 0 0) := HF5.out.cell 1 1 (Nat.le_of_ble_eq_true rfl) (Nat.le_of_ble_eq_true rfl)
  have c2 : (w5.alloc (.cells #[.slice r0 r1 r2, .slice t0 t1 t2, .bool jf] 41)).cell? ⟨w.heap.size + 1, 2, none⟩ = some (.bool false) := HF5.out.cell 1 2 (Nat.le_of_ble_eq_true rfl) (Nat.le_of_ble_eq_true rfl)
  have f0 : (w5.alloc (.cells #[.slice r0 r1 r2, .slice t0 t1 t2, .bool jf] 41)).frozen? ⟨w.heap.size + 1, 0, none⟩ = false := HF5.out.frozen 1 0 (Nat.le_of_ble_eq_true rfl)
  have f1 : (w5.alloc (.cells #[.slice r0 r1 r2, .slice t0 t1 t2, .bool jf] 41)).frozen? ⟨w.heap.size + 1, 1, none⟩ = false := HF5.out.frozen 1 1 (Nat.le_of_ble_eq_true rfl)
  have f2 : (w5.alloc (.cells #[.slice r0 r1 r2, .slice t0 t1 t2, .bool jf] 41)).frozen? ⟨w.heap.size + 1, 2, none⟩ = false := HF5.out.frozen 1 2 (Nat.le_of_ble_eq_true rfl)
  go_wp2
  (try simp only [Exit.inBlock, Exit.then])
  have hb := (((But.refl (w5.alloc (.cells #[.slice r0 r1 r2, .slice t0 t1 t2, .bool jf] 41)) (w.heap.size + 1)).set 0 (.slice r0 r1 r2)).set 1 (.slice t0 t1 t2)).set 2 (.bool jf)
  have hsz := HF4.out.sz
  simp only [List.length_cons, List.length_nil] at hsz
  refine bodyPost_ret (v := .agg #[.slice r0 r1 r2, .slice t0 t1 t2, .bool jf]) ?_ rfl ⟨_, rfl, (HP.out.below (alloc_below _ _)).later HF4.out.bel hb (by omega) (by omega)⟩
  rw [results_cell rfl]; go_simp
end Go.Proofs.YtghfoppojdkhkaaGreatDoor
