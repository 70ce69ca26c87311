import Derived.Test.YtjpjepfmphlneaaGreatDoorDK
namespace Go.Proofs.YtjpjepfmphlneaaGreatDoor
open Go.RowKit

set_option maxRecDepth 100000

/-- The last limb of a number that is not nought. -/
theorem dg_last {V : Nat} (h : 0 < V) : 0 < (dg Bs V).length ∧ ∃ x, (dg Bs V)[(dg Bs V).length - 1]? = some x ∧ x ≠ 0 := by
  have hne : dg Bs V ≠ [] := fun e => by
    have := dg_nv Bs_two V
    rw [e] at this
    exact absurd this.symm (by show V ≠ 0; omega)
  have hp := List.length_pos_iff.2 hne
  refine ⟨hp, (dg Bs V)[(dg Bs V).length - 1], List.getElem?_eq_getElem _, ?_⟩
  have h2 := dg_top Bs_two V ((dg Bs V).length - 1) (by omega)
  rw [List.getD_eq_getElem?_getD, List.getElem?_eq_getElem (by omega), Option.getD_some] at h2
  exact h2
/-- A number without noughts on top, as the laws look at it: its slice, its length, its last limb. -/
theorem nm_open {w : World} {v : Value} {V : Nat} (h : Nm w v (dg Bs V)) (h0 : 0 < V) : ∃ g off n c x : Nat, v = .slice (some ⟨g, off, none⟩) (n + 1) c ∧ n + 1 = (dg Bs V).length ∧ w.cell? ⟨g, off + n, none⟩ = some (.int .u32 (x : Int)) ∧ x ≠ 0 := by
  obtain ⟨ao, c, rfl, hc, hr, hs⟩ := h
  obtain ⟨hp, x, hx, hx0⟩ := dg_last h0
  rcases hr with hr | ⟨g, off, rfl, hg, hcell⟩
  · rw [hr] at hp; simp at hp
  · refine ⟨g, off, (dg Bs V).length - 1, c, x, by rw [Nat.sub_add_cancel hp], Nat.sub_add_cancel hp, ?_, hx0⟩
    have h2 := hcell ((dg Bs V).length - 1) (by omega)
    rw [h2, List.getD_eq_getElem?_getD, hx]
    rfl
theorem nm_nil {w : World} {v : Value} {V : Nat} (h : Nm w v (dg Bs V)) (h0 : V = 0) : ∃ ao c, v = .slice ao 0 c := by
  subst h0
  obtain ⟨ao, c, rfl, _⟩ := h
  exact ⟨ao, c, by rw [dg_zero]; rfl⟩
theorem Nm.nud {w : World} {v : Value} {V : Nat} (h : Nm w v (dg Bs V)) (hl : (dg Bs V).length ≤ 3000000) : Nu w v V := ⟨_, h, dg_nv Bs_two V, hl⟩
set_option maxHeartbeats 20000000 in
theorem lon_inf (x y : Value) (X Y : Nat) (w : World) (hx : Nm w x (dg Bs X)) (hy : Nm w y (dg Bs Y)) (lx : (dg Bs X).length ≤ 3000000) (ly : (dg Bs Y).length ≤ 3000000) : Calls Tryz.prog 16 #[.agg #[x, y, .bool true]] w fun e w' => e = .returned (.bool false) ∧ Below w.heap.size w w' := by
  obtain ⟨x0, x1, x2, rfl⟩ := (hx.nud lx).shape
  obtain ⟨y0, y1, y2, rfl⟩ := (hy.nud ly).shape
  have HF0 : Hid (Fm w (w.alloc (.cells #[.slice x0 x1 x2, .slice y0 y1 y2, .bool true] 31)) [(31, [.slice x0 x1 x2, .slice y0 y1 y2, .bool true])] [(.slice x0 x1 x2, X, X), (.slice y0 y1 y2, Y, Y)] []) := ((Fm.nil (w := w) (A := [(.slice x0 x1 x2, X, X), (.slice y0 y1 y2, Y, Y)]) (ar_cons ⟨hx.nud lx, Nat.lt_two_pow_self⟩ (ar_cons ⟨hy.nud ly, Nat.lt_two_pow_self⟩ ar_nil))).push (by simp) 31 [.slice x0 x1 x2, .slice y0 y1 y2, .bool true])
  clear hx hy lx ly
  go_enter Tryz.func16, Tryz.ntmps16
  go_wp2_with fail
  generalize (w.alloc (.cells #[.slice x0 x1 x2, .slice y0 y1 y2, .bool true] 31)) = w0 at *
  refine (lprime_v _).mono ?_
  rintro e w1 ⟨r1, rfl, h⟩
  have HF1 : Hid (Fm w w1 [(31, [.slice x0 x1 x2, .slice y0 y1 y2, .bool true])] [(.slice x0 x1 x2, X, X), (.slice y0 y1 y2, Y, Y)] [(r1, eP, 256)]) := HF0.out.step h
  clear h
  have c0_0 : w1.cell? ⟨w.heap.size, 0, none⟩ = some (.slice x0 x1 x2) := HF1.out.cell 0 0 (okb rfl) (okb rfl)
  have c0_1 : w1.cell? ⟨w.heap.size, 1, none⟩ = some (.slice y0 y1 y2) := HF1.out.cell 0 1 (okb rfl) (okb rfl)
  have c0_2 : w1.cell? ⟨w.heap.size, 2, none⟩ = some (.bool true) := HF1.out.cell 0 2 (okb rfl) (okb rfl)
  go_wp2
  go_ret
  exact ⟨rfl, HF1.out.bel⟩
set_option maxHeartbeats 20000000 in
theorem lon_e (x y : Value) (X Y : Nat) (w : World) (hx : Nm w x (dg Bs X)) (hy : Nm w y (dg Bs Y)) (lx : (dg Bs X).length ≤ 3000000) (ly : (dg Bs Y).length ≤ 3000000) (hX : X = eP) : Calls Tryz.prog 16 #[.agg #[x, y, .bool false]] w fun e w' => e = .returned (.bool false) ∧ Below w.heap.size w w' := by
  obtain ⟨x0, x1, x2, rfl⟩ := (hx.nud lx).shape
  obtain ⟨y0, y1, y2, rfl⟩ := (hy.nud ly).shape
  have HF0 : Hid (Fm w (w.alloc (.cells #[.slice x0 x1 x2, .slice y0 y1 y2, .bool false] 31)) [(31, [.slice x0 x1 x2, .slice y0 y1 y2, .bool false])] [(.slice x0 x1 x2, X, X), (.slice y0 y1 y2, Y, Y)] []) := ((Fm.nil (w := w) (A := [(.slice x0 x1 x2, X, X), (.slice y0 y1 y2, Y, Y)]) (ar_cons ⟨hx.nud lx, Nat.lt_two_pow_self⟩ (ar_cons ⟨hy.nud ly, Nat.lt_two_pow_self⟩ ar_nil))).push (by simp) 31 [.slice x0 x1 x2, .slice y0 y1 y2, .bool false])
  have HX : Hid (X = eP) := hX
  clear hx hy lx ly hX
  go_enter Tryz.func16, Tryz.ntmps16
  go_wp2_with fail
  generalize (w.alloc (.cells #[.slice x0 x1 x2, .slice y0 y1 y2, .bool false] 31)) = w0 at *
  refine (lprime_v _).mono ?_
  rintro e w1 ⟨r1, rfl, h⟩
  have HF1 : Hid (Fm w w1 [(31, [.slice x0 x1 x2, .slice y0 y1 y2, .bool false])] [(.slice x0 x1 x2, X, X), (.slice y0 y1 y2, Y, Y)] [(r1, eP, 256)]) := HF0.out.step h
  clear h
  have c0_0 : w1.cell? ⟨w.heap.size, 0, none⟩ = some (.slice x0 x1 x2) := HF1.out.cell 0 0 (okb rfl) (okb rfl)
  have c0_1 : w1.cell? ⟨w.heap.size, 1, none⟩ = some (.slice y0 y1 y2) := HF1.out.cell 0 1 (okb rfl) (okb rfl)
  have c0_2 : w1.cell? ⟨w.heap.size, 2, none⟩ = some (.bool false) := HF1.out.cell 0 2 (okb rfl) (okb rfl)
  go_wp2_with fail
  refine (vcmp _ _ X eP _ _ _ (HF1.out.arg 0 (okb rfl)).1 (HF1.out.got 0 (okb rfl)).1 (by decide) (by decide)).mono ?_
  rintro e w2 ⟨rfl, q, hq⟩
  have HF2 : Hid (Fm w w2 [(31, [.slice x0 x1 x2, .slice y0 y1 y2, .bool false])] [(.slice x0 x1 x2, X, X), (.slice y0 y1 y2, Y, Y)] [(r1, eP, 256)]) := (by rw [hq]; exact HF1.out.drewN q : Fm w w2 [(31, [.slice x0 x1 x2, .slice y0 y1 y2, .bool false])] [(.slice x0 x1 x2, X, X), (.slice y0 y1 y2, Y, Y)] [(r1, eP, 256)])
  clear hq
  rw [cmp3_eq (show ((X : Nat) : Int) = ((eP : Nat) : Int) from congrArg Int.ofNat HX.out)]
  clear c0_0 c0_1 c0_2
  go_wp2
  go_ret
  exact ⟨rfl, HF2.out.bel⟩
set_option maxHeartbeats 20000000 in
theorem lon_g (x y : Value) (X Y : Nat) (w : World) (hx : Nm w x (dg Bs X)) (hy : Nm w y (dg Bs Y)) (lx : (dg Bs X).length ≤ 3000000) (ly : (dg Bs Y).length ≤ 3000000) (hX : eP < X) : Calls Tryz.prog 16 #[.agg #[x, y, .bool false]] w fun e w' => e = .returned (.bool false) ∧ Below w.heap.size w w' := by
  obtain ⟨x0, x1, x2, rfl⟩ := (hx.nud lx).shape
  obtain ⟨y0, y1, y2, rfl⟩ := (hy.nud ly).shape
  have HF0 : Hid (Fm w (w.alloc (.cells #[.slice x0 x1 x2, .slice y0 y1 y2, .bool false] 31)) [(31, [.slice x0 x1 x2, .slice y0 y1 y2, .bool false])] [(.slice x0 x1 x2, X, X), (.slice y0 y1 y2, Y, Y)] []) := ((Fm.nil (w := w) (A := [(.slice x0 x1 x2, X, X), (.slice y0 y1 y2, Y, Y)]) (ar_cons ⟨hx.nud lx, Nat.lt_two_pow_self⟩ (ar_cons ⟨hy.nud ly, Nat.lt_two_pow_self⟩ ar_nil))).push (by simp) 31 [.slice x0 x1 x2, .slice y0 y1 y2, .bool false])
  have HX : Hid (eP < X) := hX
  clear hx hy lx ly hX
  go_enter Tryz.func16, Tryz.ntmps16
  go_wp2_with fail
  generalize (w.alloc (.cells #[.slice x0 x1 x2, .slice y0 y1 y2, .bool false] 31)) = w0 at *
  refine (lprime_v _).mono ?_
  rintro e w1 ⟨r1, rfl, h⟩
  have HF1 : Hid (Fm w w1 [(31, [.slice x0 x1 x2, .slice y0 y1 y2, .bool false])] [(.slice x0 x1 x2, X, X), (.slice y0 y1 y2, Y, Y)] [(r1, eP, 256)]) := HF0.out.step h
  clear h
  have c0_0 : w1.cell? ⟨w.heap.size, 0, none⟩ = some (.slice x0 x1 x2) := HF1.out.cell 0 0 (okb rfl) (okb rfl)
  have c0_1 : w1.cell? ⟨w.heap.size, 1, none⟩ = some (.slice y0 y1 y2) := HF1.out.cell 0 1 (okb rfl) (okb rfl)
  have c0_2 : w1.cell? ⟨w.heap.size, 2, none⟩ = some (.bool false) := HF1.out.cell 0 2 (okb rfl) (okb rfl)
  go_wp2_with fail
  refine (vcmp _ _ X eP _ _ _ (HF1.out.arg 0 (okb rfl)).1 (HF1.out.got 0 (okb rfl)).1 (by decide) (by decide)).mono ?_
  rintro e w2 ⟨rfl, q, hq⟩
  have HF2 : Hid (Fm w w2 [(31, [.slice x0 x1 x2, .slice y0 y1 y2, .bool false])] [(.slice x0 x1 x2, X, X), (.slice y0 y1 y2, Y, Y)] [(r1, eP, 256)]) := (by rw [hq]; exact HF1.out.drewN q : Fm w w2 [(31, [.slice x0 x1 x2, .slice y0 y1 y2, .bool false])] [(.slice x0 x1 x2, X, X), (.slice y0 y1 y2, Y, Y)] [(r1, eP, 256)])
  clear hq
  rw [cmp3_gt (show ((eP : Nat) : Int) < ((X : Nat) : Int) from Int.ofNat_lt.2 HX.out)]
  clear c0_0 c0_1 c0_2
  go_wp2
  go_ret
  exact ⟨rfl, HF2.out.bel⟩
set_option maxHeartbeats 20000000 in
theorem lon_le (x y : Value) (X Y : Nat) (w : World) (hx : Nm w x (dg Bs X)) (hy : Nm w y (dg Bs Y)) (lx : (dg Bs X).length ≤ 3000000) (ly : (dg Bs Y).length ≤ 3000000) (hX : X < eP) (hY : Y = eP) : Calls Tryz.prog 16 #[.agg #[x, y, .bool false]] w fun e w' => e = .returned (.bool false) ∧ Below w.heap.size w w' := by
  obtain ⟨x0, x1, x2, rfl⟩ := (hx.nud lx).shape
  obtain ⟨y0, y1, y2, rfl⟩ := (hy.nud ly).shape
  have HF0 : Hid (Fm w (w.alloc (.cells #[.slice x0 x1 x2, .slice y0 y1 y2, .bool false] 31)) [(31, [.slice x0 x1 x2, .slice y0 y1 y2, .bool false])] [(.slice x0 x1 x2, X, X), (.slice y0 y1 y2, Y, Y)] []) := ((Fm.nil (w := w) (A := [(.slice x0 x1 x2, X, X), (.slice y0 y1 y2, Y, Y)]) (ar_cons ⟨hx.nud lx, Nat.lt_two_pow_self⟩ (ar_cons ⟨hy.nud ly, Nat.lt_two_pow_self⟩ ar_nil))).push (by simp) 31 [.slice x0 x1 x2, .slice y0 y1 y2, .bool false])
  have HX : Hid (X < eP) := hX
  have HY : Hid (Y = eP) := hY
  clear hx hy lx ly hX hY
  go_enter Tryz.func16, Tryz.ntmps16
  go_wp2_with fail
  generalize (w.alloc (.cells #[.slice x0 x1 x2, .slice y0 y1 y2, .bool false] 31)) = w0 at *
  refine (lprime_v _).mono ?_
  rintro e w1 ⟨r1, rfl, h⟩
  have HF1 : Hid (Fm w w1 [(31, [.slice x0 x1 x2, .slice y0 y1 y2, .bool false])] [(.slice x0 x1 x2, X, X), (.slice y0 y1 y2, Y, Y)] [(r1, eP, 256)]) := HF0.out.step h
  clear h
  have c0_0 : w1.cell? ⟨w.heap.size, 0, none⟩ = some (.slice x0 x1 x2) := HF1.out.cell 0 0 (okb rfl) (okb rfl)
  have c0_1 : w1.cell? ⟨w.heap.size, 1, none⟩ = some (.slice y0 y1 y2) := HF1.out.cell 0 1 (okb rfl) (okb rfl)
  have c0_2 : w1.cell? ⟨w.heap.size, 2, none⟩ = some (.bool false) := HF1.out.cell 0 2 (okb rfl) (okb rfl)
  go_wp2_with fail
  refine (vcmp _ _ X eP _ _ _ (HF1.out.arg 0 (okb rfl)).1 (HF1.out.got 0 (okb rfl)).1 (by decide) (by decide)).mono ?_
  rintro e w2 ⟨rfl, q, hq⟩
  have HF2 : Hid (Fm w w2 [(31, [.slice x0 x1 x2, .slice y0 y1 y2, .bool false])] [(.slice x0 x1 x2, X, X), (.slice y0 y1 y2, Y, Y)] [(r1, eP, 256)]) := (by rw [hq]; exact HF1.out.drewN q : Fm w w2 [(31, [.slice x0 x1 x2, .slice y0 y1 y2, .bool false])] [(.slice x0 x1 x2, X, X), (.slice y0 y1 y2, Y, Y)] [(r1, eP, 256)])
  clear hq
  rw [cmp3_lt (show ((X : Nat) : Int) < ((eP : Nat) : Int) from Int.ofNat_lt.2 HX.out)]
  clear c0_0 c0_1 c0_2
  have c0_0 : w2.cell? ⟨w.heap.size, 0, none⟩ = some (.slice x0 x1 x2) := HF2.out.cell 0 0 (okb rfl) (okb rfl)
  have c0_1 : w2.cell? ⟨w.heap.size, 1, none⟩ = some (.slice y0 y1 y2) := HF2.out.cell 0 1 (okb rfl) (okb rfl)
  have c0_2 : w2.cell? ⟨w.heap.size, 2, none⟩ = some (.bool false) := HF2.out.cell 0 2 (okb rfl) (okb rfl)
  go_wp2_with fail
  refine (vcmp _ _ Y eP _ _ _ (HF2.out.arg 1 (okb rfl)).1 (HF2.out.got 0 (okb rfl)).1 (by decide) (by decide)).mono ?_
  rintro e w3 ⟨rfl, q, hq⟩
  have HF3 : Hid (Fm w w3 [(31, [.slice x0 x1 x2, .slice y0 y1 y2, .bool false])] [(.slice x0 x1 x2, X, X), (.slice y0 y1 y2, Y, Y)] [(r1, eP, 256)]) := (by rw [hq]; exact HF2.out.drewN q : Fm w w3 [(31, [.slice x0 x1 x2, .slice y0 y1 y2, .bool false])] [(.slice x0 x1 x2, X, X), (.slice y0 y1 y2, Y, Y)] [(r1, eP, 256)])
  clear hq
  rw [cmp3_eq (show ((Y : Nat) : Int) = ((eP : Nat) : Int) from congrArg Int.ofNat HY.out)]
  clear c0_0 c0_1 c0_2
  have c0_0 : w3.cell? ⟨w.heap.size, 0, none⟩ = some (.slice x0 x1 x2) := HF3.out.cell 0 0 (okb rfl) (okb rfl)
  have c0_1 : w3.cell? ⟨w.heap.size, 1, none⟩ = some (.slice y0 y1 y2) := HF3.out.cell 0 1 (okb rfl) (okb rfl)
  have c0_2 : w3.cell? ⟨w.heap.size, 2, none⟩ = some (.bool false) := HF3.out.cell 0 2 (okb rfl) (okb rfl)
  go_wp2
  go_ret
  exact ⟨rfl, HF3.out.bel⟩
set_option maxHeartbeats 20000000 in
theorem lon_lg (x y : Value) (X Y : Nat) (w : World) (hx : Nm w x (dg Bs X)) (hy : Nm w y (dg Bs Y)) (lx : (dg Bs X).length ≤ 3000000) (ly : (dg Bs Y).length ≤ 3000000) (hX : X < eP) (hY : eP < Y) : Calls Tryz.prog 16 #[.agg #[x, y, .bool false]] w fun e w' => e = .returned (.bool false) ∧ Below w.heap.size w w' := by
  obtain ⟨x0, x1, x2, rfl⟩ := (hx.nud lx).shape
  obtain ⟨y0, y1, y2, rfl⟩ := (hy.nud ly).shape
  have HF0 : Hid (Fm w (w.alloc (.cells #[.slice x0 x1 x2, .slice y0 y1 y2, .bool false] 31)) [(31, [.slice x0 x1 x2, .slice y0 y1 y2, .bool false])] [(.slice x0 x1 x2, X, X), (.slice y0 y1 y2, Y, Y)] []) := ((Fm.nil (w := w) (A := [(.slice x0 x1 x2, X, X), (.slice y0 y1 y2, Y, Y)]) (ar_cons ⟨hx.nud lx, Nat.lt_two_pow_self⟩ (ar_cons ⟨hy.nud ly, Nat.lt_two_pow_self⟩ ar_nil))).push (by simp) 31 [.slice x0 x1 x2, .slice y0 y1 y2, .bool false])
  have HX : Hid (X < eP) := hX
  have HY : Hid (eP < Y) := hY
  clear hx hy lx ly hX hY
  go_enter Tryz.func16, Tryz.ntmps16
  go_wp2_with fail
  generalize (w.alloc (.cells #[.slice x0 x1 x2, .slice y0 y1 y2, .bool false] 31)) = w0 at *
  refine (lprime_v _).mono ?_
  rintro e w1 ⟨r1, rfl, h⟩
  have HF1 : Hid (Fm w w1 [(31, [.slice x0 x1 x2, .slice y0 y1 y2, .bool false])] [(.slice x0 x1 x2, X, X), (.slice y0 y1 y2, Y, Y)] [(r1, eP, 256)]) := HF0.out.step h
  clear h
  have c0_0 : w1.cell? ⟨w.heap.size, 0, none⟩ = some (.slice x0 x1 x2) := HF1.out.cell 0 0 (okb rfl) (okb rfl)
  have c0_1 : w1.cell? ⟨w.heap.size, 1, none⟩ = some (.slice y0 y1 y2) := HF1.out.cell 0 1 (okb rfl) (okb rfl)
  have c0_2 : w1.cell? ⟨w.heap.size, 2, none⟩ = some (.bool false) := HF1.out.cell 0 2 (okb rfl) (okb rfl)
  go_wp2_with fail
  refine (vcmp _ _ X eP _ _ _ (HF1.out.arg 0 (okb rfl)).1 (HF1.out.got 0 (okb rfl)).1 (by decide) (by decide)).mono ?_
  rintro e w2 ⟨rfl, q, hq⟩
  have HF2 : Hid (Fm w w2 [(31, [.slice x0 x1 x2, .slice y0 y1 y2, .bool false])] [(.slice x0 x1 x2, X, X), (.slice y0 y1 y2, Y, Y)] [(r1, eP, 256)]) := (by rw [hq]; exact HF1.out.drewN q : Fm w w2 [(31, [.slice x0 x1 x2, .slice y0 y1 y2, .bool false])] [(.slice x0 x1 x2, X, X), (.slice y0 y1 y2, Y, Y)] [(r1, eP, 256)])
  clear hq
  rw [cmp3_lt (show ((X : Nat) : Int) < ((eP : Nat) : Int) from Int.ofNat_lt.2 HX.out)]
  clear c0_0 c0_1 c0_2
  have c0_0 : w2.cell? ⟨w.heap.size, 0, none⟩ = some (.slice x0 x1 x2) := HF2.out.cell 0 0 (okb rfl) (okb rfl)
  have c0_1 : w2.cell? ⟨w.heap.size, 1, none⟩ = some (.slice y0 y1 y2) := HF2.out.cell 0 1 (okb rfl) (okb rfl)
  have c0_2 : w2.cell? ⟨w.heap.size, 2, none⟩ = some (.bool false) := HF2.out.cell 0 2 (okb rfl) (okb rfl)
  go_wp2_with fail
  refine (vcmp _ _ Y eP _ _ _ (HF2.out.arg 1 (okb rfl)).1 (HF2.out.got 0 (okb rfl)).1 (by decide) (by decide)).mono ?_
  rintro e w3 ⟨rfl, q, hq⟩
  have HF3 : Hid (Fm w w3 [(31, [.slice x0 x1 x2, .slice y0 y1 y2, .bool false])] [(.slice x0 x1 x2, X, X), (.slice y0 y1 y2, Y, Y)] [(r1, eP, 256)]) := (by rw [hq]; exact HF2.out.drewN q : Fm w w3 [(31, [.slice x0 x1 x2, .slice y0 y1 y2, .bool false])] [(.slice x0 x1 x2, X, X), (.slice y0 y1 y2, Y, Y)] [(r1, eP, 256)])
  clear hq
  rw [cmp3_gt (show ((eP : Nat) : Int) < ((Y : Nat) : Int) from Int.ofNat_lt.2 HY.out)]
  clear c0_0 c0_1 c0_2
  have c0_0 : w3.cell? ⟨w.heap.size, 0, none⟩ = some (.slice x0 x1 x2) := HF3.out.cell 0 0 (okb rfl) (okb rfl)
  have c0_1 : w3.cell? ⟨w.heap.size, 1, none⟩ = some (.slice y0 y1 y2) := HF3.out.cell 0 1 (okb rfl) (okb rfl)
  have c0_2 : w3.cell? ⟨w.heap.size, 2, none⟩ = some (.bool false) := HF3.out.cell 0 2 (okb rfl) (okb rfl)
  go_wp2
  go_ret
  exact ⟨rfl, HF3.out.bel⟩
set_option maxHeartbeats 20000000 in
theorem lon_00 (x y : Value) (X Y : Nat) (w : World) (hx : Nm w x (dg Bs X)) (hy : Nm w y (dg Bs Y)) (lx : (dg Bs X).length ≤ 3000000) (ly : (dg Bs Y).length ≤ 3000000) (hX : X < eP) (hY : Y < eP) (hX0 : X = 0) (hY0 : Y = 0) : Calls Tryz.prog 16 #[.agg #[x, y, .bool false]] w fun e w' => e = .returned (.bool (decide (fM eP (fS eP (fM eP Y Y) (fM eP X X)) 121666 = fS eP 121666 (fM eP (fM eP (fM eP X X) (fM eP Y Y)) 121665)))) ∧ Below w.heap.size w w' := by
  obtain ⟨xa, xc, rfl⟩ := nm_nil hx hX0
  clear hX0
  obtain ⟨ya, yc, rfl⟩ := nm_nil hy hY0
  clear hY0
  have HF0 : Hid (Fm w (w.alloc (.cells #[.slice xa 0 xc, .slice ya 0 yc, .bool false] 31)) [(31, [.slice xa 0 xc, .slice ya 0 yc, .bool false])] [(.slice xa 0 xc, X, 256), (.slice ya 0 yc, Y, 256)] []) := ((Fm.nil (w := w) (A := [(.slice xa 0 xc, X, 256), (.slice ya 0 yc, Y, 256)]) (ar_cons ⟨hx.nud lx, lt_pw hX⟩ (ar_cons ⟨hy.nud ly, lt_pw hY⟩ ar_nil))).push (by simp) 31 [.slice xa 0 xc, .slice ya 0 yc, .bool false])
  have HX : Hid (X < eP) := hX
  have HY : Hid (Y < eP) := hY
  clear hx hy lx ly hX hY
  go_enter Tryz.func16, Tryz.ntmps16
  go_wp2_with fail
  generalize (w.alloc (.cells #[.slice xa 0 xc, .slice ya 0 yc, .bool false] 31)) = w0 at *
  refine (lprime_v _).mono ?_
  rintro e w1 ⟨r1, rfl, h⟩
  have HF1 : Hid (Fm w w1 [(31, [.slice xa 0 xc, .slice ya 0 yc, .bool false])] [(.slice xa 0 xc, X, 256), (.slice ya 0 yc, Y, 256)] [(r1, eP, 256)]) := HF0.out.step h
  clear h
  have c0_0 : w1.cell? ⟨w.heap.size, 0, none⟩ = some (.slice xa 0 xc) := HF1.out.cell 0 0 (okb rfl) (okb rfl)
  have c0_1 : w1.cell? ⟨w.heap.size, 1, none⟩ = some (.slice ya 0 yc) := HF1.out.cell 0 1 (okb rfl) (okb rfl)
  have c0_2 : w1.cell? ⟨w.heap.size, 2, none⟩ = some (.bool false) := HF1.out.cell 0 2 (okb rfl) (okb rfl)
  go_wp2_with fail
  refine (vcmp _ _ X eP _ _ _ (HF1.out.arg 0 (okb rfl)).1 (HF1.out.got 0 (okb rfl)).1 (by decide) (by decide)).mono ?_
  rintro e w2 ⟨rfl, q, hq⟩
  have HF2 : Hid (Fm w w2 [(31, [.slice xa 0 xc, .slice ya 0 yc, .bool false])] [(.slice xa 0 xc, X, 256), (.slice ya 0 yc, Y, 256)] [(r1, eP, 256)]) := (by rw [hq]; exact HF1.out.drewN q : Fm w w2 [(31, [.slice xa 0 xc, .slice ya 0 yc, .bool false])] [(.slice xa 0 xc, X, 256), (.slice ya 0 yc, Y, 256)] [(r1, eP, 256)])
  clear hq
  rw [cmp3_lt (show ((X : Nat) : Int) < ((eP : Nat) : Int) from Int.ofNat_lt.2 HX.out)]
  clear c0_0 c0_1 c0_2
  have c0_0 : w2.cell? ⟨w.heap.size, 0, none⟩ = some (.slice xa 0 xc) := HF2.out.cell 0 0 (okb rfl) (okb rfl)
  have c0_1 : w2.cell? ⟨w.heap.size, 1, none⟩ = some (.slice ya 0 yc) := HF2.out.cell 0 1 (okb rfl) (okb rfl)
  have c0_2 : w2.cell? ⟨w.heap.size, 2, none⟩ = some (.bool false) := HF2.out.cell 0 2 (okb rfl) (okb rfl)
  go_wp2_with fail
  refine (vcmp _ _ Y eP _ _ _ (HF2.out.arg 1 (okb rfl)).1 (HF2.out.got 0 (okb rfl)).1 (by decide) (by decide)).mono ?_
  rintro e w3 ⟨rfl, q, hq⟩
  have HF3 : Hid (Fm w w3 [(31, [.slice xa 0 xc, .slice ya 0 yc, .bool false])] [(.slice xa 0 xc, X, 256), (.slice ya 0 yc, Y, 256)] [(r1, eP, 256)]) := (by rw [hq]; exact HF2.out.drewN q : Fm w w3 [(31, [.slice xa 0 xc, .slice ya 0 yc, .bool false])] [(.slice xa 0 xc, X, 256), (.slice ya 0 yc, Y, 256)] [(r1, eP, 256)])
  clear hq
  rw [cmp3_lt (show ((Y : Nat) : Int) < ((eP : Nat) : Int) from Int.ofNat_lt.2 HY.out)]
  clear c0_0 c0_1 c0_2
  have c0_0 : w3.cell? ⟨w.heap.size, 0, none⟩ = some (.slice xa 0 xc) := HF3.out.cell 0 0 (okb rfl) (okb rfl)
  have c0_1 : w3.cell? ⟨w.heap.size, 1, none⟩ = some (.slice ya 0 yc) := HF3.out.cell 0 1 (okb rfl) (okb rfl)
  have c0_2 : w3.cell? ⟨w.heap.size, 2, none⟩ = some (.bool false) := HF3.out.cell 0 2 (okb rfl) (okb rfl)
  go_wp2_with fail
  refine (mmulP _ _ _ X X 256 256 _ (HF3.out.arg 0 (okb rfl)) (HF3.out.arg 0 (okb rfl)) (HF3.out.got 0 (okb rfl)) (by decide) (by decide)).mono ?_
  rintro e w4 ⟨r4, rfl, h⟩
  have HF4 : Hid (Fm w w4 [(31, [.slice xa 0 xc, .slice ya 0 yc, .bool false])] [(.slice xa 0 xc, X, 256), (.slice ya 0 yc, Y, 256)] [(r4, fM eP X X, 256), (r1, eP, 256)]) := HF3.out.step h
  clear h
  clear c0_0 c0_1 c0_2
  obtain ⟨e0, e1, e2, rfl⟩ := (HF4.out.got 0 (okb rfl)).sl
  have c0_0 : w4.cell? ⟨w.heap.size, 0, none⟩ = some (.slice xa 0 xc) := HF4.out.cell 0 0 (okb rfl) (okb rfl)
  have c0_1 : w4.cell? ⟨w.heap.size, 1, none⟩ = some (.slice ya 0 yc) := HF4.out.cell 0 1 (okb rfl) (okb rfl)
  have c0_2 : w4.cell? ⟨w.heap.size, 2, none⟩ = some (.bool false) := HF4.out.cell 0 2 (okb rfl) (okb rfl)
  go_wp2_with fail
  refine (mmulP _ _ _ Y Y 256 256 _ (HF4.out.arg 1 (okb rfl)) (HF4.out.arg 1 (okb rfl)) (HF4.out.got 1 (okb rfl)) (by decide) (by decide)).mono ?_
  rintro e w5 ⟨r5, rfl, h⟩
  have HF5 : Hid (Fm w w5 [(31, [.slice xa 0 xc, .slice ya 0 yc, .bool false])] [(.slice xa 0 xc, X, 256), (.slice ya 0 yc, Y, 256)] [(r5, fM eP Y Y, 256), (.slice e0 e1 e2, fM eP X X, 256), (r1, eP, 256)]) := HF4.out.step h
  clear h
  clear c0_0 c0_1 c0_2
  obtain ⟨f0, f1, f2, rfl⟩ := (HF5.out.got 0 (okb rfl)).sl
  go_wp2_with fail
  refine (msubP _ _ _ (fM eP Y Y) (fM eP X X) 256 256 _ (HF5.out.got 0 (okb rfl)) (HF5.out.got 1 (okb rfl)) (HF5.out.got 2 (okb rfl)) (by decide) (by decide)).mono ?_
  rintro e w6 ⟨r6, rfl, h⟩
  have HF6 : Hid (Fm w w6 [(31, [.slice xa 0 xc, .slice ya 0 yc, .bool false])] [(.slice xa 0 xc, X, 256), (.slice ya 0 yc, Y, 256)] [(r6, fS eP (fM eP Y Y) (fM eP X X), 256), (.slice f0 f1 f2, fM eP Y Y, 256), (.slice e0 e1 e2, fM eP X X, 256), (r1, eP, 256)]) := HF5.out.step h
  clear h
  obtain ⟨g0, g1, g2, rfl⟩ := (HF6.out.got 0 (okb rfl)).sl
  have HF7 : Hid (Fm w (w6.alloc (.cells #[.int .u32 121666] 43)) [(31, [.slice xa 0 xc, .slice ya 0 yc, .bool false])] [(.slice xa 0 xc, X, 256), (.slice ya 0 yc, Y, 256)] [(.slice (some ⟨w6.heap.size, 0, none⟩) 1 1, 121666, 32), (.slice g0 g1 g2, fS eP (fM eP Y Y) (fM eP X X), 256), (.slice f0 f1 f2, fM eP Y Y, 256), (.slice e0 e1 e2, fM eP X X, 256), (r1, eP, 256)]) := HF6.out.step (lit_v _ 121666 121666 rfl (by decide) (by decide))
  go_wp2_with fail
  generalize (w6.alloc (.cells #[.int .u32 121666] 43)) = wl8 at *
  refine (mmulP _ _ _ (fS eP (fM eP Y Y) (fM eP X X)) 121666 256 32 _ (HF7.out.got 1 (okb rfl)) (HF7.out.got 0 (okb rfl)) (HF7.out.got 4 (okb rfl)) (by decide) (by decide)).mono ?_
  rintro e w9 ⟨r9, rfl, h⟩
  have HF9 : Hid (Fm w w9 [(31, [.slice xa 0 xc, .slice ya 0 yc, .bool false])] [(.slice xa 0 xc, X, 256), (.slice ya 0 yc, Y, 256)] [(r9, fM eP (fS eP (fM eP Y Y) (fM eP X X)) 121666, 256), (.slice (some ⟨w6.heap.size, 0, none⟩) 1 1, 121666, 32), (.slice g0 g1 g2, fS eP (fM eP Y Y) (fM eP X X), 256), (.slice f0 f1 f2, fM eP Y Y, 256), (.slice e0 e1 e2, fM eP X X, 256), (r1, eP, 256)]) := HF7.out.step h
  clear h
  obtain ⟨h0, h1, h2, rfl⟩ := (HF9.out.got 0 (okb rfl)).sl
  go_wp2_with fail
  refine (mmulP _ _ _ (fM eP X X) (fM eP Y Y) 256 256 _ (HF9.out.got 4 (okb rfl)) (HF9.out.got 3 (okb rfl)) (HF9.out.got 5 (okb rfl)) (by decide) (by decide)).mono ?_
  rintro e w10 ⟨r10, rfl, h⟩
  have HF10 : Hid (Fm w w10 [(31, [.slice xa 0 xc, .slice ya 0 yc, .bool false])] [(.slice xa 0 xc, X, 256), (.slice ya 0 yc, Y, 256)] [(r10, fM eP (fM eP X X) (fM eP Y Y), 256), (.slice h0 h1 h2, fM eP (fS eP (fM eP Y Y) (fM eP X X)) 121666, 256), (.slice (some ⟨w6.heap.size, 0, none⟩) 1 1, 121666, 32), (.slice g0 g1 g2, fS eP (fM eP Y Y) (fM eP X X), 256), (.slice f0 f1 f2, fM eP Y Y, 256), (.slice e0 e1 e2, fM eP X X, 256), (r1, eP, 256)]) := HF9.out.step h
  clear h
  obtain ⟨i0, i1, i2, rfl⟩ := (HF10.out.got 0 (okb rfl)).sl
  have HF11 : Hid (Fm w (w10.alloc (.cells #[.int .u32 121665] 43)) [(31, [.slice xa 0 xc, .slice ya 0 yc, .bool false])] [(.slice xa 0 xc, X, 256), (.slice ya 0 yc, Y, 256)] [(.slice (some ⟨w10.heap.size, 0, none⟩) 1 1, 121665, 32), (.slice i0 i1 i2, fM eP (fM eP X X) (fM eP Y Y), 256), (.slice h0 h1 h2, fM eP (fS eP (fM eP Y Y) (fM eP X X)) 121666, 256), (.slice (some ⟨w6.heap.size, 0, none⟩) 1 1, 121666, 32), (.slice g0 g1 g2, fS eP (fM eP Y Y) (fM eP X X), 256), (.slice f0 f1 f2, fM eP Y Y, 256), (.slice e0 e1 e2, fM eP X X, 256), (r1, eP, 256)]) := HF10.out.step (lit_v _ 121665 121665 rfl (by decide) (by decide))
  go_wp2_with fail
  generalize (w10.alloc (.cells #[.int .u32 121665] 43)) = wl12 at *
  refine (mmulP _ _ _ (fM eP (fM eP X X) (fM eP Y Y)) 121665 256 32 _ (HF11.out.got 1 (okb rfl)) (HF11.out.got 0 (okb rfl)) (HF11.out.got 7 (okb rfl)) (by decide) (by decide)).mono ?_
  rintro e w13 ⟨r13, rfl, h⟩
  have HF13 : Hid (Fm w w13 [(31, [.slice xa 0 xc, .slice ya 0 yc, .bool false])] [(.slice xa 0 xc, X, 256), (.slice ya 0 yc, Y, 256)] [(r13, fM eP (fM eP (fM eP X X) (fM eP Y Y)) 121665, 256), (.slice (some ⟨w10.heap.size, 0, none⟩) 1 1, 121665, 32), (.slice i0 i1 i2, fM eP (fM eP X X) (fM eP Y Y), 256), (.slice h0 h1 h2, fM eP (fS eP (fM eP Y Y) (fM eP X X)) 121666, 256), (.slice (some ⟨w6.heap.size, 0, none⟩) 1 1, 121666, 32), (.slice g0 g1 g2, fS eP (fM eP Y Y) (fM eP X X), 256), (.slice f0 f1 f2, fM eP Y Y, 256), (.slice e0 e1 e2, fM eP X X, 256), (r1, eP, 256)]) := HF11.out.step h
  clear h
  obtain ⟨j0, j1, j2, rfl⟩ := (HF13.out.got 0 (okb rfl)).sl
  have HF14 : Hid (Fm w (w13.alloc (.cells #[.int .u32 121666] 43)) [(31, [.slice xa 0 xc, .slice ya 0 yc, .bool false])] [(.slice xa 0 xc, X, 256), (.slice ya 0 yc, Y, 256)] [(.slice (some ⟨w13.heap.size, 0, none⟩) 1 1, 121666, 32), (.slice j0 j1 j2, fM eP (fM eP (fM eP X X) (fM eP Y Y)) 121665, 256), (.slice (some ⟨w10.heap.size, 0, none⟩) 1 1, 121665, 32), (.slice i0 i1 i2, fM eP (fM eP X X) (fM eP Y Y), 256), (.slice h0 h1 h2, fM eP (fS eP (fM eP Y Y) (fM eP X X)) 121666, 256), (.slice (some ⟨w6.heap.size, 0, none⟩) 1 1, 121666, 32), (.slice g0 g1 g2, fS eP (fM eP Y Y) (fM eP X X), 256), (.slice f0 f1 f2, fM eP Y Y, 256), (.slice e0 e1 e2, fM eP X X, 256), (r1, eP, 256)]) := HF13.out.step (lit_v _ 121666 121666 rfl (by decide) (by decide))
  go_wp2_with fail
  generalize (w13.alloc (.cells #[.int .u32 121666] 43)) = wl15 at *
  refine (msubP _ _ _ 121666 (fM eP (fM eP (fM eP X X) (fM eP Y Y)) 121665) 32 256 _ (HF14.out.got 0 (okb rfl)) (HF14.out.got 1 (okb rfl)) (HF14.out.got 9 (okb rfl)) (by decide) (by decide)).mono ?_
  rintro e w16 ⟨r16, rfl, h⟩
  have HF16 : Hid (Fm w w16 [(31, [.slice xa 0 xc, .slice ya 0 yc, .bool false])] [(.slice xa 0 xc, X, 256), (.slice ya 0 yc, Y, 256)] [(r16, fS eP 121666 (fM eP (fM eP (fM eP X X) (fM eP Y Y)) 121665), 256), (.slice (some ⟨w13.heap.size, 0, none⟩) 1 1, 121666, 32), (.slice j0 j1 j2, fM eP (fM eP (fM eP X X) (fM eP Y Y)) 121665, 256), (.slice (some ⟨w10.heap.size, 0, none⟩) 1 1, 121665, 32), (.slice i0 i1 i2, fM eP (fM eP X X) (fM eP Y Y), 256), (.slice h0 h1 h2, fM eP (fS eP (fM eP Y Y) (fM eP X X)) 121666, 256), (.slice (some ⟨w6.heap.size, 0, none⟩) 1 1, 121666, 32), (.slice g0 g1 g2, fS eP (fM eP Y Y) (fM eP X X), 256), (.slice f0 f1 f2, fM eP Y Y, 256), (.slice e0 e1 e2, fM eP X X, 256), (r1, eP, 256)]) := HF14.out.step h
  clear h
  obtain ⟨k0, k1, k2, rfl⟩ := (HF16.out.got 0 (okb rfl)).sl
  have ml := HF16.out.made _ (List.getElem_mem (show 5 < _ by simp))
  have mr := HF16.out.made _ (List.getElem_mem (show 0 < _ by simp))
  have C := sameNat_nm _ _ _ _ _ ml.nm mr.nm (Nat.le_trans ml.2.1 (by decide))
  rw [dec_dg] at C
  clear ml mr
  go_wp2_with fail
  refine C.mono ?_
  clear C
  rintro e wz ⟨rfl, q, rfl⟩
  go_wp2
  go_ret
  exact ⟨rfl, HF16.out.drewN q |>.bel⟩
set_option maxHeartbeats 20000000 in
theorem lon_01 (x y : Value) (X Y : Nat) (w : World) (hx : Nm w x (dg Bs X)) (hy : Nm w y (dg Bs Y)) (lx : (dg Bs X).length ≤ 3000000) (ly : (dg Bs Y).length ≤ 3000000) (hX : X < eP) (hY : Y < eP) (hX0 : X = 0) (hY0 : 0 < Y) : Calls Tryz.prog 16 #[.agg #[x, y, .bool false]] w fun e w' => e = .returned (.bool (decide (fM eP (fS eP (fM eP Y Y) (fM eP X X)) 121666 = fS eP 121666 (fM eP (fM eP (fM eP X X) (fM eP Y Y)) 121665)))) ∧ Below w.heap.size w w' := by
  obtain ⟨xa, xc, rfl⟩ := nm_nil hx hX0
  clear hX0
  have hNy := hy
  obtain ⟨yg, yoff, yn, yc, yz, rfl, hlny, hcly, hzy⟩ := nm_open hy hY0
  have HF0 : Hid (Fm w (w.alloc (.cells #[.slice xa 0 xc, .slice (some ⟨yg, yoff, none⟩) (yn + 1) yc, .bool false] 31)) [(31, [.slice xa 0 xc, .slice (some ⟨yg, yoff, none⟩) (yn + 1) yc, .bool false])] [(.slice xa 0 xc, X, 256), (.slice (some ⟨yg, yoff, none⟩) (yn + 1) yc, Y, 256)] []) := ((Fm.nil (w := w) (A := [(.slice xa 0 xc, X, 256), (.slice (some ⟨yg, yoff, none⟩) (yn + 1) yc, Y, 256)]) (ar_cons ⟨hx.nud lx, lt_pw hX⟩ (ar_cons ⟨hy.nud ly, lt_pw hY⟩ ar_nil))).push (by simp) 31 [.slice xa 0 xc, .slice (some ⟨yg, yoff, none⟩) (yn + 1) yc, .bool false])
  have HX : Hid (X < eP) := hX
  have HY : Hid (Y < eP) := hY
  have HCy : Hid (w.cell? ⟨yg, yoff + yn, none⟩ = some (.int .u32 (yz : Int))) := hcly
  have hzzy : ((yz : Int) == 0) = false := by simp; omega
  have hposy : (0 : Int) < ((yn + 1 : Nat) : Int) := by omega
  have hsuby : ((yn + 1 : Nat) : Int) - 1 = (yn : Int) := by omega
  have hbny : yn ≤ 3000000 := by omega
  clear hx hy lx ly hX hY hNy hlny hcly hzy hY0
  go_enter Tryz.func16, Tryz.ntmps16
  go_wp2_with fail
  generalize (w.alloc (.cells #[.slice xa 0 xc, .slice (some ⟨yg, yoff, none⟩) (yn + 1) yc, .bool false] 31)) = w0 at *
  refine (lprime_v _).mono ?_
  rintro e w1 ⟨r1, rfl, h⟩
  have HF1 : Hid (Fm w w1 [(31, [.slice xa 0 xc, .slice (some ⟨yg, yoff, none⟩) (yn + 1) yc, .bool false])] [(.slice xa 0 xc, X, 256), (.slice (some ⟨yg, yoff, none⟩) (yn + 1) yc, Y, 256)] [(r1, eP, 256)]) := HF0.out.step h
  clear h
  have c0_0 : w1.cell? ⟨w.heap.size, 0, none⟩ = some (.slice xa 0 xc) := HF1.out.cell 0 0 (okb rfl) (okb rfl)
  have c0_1 : w1.cell? ⟨w.heap.size, 1, none⟩ = some (.slice (some ⟨yg, yoff, none⟩) (yn + 1) yc) := HF1.out.cell 0 1 (okb rfl) (okb rfl)
  have c0_2 : w1.cell? ⟨w.heap.size, 2, none⟩ = some (.bool false) := HF1.out.cell 0 2 (okb rfl) (okb rfl)
  go_wp2_with fail
  refine (vcmp _ _ X eP _ _ _ (HF1.out.arg 0 (okb rfl)).1 (HF1.out.got 0 (okb rfl)).1 (by decide) (by decide)).mono ?_
  rintro e w2 ⟨rfl, q, hq⟩
  have HF2 : Hid (Fm w w2 [(31, [.slice xa 0 xc, .slice (some ⟨yg, yoff, none⟩) (yn + 1) yc, .bool false])] [(.slice xa 0 xc, X, 256), (.slice (some ⟨yg, yoff, none⟩) (yn + 1) yc, Y, 256)] [(r1, eP, 256)]) := (by rw [hq]; exact HF1.out.drewN q : Fm w w2 [(31, [.slice xa 0 xc, .slice (some ⟨yg, yoff, none⟩) (yn + 1) yc, .bool false])] [(.slice xa 0 xc, X, 256), (.slice (some ⟨yg, yoff, none⟩) (yn + 1) yc, Y, 256)] [(r1, eP, 256)])
  clear hq
  rw [cmp3_lt (show ((X : Nat) : Int) < ((eP : Nat) : Int) from Int.ofNat_lt.2 HX.out)]
  clear c0_0 c0_1 c0_2
  have c0_0 : w2.cell? ⟨w.heap.size, 0, none⟩ = some (.slice xa 0 xc) := HF2.out.cell 0 0 (okb rfl) (okb rfl)
  have c0_1 : w2.cell? ⟨w.heap.size, 1, none⟩ = some (.slice (some ⟨yg, yoff, none⟩) (yn + 1) yc) := HF2.out.cell 0 1 (okb rfl) (okb rfl)
  have c0_2 : w2.cell? ⟨w.heap.size, 2, none⟩ = some (.bool false) := HF2.out.cell 0 2 (okb rfl) (okb rfl)
  go_wp2_with fail
  refine (vcmp _ _ Y eP _ _ _ (HF2.out.arg 1 (okb rfl)).1 (HF2.out.got 0 (okb rfl)).1 (by decide) (by decide)).mono ?_
  rintro e w3 ⟨rfl, q, hq⟩
  have HF3 : Hid (Fm w w3 [(31, [.slice xa 0 xc, .slice (some ⟨yg, yoff, none⟩) (yn + 1) yc, .bool false])] [(.slice xa 0 xc, X, 256), (.slice (some ⟨yg, yoff, none⟩) (yn + 1) yc, Y, 256)] [(r1, eP, 256)]) := (by rw [hq]; exact HF2.out.drewN q : Fm w w3 [(31, [.slice xa 0 xc, .slice (some ⟨yg, yoff, none⟩) (yn + 1) yc, .bool false])] [(.slice xa 0 xc, X, 256), (.slice (some ⟨yg, yoff, none⟩) (yn + 1) yc, Y, 256)] [(r1, eP, 256)])
  clear hq
  rw [cmp3_lt (show ((Y : Nat) : Int) < ((eP : Nat) : Int) from Int.ofNat_lt.2 HY.out)]
  clear c0_0 c0_1 c0_2
  have c0_0 : w3.cell? ⟨w.heap.size, 0, none⟩ = some (.slice xa 0 xc) := HF3.out.cell 0 0 (okb rfl) (okb rfl)
  have c0_1 : w3.cell? ⟨w.heap.size, 1, none⟩ = some (.slice (some ⟨yg, yoff, none⟩) (yn + 1) yc) := HF3.out.cell 0 1 (okb rfl) (okb rfl)
  have c0_2 : w3.cell? ⟨w.heap.size, 2, none⟩ = some (.bool false) := HF3.out.cell 0 2 (okb rfl) (okb rfl)
  have kly : w3.cell? ⟨yg, yoff + yn, none⟩ = some (.int .u32 (yz : Int)) := cell_old HCy.out HF3.out.bel (Nat.le_refl _)
  go_wp2_with fail
  refine (mmulP _ _ _ X X 256 256 _ (HF3.out.arg 0 (okb rfl)) (HF3.out.arg 0 (okb rfl)) (HF3.out.got 0 (okb rfl)) (by decide) (by decide)).mono ?_
  rintro e w4 ⟨r4, rfl, h⟩
  have HF4 : Hid (Fm w w4 [(31, [.slice xa 0 xc, .slice (some ⟨yg, yoff, none⟩) (yn + 1) yc, .bool false])] [(.slice xa 0 xc, X, 256), (.slice (some ⟨yg, yoff, none⟩) (yn + 1) yc, Y, 256)] [(r4, fM eP X X, 256), (r1, eP, 256)]) := HF3.out.step h
  clear h
  clear c0_0 c0_1 c0_2 kly
  obtain ⟨e0, e1, e2, rfl⟩ := (HF4.out.got 0 (okb rfl)).sl
  have c0_0 : w4.cell? ⟨w.heap.size, 0, none⟩ = some (.slice xa 0 xc) := HF4.out.cell 0 0 (okb rfl) (okb rfl)
  have c0_1 : w4.cell? ⟨w.heap.size, 1, none⟩ = some (.slice (some ⟨yg, yoff, none⟩) (yn + 1) yc) := HF4.out.cell 0 1 (okb rfl) (okb rfl)
  have c0_2 : w4.cell? ⟨w.heap.size, 2, none⟩ = some (.bool false) := HF4.out.cell 0 2 (okb rfl) (okb rfl)
  go_wp2_with fail
  refine (mmulP _ _ _ Y Y 256 256 _ (HF4.out.arg 1 (okb rfl)) (HF4.out.arg 1 (okb rfl)) (HF4.out.got 1 (okb rfl)) (by decide) (by decide)).mono ?_
  rintro e w5 ⟨r5, rfl, h⟩
  have HF5 : Hid (Fm w w5 [(31, [.slice xa 0 xc, .slice (some ⟨yg, yoff, none⟩) (yn + 1) yc, .bool false])] [(.slice xa 0 xc, X, 256), (.slice (some ⟨yg, yoff, none⟩) (yn + 1) yc, Y, 256)] [(r5, fM eP Y Y, 256), (.slice e0 e1 e2, fM eP X X, 256), (r1, eP, 256)]) := HF4.out.step h
  clear h
  clear c0_0 c0_1 c0_2
  obtain ⟨f0, f1, f2, rfl⟩ := (HF5.out.got 0 (okb rfl)).sl
  go_wp2_with fail
  refine (msubP _ _ _ (fM eP Y Y) (fM eP X X) 256 256 _ (HF5.out.got 0 (okb rfl)) (HF5.out.got 1 (okb rfl)) (HF5.out.got 2 (okb rfl)) (by decide) (by decide)).mono ?_
  rintro e w6 ⟨r6, rfl, h⟩
  have HF6 : Hid (Fm w w6 [(31, [.slice xa 0 xc, .slice (some ⟨yg, yoff, none⟩) (yn + 1) yc, .bool false])] [(.slice xa 0 xc, X, 256), (.slice (some ⟨yg, yoff, none⟩) (yn + 1) yc, Y, 256)] [(r6, fS eP (fM eP Y Y) (fM eP X X), 256), (.slice f0 f1 f2, fM eP Y Y, 256), (.slice e0 e1 e2, fM eP X X, 256), (r1, eP, 256)]) := HF5.out.step h
  clear h
  obtain ⟨g0, g1, g2, rfl⟩ := (HF6.out.got 0 (okb rfl)).sl
  have HF7 : Hid (Fm w (w6.alloc (.cells #[.int .u32 121666] 43)) [(31, [.slice xa 0 xc, .slice (some ⟨yg, yoff, none⟩) (yn + 1) yc, .bool false])] [(.slice xa 0 xc, X, 256), (.slice (some ⟨yg, yoff, none⟩) (yn + 1) yc, Y, 256)] [(.slice (some ⟨w6.heap.size, 0, none⟩) 1 1, 121666, 32), (.slice g0 g1 g2, fS eP (fM eP Y Y) (fM eP X X), 256), (.slice f0 f1 f2, fM eP Y Y, 256), (.slice e0 e1 e2, fM eP X X, 256), (r1, eP, 256)]) := HF6.out.step (lit_v _ 121666 121666 rfl (by decide) (by decide))
  go_wp2_with fail
  generalize (w6.alloc (.cells #[.int .u32 121666] 43)) = wl8 at *
  refine (mmulP _ _ _ (fS eP (fM eP Y Y) (fM eP X X)) 121666 256 32 _ (HF7.out.got 1 (okb rfl)) (HF7.out.got 0 (okb rfl)) (HF7.out.got 4 (okb rfl)) (by decide) (by decide)).mono ?_
  rintro e w9 ⟨r9, rfl, h⟩
  have HF9 : Hid (Fm w w9 [(31, [.slice xa 0 xc, .slice (some ⟨yg, yoff, none⟩) (yn + 1) yc, .bool false])] [(.slice xa 0 xc, X, 256), (.slice (some ⟨yg, yoff, none⟩) (yn + 1) yc, Y, 256)] [(r9, fM eP (fS eP (fM eP Y Y) (fM eP X X)) 121666, 256), (.slice (some ⟨w6.heap.size, 0, none⟩) 1 1, 121666, 32), (.slice g0 g1 g2, fS eP (fM eP Y Y) (fM eP X X), 256), (.slice f0 f1 f2, fM eP Y Y, 256), (.slice e0 e1 e2, fM eP X X, 256), (r1, eP, 256)]) := HF7.out.step h
  clear h
  obtain ⟨h0, h1, h2, rfl⟩ := (HF9.out.got 0 (okb rfl)).sl
  go_wp2_with fail
  refine (mmulP _ _ _ (fM eP X X) (fM eP Y Y) 256 256 _ (HF9.out.got 4 (okb rfl)) (HF9.out.got 3 (okb rfl)) (HF9.out.got 5 (okb rfl)) (by decide) (by decide)).mono ?_
  rintro e w10 ⟨r10, rfl, h⟩
  have HF10 : Hid (Fm w w10 [(31, [.slice xa 0 xc, .slice (some ⟨yg, yoff, none⟩) (yn + 1) yc, .bool false])] [(.slice xa 0 xc, X, 256), (.slice (some ⟨yg, yoff, none⟩) (yn + 1) yc, Y, 256)] [(r10, fM eP (fM eP X X) (fM eP Y Y), 256), (.slice h0 h1 h2, fM eP (fS eP (fM eP Y Y) (fM eP X X)) 121666, 256), (.slice (some ⟨w6.heap.size, 0, none⟩) 1 1, 121666, 32), (.slice g0 g1 g2, fS eP (fM eP Y Y) (fM eP X X), 256), (.slice f0 f1 f2, fM eP Y Y, 256), (.slice e0 e1 e2, fM eP X X, 256), (r1, eP, 256)]) := HF9.out.step h
  clear h
  obtain ⟨i0, i1, i2, rfl⟩ := (HF10.out.got 0 (okb rfl)).sl
  have HF11 : Hid (Fm w (w10.alloc (.cells #[.int .u32 121665] 43)) [(31, [.slice xa 0 xc, .slice (some ⟨yg, yoff, none⟩) (yn + 1) yc, .bool false])] [(.slice xa 0 xc, X, 256), (.slice (some ⟨yg, yoff, none⟩) (yn + 1) yc, Y, 256)] [(.slice (some ⟨w10.heap.size, 0, none⟩) 1 1, 121665, 32), (.slice i0 i1 i2, fM eP (fM eP X X) (fM eP Y Y), 256), (.slice h0 h1 h2, fM eP (fS eP (fM eP Y Y) (fM eP X X)) 121666, 256), (.slice (some ⟨w6.heap.size, 0, none⟩) 1 1, 121666, 32), (.slice g0 g1 g2, fS eP (fM eP Y Y) (fM eP X X), 256), (.slice f0 f1 f2, fM eP Y Y, 256), (.slice e0 e1 e2, fM eP X X, 256), (r1, eP, 256)]) := HF10.out.step (lit_v _ 121665 121665 rfl (by decide) (by decide))
  go_wp2_with fail
  generalize (w10.alloc (.cells #[.int .u32 121665] 43)) = wl12 at *
  refine (mmulP _ _ _ (fM eP (fM eP X X) (fM eP Y Y)) 121665 256 32 _ (HF11.out.got 1 (okb rfl)) (HF11.out.got 0 (okb rfl)) (HF11.out.got 7 (okb rfl)) (by decide) (by decide)).mono ?_
  rintro e w13 ⟨r13, rfl, h⟩
  have HF13 : Hid (Fm w w13 [(31, [.slice xa 0 xc, .slice (some ⟨yg, yoff, none⟩) (yn + 1) yc, .bool false])] [(.slice xa 0 xc, X, 256), (.slice (some ⟨yg, yoff, none⟩) (yn + 1) yc, Y, 256)] [(r13, fM eP (fM eP (fM eP X X) (fM eP Y Y)) 121665, 256), (.slice (some ⟨w10.heap.size, 0, none⟩) 1 1, 121665, 32), (.slice i0 i1 i2, fM eP (fM eP X X) (fM eP Y Y), 256), (.slice h0 h1 h2, fM eP (fS eP (fM eP Y Y) (fM eP X X)) 121666, 256), (.slice (some ⟨w6.heap.size, 0, none⟩) 1 1, 121666, 32), (.slice g0 g1 g2, fS eP (fM eP Y Y) (fM eP X X), 256), (.slice f0 f1 f2, fM eP Y Y, 256), (.slice e0 e1 e2, fM eP X X, 256), (r1, eP, 256)]) := HF11.out.step h
  clear h
  obtain ⟨j0, j1, j2, rfl⟩ := (HF13.out.got 0 (okb rfl)).sl
  have HF14 : Hid (Fm w (w13.alloc (.cells #[.int .u32 121666] 43)) [(31, [.slice xa 0 xc, .slice (some ⟨yg, yoff, none⟩) (yn + 1) yc, .bool false])] [(.slice xa 0 xc, X, 256), (.slice (some ⟨yg, yoff, none⟩) (yn + 1) yc, Y, 256)] [(.slice (some ⟨w13.heap.size, 0, none⟩) 1 1, 121666, 32), (.slice j0 j1 j2, fM eP (fM eP (fM eP X X) (fM eP Y Y)) 121665, 256), (.slice (some ⟨w10.heap.size, 0, none⟩) 1 1, 121665, 32), (.slice i0 i1 i2, fM eP (fM eP X X) (fM eP Y Y), 256), (.slice h0 h1 h2, fM eP (fS eP (fM eP Y Y) (fM eP X X)) 121666, 256), (.slice (some ⟨w6.heap.size, 0, none⟩) 1 1, 121666, 32), (.slice g0 g1 g2, fS eP (fM eP Y Y) (fM eP X X), 256), (.slice f0 f1 f2, fM eP Y Y, 256), (.slice e0 e1 e2, fM eP X X, 256), (r1, eP, 256)]) := HF13.out.step (lit_v _ 121666 121666 rfl (by decide) (by decide))
  go_wp2_with fail
  generalize (w13.alloc (.cells #[.int .u32 121666] 43)) = wl15 at *
  refine (msubP _ _ _ 121666 (fM eP (fM eP (fM eP X X) (fM eP Y Y)) 121665) 32 256 _ (HF14.out.got 0 (okb rfl)) (HF14.out.got 1 (okb rfl)) (HF14.out.got 9 (okb rfl)) (by decide) (by decide)).mono ?_
  rintro e w16 ⟨r16, rfl, h⟩
  have HF16 : Hid (Fm w w16 [(31, [.slice xa 0 xc, .slice (some ⟨yg, yoff, none⟩) (yn + 1) yc, .bool false])] [(.slice xa 0 xc, X, 256), (.slice (some ⟨yg, yoff, none⟩) (yn + 1) yc, Y, 256)] [(r16, fS eP 121666 (fM eP (fM eP (fM eP X X) (fM eP Y Y)) 121665), 256), (.slice (some ⟨w13.heap.size, 0, none⟩) 1 1, 121666, 32), (.slice j0 j1 j2, fM eP (fM eP (fM eP X X) (fM eP Y Y)) 121665, 256), (.slice (some ⟨w10.heap.size, 0, none⟩) 1 1, 121665, 32), (.slice i0 i1 i2, fM eP (fM eP X X) (fM eP Y Y), 256), (.slice h0 h1 h2, fM eP (fS eP (fM eP Y Y) (fM eP X X)) 121666, 256), (.slice (some ⟨w6.heap.size, 0, none⟩) 1 1, 121666, 32), (.slice g0 g1 g2, fS eP (fM eP Y Y) (fM eP X X), 256), (.slice f0 f1 f2, fM eP Y Y, 256), (.slice e0 e1 e2, fM eP X X, 256), (r1, eP, 256)]) := HF14.out.step h
  clear h
  obtain ⟨k0, k1, k2, rfl⟩ := (HF16.out.got 0 (okb rfl)).sl
  have ml := HF16.out.made _ (List.getElem_mem (show 5 < _ by simp))
  have mr := HF16.out.made _ (List.getElem_mem (show 0 < _ by simp))
  have C := sameNat_nm _ _ _ _ _ ml.nm mr.nm (Nat.le_trans ml.2.1 (by decide))
  rw [dec_dg] at C
  clear ml mr
  go_wp2_with fail
  refine C.mono ?_
  clear C
  rintro e wz ⟨rfl, q, rfl⟩
  go_wp2
  go_ret
  exact ⟨rfl, HF16.out.drewN q |>.bel⟩
set_option maxHeartbeats 20000000 in
theorem lon_10 (x y : Value) (X Y : Nat) (w : World) (hx : Nm w x (dg Bs X)) (hy : Nm w y (dg Bs Y)) (lx : (dg Bs X).length ≤ 3000000) (ly : (dg Bs Y).length ≤ 3000000) (hX : X < eP) (hY : Y < eP) (hX0 : 0 < X) (hY0 : Y = 0) : Calls Tryz.prog 16 #[.agg #[x, y, .bool false]] w fun e w' => e = .returned (.bool (decide (fM eP (fS eP (fM eP Y Y) (fM eP X X)) 121666 = fS eP 121666 (fM eP (fM eP (fM eP X X) (fM eP Y Y)) 121665)))) ∧ Below w.heap.size w w' := by
  have hNx := hx
  obtain ⟨xg, xoff, xn, xc, xz, rfl, hlnx, hclx, hzx⟩ := nm_open hx hX0
  obtain ⟨ya, yc, rfl⟩ := nm_nil hy hY0
  clear hY0
  have HF0 : Hid (Fm w (w.alloc (.cells #[.slice (some ⟨xg, xoff, none⟩) (xn + 1) xc, .slice ya 0 yc, .bool false] 31)) [(31, [.slice (some ⟨xg, xoff, none⟩) (xn + 1) xc, .slice ya 0 yc, .bool false])] [(.slice (some ⟨xg, xoff, none⟩) (xn + 1) xc, X, 256), (.slice ya 0 yc, Y, 256)] []) := ((Fm.nil (w := w) (A := [(.slice (some ⟨xg, xoff, none⟩) (xn + 1) xc, X, 256), (.slice ya 0 yc, Y, 256)]) (ar_cons ⟨hx.nud lx, lt_pw hX⟩ (ar_cons ⟨hy.nud ly, lt_pw hY⟩ ar_nil))).push (by simp) 31 [.slice (some ⟨xg, xoff, none⟩) (xn + 1) xc, .slice ya 0 yc, .bool false])
  have HX : Hid (X < eP) := hX
  have HY : Hid (Y < eP) := hY
  have HCx : Hid (w.cell? ⟨xg, xoff + xn, none⟩ = some (.int .u32 (xz : Int))) := hclx
  have hzzx : ((xz : Int) == 0) = false := by simp; omega
  have hposx : (0 : Int) < ((xn + 1 : Nat) : Int) := by omega
  have hsubx : ((xn + 1 : Nat) : Int) - 1 = (xn : Int) := by omega
  have hbnx : xn ≤ 3000000 := by omega
  clear hx hy lx ly hX hY hNx hlnx hclx hzx hX0
  go_enter Tryz.func16, Tryz.ntmps16
  go_wp2_with fail
  generalize (w.alloc (.cells #[.slice (some ⟨xg, xoff, none⟩) (xn + 1) xc, .slice ya 0 yc, .bool false] 31)) = w0 at *
  refine (lprime_v _).mono ?_
  rintro e w1 ⟨r1, rfl, h⟩
  have HF1 : Hid (Fm w w1 [(31, [.slice (some ⟨xg, xoff, none⟩) (xn + 1) xc, .slice ya 0 yc, .bool false])] [(.slice (some ⟨xg, xoff, none⟩) (xn + 1) xc, X, 256), (.slice ya 0 yc, Y, 256)] [(r1, eP, 256)]) := HF0.out.step h
  clear h
  have c0_0 : w1.cell? ⟨w.heap.size, 0, none⟩ = some (.slice (some ⟨xg, xoff, none⟩) (xn + 1) xc) := HF1.out.cell 0 0 (okb rfl) (okb rfl)
  have c0_1 : w1.cell? ⟨w.heap.size, 1, none⟩ = some (.slice ya 0 yc) := HF1.out.cell 0 1 (okb rfl) (okb rfl)
  have c0_2 : w1.cell? ⟨w.heap.size, 2, none⟩ = some (.bool false) := HF1.out.cell 0 2 (okb rfl) (okb rfl)
  go_wp2_with fail
  refine (vcmp _ _ X eP _ _ _ (HF1.out.arg 0 (okb rfl)).1 (HF1.out.got 0 (okb rfl)).1 (by decide) (by decide)).mono ?_
  rintro e w2 ⟨rfl, q, hq⟩
  have HF2 : Hid (Fm w w2 [(31, [.slice (some ⟨xg, xoff, none⟩) (xn + 1) xc, .slice ya 0 yc, .bool false])] [(.slice (some ⟨xg, xoff, none⟩) (xn + 1) xc, X, 256), (.slice ya 0 yc, Y, 256)] [(r1, eP, 256)]) := (by rw [hq]; exact HF1.out.drewN q : Fm w w2 [(31, [.slice (some ⟨xg, xoff, none⟩) (xn + 1) xc, .slice ya 0 yc, .bool false])] [(.slice (some ⟨xg, xoff, none⟩) (xn + 1) xc, X, 256), (.slice ya 0 yc, Y, 256)] [(r1, eP, 256)])
  clear hq
  rw [cmp3_lt (show ((X : Nat) : Int) < ((eP : Nat) : Int) from Int.ofNat_lt.2 HX.out)]
  clear c0_0 c0_1 c0_2
  have c0_0 : w2.cell? ⟨w.heap.size, 0, none⟩ = some (.slice (some ⟨xg, xoff, none⟩) (xn + 1) xc) := HF2.out.cell 0 0 (okb rfl) (okb rfl)
  have c0_1 : w2.cell? ⟨w.heap.size, 1, none⟩ = some (.slice ya 0 yc) := HF2.out.cell 0 1 (okb rfl) (okb rfl)
  have c0_2 : w2.cell? ⟨w.heap.size, 2, none⟩ = some (.bool false) := HF2.out.cell 0 2 (okb rfl) (okb rfl)
  go_wp2_with fail
  refine (vcmp _ _ Y eP _ _ _ (HF2.out.arg 1 (okb rfl)).1 (HF2.out.got 0 (okb rfl)).1 (by decide) (by decide)).mono ?_
  rintro e w3 ⟨rfl, q, hq⟩
  have HF3 : Hid (Fm w w3 [(31, [.slice (some ⟨xg, xoff, none⟩) (xn + 1) xc, .slice ya 0 yc, .bool false])] [(.slice (some ⟨xg, xoff, none⟩) (xn + 1) xc, X, 256), (.slice ya 0 yc, Y, 256)] [(r1, eP, 256)]) := (by rw [hq]; exact HF2.out.drewN q : Fm w w3 [(31, [.slice (some ⟨xg, xoff, none⟩) (xn + 1) xc, .slice ya 0 yc, .bool false])] [(.slice (some ⟨xg, xoff, none⟩) (xn + 1) xc, X, 256), (.slice ya 0 yc, Y, 256)] [(r1, eP, 256)])
  clear hq
  rw [cmp3_lt (show ((Y : Nat) : Int) < ((eP : Nat) : Int) from Int.ofNat_lt.2 HY.out)]
  clear c0_0 c0_1 c0_2
  have c0_0 : w3.cell? ⟨w.heap.size, 0, none⟩ = some (.slice (some ⟨xg, xoff, none⟩) (xn + 1) xc) := HF3.out.cell 0 0 (okb rfl) (okb rfl)
  have c0_1 : w3.cell? ⟨w.heap.size, 1, none⟩ = some (.slice ya 0 yc) := HF3.out.cell 0 1 (okb rfl) (okb rfl)
  have c0_2 : w3.cell? ⟨w.heap.size, 2, none⟩ = some (.bool false) := HF3.out.cell 0 2 (okb rfl) (okb rfl)
  have klx : w3.cell? ⟨xg, xoff + xn, none⟩ = some (.int .u32 (xz : Int)) := cell_old HCx.out HF3.out.bel (Nat.le_refl _)
  go_wp2_with fail
  refine (mmulP _ _ _ X X 256 256 _ (HF3.out.arg 0 (okb rfl)) (HF3.out.arg 0 (okb rfl)) (HF3.out.got 0 (okb rfl)) (by decide) (by decide)).mono ?_
  rintro e w4 ⟨r4, rfl, h⟩
  have HF4 : Hid (Fm w w4 [(31, [.slice (some ⟨xg, xoff, none⟩) (xn + 1) xc, .slice ya 0 yc, .bool false])] [(.slice (some ⟨xg, xoff, none⟩) (xn + 1) xc, X, 256), (.slice ya 0 yc, Y, 256)] [(r4, fM eP X X, 256), (r1, eP, 256)]) := HF3.out.step h
  clear h
  clear c0_0 c0_1 c0_2 klx
  obtain ⟨e0, e1, e2, rfl⟩ := (HF4.out.got 0 (okb rfl)).sl
  have c0_0 : w4.cell? ⟨w.heap.size, 0, none⟩ = some (.slice (some ⟨xg, xoff, none⟩) (xn + 1) xc) := HF4.out.cell 0 0 (okb rfl) (okb rfl)
  have c0_1 : w4.cell? ⟨w.heap.size, 1, none⟩ = some (.slice ya 0 yc) := HF4.out.cell 0 1 (okb rfl) (okb rfl)
  have c0_2 : w4.cell? ⟨w.heap.size, 2, none⟩ = some (.bool false) := HF4.out.cell 0 2 (okb rfl) (okb rfl)
  go_wp2_with fail
  refine (mmulP _ _ _ Y Y 256 256 _ (HF4.out.arg 1 (okb rfl)) (HF4.out.arg 1 (okb rfl)) (HF4.out.got 1 (okb rfl)) (by decide) (by decide)).mono ?_
  rintro e w5 ⟨r5, rfl, h⟩
  have HF5 : Hid (Fm w w5 [(31, [.slice (some ⟨xg, xoff, none⟩) (xn + 1) xc, .slice ya 0 yc, .bool false])] [(.slice (some ⟨xg, xoff, none⟩) (xn + 1) xc, X, 256), (.slice ya 0 yc, Y, 256)] [(r5, fM eP Y Y, 256), (.slice e0 e1 e2, fM eP X X, 256), (r1, eP, 256)]) := HF4.out.step h
  clear h
  clear c0_0 c0_1 c0_2
  obtain ⟨f0, f1, f2, rfl⟩ := (HF5.out.got 0 (okb rfl)).sl
  go_wp2_with fail
  refine (msubP _ _ _ (fM eP Y Y) (fM eP X X) 256 256 _ (HF5.out.got 0 (okb rfl)) (HF5.out.got 1 (okb rfl)) (HF5.out.got 2 (okb rfl)) (by decide) (by decide)).mono ?_
  rintro e w6 ⟨r6, rfl, h⟩
  have HF6 : Hid (Fm w w6 [(31, [.slice (some ⟨xg, xoff, none⟩) (xn + 1) xc, .slice ya 0 yc, .bool false])] [(.slice (some ⟨xg, xoff, none⟩) (xn + 1) xc, X, 256), (.slice ya 0 yc, Y, 256)] [(r6, fS eP (fM eP Y Y) (fM eP X X), 256), (.slice f0 f1 f2, fM eP Y Y, 256), (.slice e0 e1 e2, fM eP X X, 256), (r1, eP, 256)]) := HF5.out.step h
  clear h
  obtain ⟨g0, g1, g2, rfl⟩ := (HF6.out.got 0 (okb rfl)).sl
  have HF7 : Hid (Fm w (w6.alloc (.cells #[.int .u32 121666] 43)) [(31, [.slice (some ⟨xg, xoff, none⟩) (xn + 1) xc, .slice ya 0 yc, .bool false])] [(.slice (some ⟨xg, xoff, none⟩) (xn + 1) xc, X, 256), (.slice ya 0 yc, Y, 256)] [(.slice (some ⟨w6.heap.size, 0, none⟩) 1 1, 121666, 32), (.slice g0 g1 g2, fS eP (fM eP Y Y) (fM eP X X), 256), (.slice f0 f1 f2, fM eP Y Y, 256), (.slice e0 e1 e2, fM eP X X, 256), (r1, eP, 256)]) := HF6.out.step (lit_v _ 121666 121666 rfl (by decide) (by decide))
  go_wp2_with fail
  generalize (w6.alloc (.cells #[.int .u32 121666] 43)) = wl8 at *
  refine (mmulP _ _ _ (fS eP (fM eP Y Y) (fM eP X X)) 121666 256 32 _ (HF7.out.got 1 (okb rfl)) (HF7.out.got 0 (okb rfl)) (HF7.out.got 4 (okb rfl)) (by decide) (by decide)).mono ?_
  rintro e w9 ⟨r9, rfl, h⟩
  have HF9 : Hid (Fm w w9 [(31, [.slice (some ⟨xg, xoff, none⟩) (xn + 1) xc, .slice ya 0 yc, .bool false])] [(.slice (some ⟨xg, xoff, none⟩) (xn + 1) xc, X, 256), (.slice ya 0 yc, Y, 256)] [(r9, fM eP (fS eP (fM eP Y Y) (fM eP X X)) 121666, 256), (.slice (some ⟨w6.heap.size, 0, none⟩) 1 1, 121666, 32), (.slice g0 g1 g2, fS eP (fM eP Y Y) (fM eP X X), 256), (.slice f0 f1 f2, fM eP Y Y, 256), (.slice e0 e1 e2, fM eP X X, 256), (r1, eP, 256)]) := HF7.out.step h
  clear h
  obtain ⟨h0, h1, h2, rfl⟩ := (HF9.out.got 0 (okb rfl)).sl
  go_wp2_with fail
  refine (mmulP _ _ _ (fM eP X X) (fM eP Y Y) 256 256 _ (HF9.out.got 4 (okb rfl)) (HF9.out.got 3 (okb rfl)) (HF9.out.got 5 (okb rfl)) (by decide) (by decide)).mono ?_
  rintro e w10 ⟨r10, rfl, h⟩
  have HF10 : Hid (Fm w w10 [(31, [.slice (some ⟨xg, xoff, none⟩) (xn + 1) xc, .slice ya 0 yc, .bool false])] [(.slice (some ⟨xg, xoff, none⟩) (xn + 1) xc, X, 256), (.slice ya 0 yc, Y, 256)] [(r10, fM eP (fM eP X X) (fM eP Y Y), 256), (.slice h0 h1 h2, fM eP (fS eP (fM eP Y Y) (fM eP X X)) 121666, 256), (.slice (some ⟨w6.heap.size, 0, none⟩) 1 1, 121666, 32), (.slice g0 g1 g2, fS eP (fM eP Y Y) (fM eP X X), 256), (.slice f0 f1 f2, fM eP Y Y, 256), (.slice e0 e1 e2, fM eP X X, 256), (r1, eP, 256)]) := HF9.out.step h
  clear h
  obtain ⟨i0, i1, i2, rfl⟩ := (HF10.out.got 0 (okb rfl)).sl
  have HF11 : Hid (Fm w (w10.alloc (.cells #[.int .u32 121665] 43)) [(31, [.slice (some ⟨xg, xoff, none⟩) (xn + 1) xc, .slice ya 0 yc, .bool false])] [(.slice (some ⟨xg, xoff, none⟩) (xn + 1) xc, X, 256), (.slice ya 0 yc, Y, 256)] [(.slice (some ⟨w10.heap.size, 0, none⟩) 1 1, 121665, 32), (.slice i0 i1 i2, fM eP (fM eP X X) (fM eP Y Y), 256), (.slice h0 h1 h2, fM eP (fS eP (fM eP Y Y) (fM eP X X)) 121666, 256), (.slice (some ⟨w6.heap.size, 0, none⟩) 1 1, 121666, 32), (.slice g0 g1 g2, fS eP (fM eP Y Y) (fM eP X X), 256), (.slice f0 f1 f2, fM eP Y Y, 256), (.slice e0 e1 e2, fM eP X X, 256), (r1, eP, 256)]) := HF10.out.step (lit_v _ 121665 121665 rfl (by decide) (by decide))
  go_wp2_with fail
  generalize (w10.alloc (.cells #[.int .u32 121665] 43)) = wl12 at *
  refine (mmulP _ _ _ (fM eP (fM eP X X) (fM eP Y Y)) 121665 256 32 _ (HF11.out.got 1 (okb rfl)) (HF11.out.got 0 (okb rfl)) (HF11.out.got 7 (okb rfl)) (by decide) (by decide)).mono ?_
  rintro e w13 ⟨r13, rfl, h⟩
  have HF13 : Hid (Fm w w13 [(31, [.slice (some ⟨xg, xoff, none⟩) (xn + 1) xc, .slice ya 0 yc, .bool false])] [(.slice (some ⟨xg, xoff, none⟩) (xn + 1) xc, X, 256), (.slice ya 0 yc, Y, 256)] [(r13, fM eP (fM eP (fM eP X X) (fM eP Y Y)) 121665, 256), (.slice (some ⟨w10.heap.size, 0, none⟩) 1 1, 121665, 32), (.slice i0 i1 i2, fM eP (fM eP X X) (fM eP Y Y), 256), (.slice h0 h1 h2, fM eP (fS eP (fM eP Y Y) (fM eP X X)) 121666, 256), (.slice (some ⟨w6.heap.size, 0, none⟩) 1 1, 121666, 32), (.slice g0 g1 g2, fS eP (fM eP Y Y) (fM eP X X), 256), (.slice f0 f1 f2, fM eP Y Y, 256), (.slice e0 e1 e2, fM eP X X, 256), (r1, eP, 256)]) := HF11.out.step h
  clear h
  obtain ⟨j0, j1, j2, rfl⟩ := (HF13.out.got 0 (okb rfl)).sl
  have HF14 : Hid (Fm w (w13.alloc (.cells #[.int .u32 121666] 43)) [(31, [.slice (some ⟨xg, xoff, none⟩) (xn + 1) xc, .slice ya 0 yc, .bool false])] [(.slice (some ⟨xg, xoff, none⟩) (xn + 1) xc, X, 256), (.slice ya 0 yc, Y, 256)] [(.slice (some ⟨w13.heap.size, 0, none⟩) 1 1, 121666, 32), (.slice j0 j1 j2, fM eP (fM eP (fM eP X X) (fM eP Y Y)) 121665, 256), (.slice (some ⟨w10.heap.size, 0, none⟩) 1 1, 121665, 32), (.slice i0 i1 i2, fM eP (fM eP X X) (fM eP Y Y), 256), (.slice h0 h1 h2, fM eP (fS eP (fM eP Y Y) (fM eP X X)) 121666, 256), (.slice (some ⟨w6.heap.size, 0, none⟩) 1 1, 121666, 32), (.slice g0 g1 g2, fS eP (fM eP Y Y) (fM eP X X), 256), (.slice f0 f1 f2, fM eP Y Y, 256), (.slice e0 e1 e2, fM eP X X, 256), (r1, eP, 256)]) := HF13.out.step (lit_v _ 121666 121666 rfl (by decide) (by decide))
  go_wp2_with fail
  generalize (w13.alloc (.cells #[.int .u32 121666] 43)) = wl15 at *
  refine (msubP _ _ _ 121666 (fM eP (fM eP (fM eP X X) (fM eP Y Y)) 121665) 32 256 _ (HF14.out.got 0 (okb rfl)) (HF14.out.got 1 (okb rfl)) (HF14.out.got 9 (okb rfl)) (by decide) (by decide)).mono ?_
  rintro e w16 ⟨r16, rfl, h⟩
  have HF16 : Hid (Fm w w16 [(31, [.slice (some ⟨xg, xoff, none⟩) (xn + 1) xc, .slice ya 0 yc, .bool false])] [(.slice (some ⟨xg, xoff, none⟩) (xn + 1) xc, X, 256), (.slice ya 0 yc, Y, 256)] [(r16, fS eP 121666 (fM eP (fM eP (fM eP X X) (fM eP Y Y)) 121665), 256), (.slice (some ⟨w13.heap.size, 0, none⟩) 1 1, 121666, 32), (.slice j0 j1 j2, fM eP (fM eP (fM eP X X) (fM eP Y Y)) 121665, 256), (.slice (some ⟨w10.heap.size, 0, none⟩) 1 1, 121665, 32), (.slice i0 i1 i2, fM eP (fM eP X X) (fM eP Y Y), 256), (.slice h0 h1 h2, fM eP (fS eP (fM eP Y Y) (fM eP X X)) 121666, 256), (.slice (some ⟨w6.heap.size, 0, none⟩) 1 1, 121666, 32), (.slice g0 g1 g2, fS eP (fM eP Y Y) (fM eP X X), 256), (.slice f0 f1 f2, fM eP Y Y, 256), (.slice e0 e1 e2, fM eP X X, 256), (r1, eP, 256)]) := HF14.out.step h
  clear h
  obtain ⟨k0, k1, k2, rfl⟩ := (HF16.out.got 0 (okb rfl)).sl
  have ml := HF16.out.made _ (List.getElem_mem (show 5 < _ by simp))
  have mr := HF16.out.made _ (List.getElem_mem (show 0 < _ by simp))
  have C := sameNat_nm _ _ _ _ _ ml.nm mr.nm (Nat.le_trans ml.2.1 (by decide))
  rw [dec_dg] at C
  clear ml mr
  go_wp2_with fail
  refine C.mono ?_
  clear C
  rintro e wz ⟨rfl, q, rfl⟩
  go_wp2
  go_ret
  exact ⟨rfl, HF16.out.drewN q |>.bel⟩
set_option maxHeartbeats 20000000 in
theorem lon_11 (x y : Value) (X Y : Nat) (w : World) (hx : Nm w x (dg Bs X)) (hy : Nm w y (dg Bs Y)) (lx : (dg Bs X).length ≤ 3000000) (ly : (dg Bs Y).length ≤ 3000000) (hX : X < eP) (hY : Y < eP) (hX0 : 0 < X) (hY0 : 0 < Y) : Calls Tryz.prog 16 #[.agg #[x, y, .bool false]] w fun e w' => e = .returned (.bool (decide (fM eP (fS eP (fM eP Y Y) (fM eP X X)) 121666 = fS eP 121666 (fM eP (fM eP (fM eP X X) (fM eP Y Y)) 121665)))) ∧ Below w.heap.size w w' := by
  have hNx := hx
  obtain ⟨xg, xoff, xn, xc, xz, rfl, hlnx, hclx, hzx⟩ := nm_open hx hX0
  have hNy := hy
  obtain ⟨yg, yoff, yn, yc, yz, rfl, hlny, hcly, hzy⟩ := nm_open hy hY0
  have HF0 : Hid (Fm w (w.alloc (.cells #[.slice (some ⟨xg, xoff, none⟩) (xn + 1) xc, .slice (some ⟨yg, yoff, none⟩) (yn + 1) yc, .bool false] 31)) [(31, [.slice (some ⟨xg, xoff, none⟩) (xn + 1) xc, .slice (some ⟨yg, yoff, none⟩) (yn + 1) yc, .bool false])] [(.slice (some ⟨xg, xoff, none⟩) (xn + 1) xc, X, 256), (.slice (some ⟨yg, yoff, none⟩) (yn + 1) yc, Y, 256)] []) := ((Fm.nil (w := w) (A := [(.slice (some ⟨xg, xoff, none⟩) (xn + 1) xc, X, 256), (.slice (some ⟨yg, yoff, none⟩) (yn + 1) yc, Y, 256)]) (ar_cons ⟨hx.nud lx, lt_pw hX⟩ (ar_cons ⟨hy.nud ly, lt_pw hY⟩ ar_nil))).push (by simp) 31 [.slice (some ⟨xg, xoff, none⟩) (xn + 1) xc, .slice (some ⟨yg, yoff, none⟩) (yn + 1) yc, .bool false])
  have HX : Hid (X < eP) := hX
  have HY : Hid (Y < eP) := hY
  have HCx : Hid (w.cell? ⟨xg, xoff + xn, none⟩ = some (.int .u32 (xz : Int))) := hclx
  have hzzx : ((xz : Int) == 0) = false := by simp; omega
  have hposx : (0 : Int) < ((xn + 1 : Nat) : Int) := by omega
  have hsubx : ((xn + 1 : Nat) : Int) - 1 = (xn : Int) := by omega
  have hbnx : xn ≤ 3000000 := by omega
  have HCy : Hid (w.cell? ⟨yg, yoff + yn, none⟩ = some (.int .u32 (yz : Int))) := hcly
  have hzzy : ((yz : Int) == 0) = false := by simp; omega
  have hposy : (0 : Int) < ((yn + 1 : Nat) : Int) := by omega
  have hsuby : ((yn + 1 : Nat) : Int) - 1 = (yn : Int) := by omega
  have hbny : yn ≤ 3000000 := by omega
  clear hx hy lx ly hX hY hNx hlnx hclx hzx hX0 hNy hlny hcly hzy hY0
  go_enter Tryz.func16, Tryz.ntmps16
  go_wp2_with fail
  generalize (w.alloc (.cells #[.slice (some ⟨xg, xoff, none⟩) (xn + 1) xc, .slice (some ⟨yg, yoff, none⟩) (yn + 1) yc, .bool false] 31)) = w0 at *
  refine (lprime_v _).mono ?_
  rintro e w1 ⟨r1, rfl, h⟩
  have HF1 : Hid (Fm w w1 [(31, [.slice (some ⟨xg, xoff, none⟩) (xn + 1) xc, .slice (some ⟨yg, yoff, none⟩) (yn + 1) yc, .bool false])] [(.slice (some ⟨xg, xoff, none⟩) (xn + 1) xc, X, 256), (.slice (some ⟨yg, yoff, none⟩) (yn + 1) yc, Y, 256)] [(r1, eP, 256)]) := HF0.out.step h
  clear h
  have c0_0 : w1.cell? ⟨w.heap.size, 0, none⟩ = some (.slice (some ⟨xg, xoff, none⟩) (xn + 1) xc) := HF1.out.cell 0 0 (okb rfl) (okb rfl)
  have c0_1 : w1.cell? ⟨w.heap.size, 1, none⟩ = some (.slice (some ⟨yg, yoff, none⟩) (yn + 1) yc) := HF1.out.cell 0 1 (okb rfl) (okb rfl)
  have c0_2 : w1.cell? ⟨w.heap.size, 2, none⟩ = some (.bool false) := HF1.out.cell 0 2 (okb rfl) (okb rfl)
  go_wp2_with fail
  refine (vcmp _ _ X eP _ _ _ (HF1.out.arg 0 (okb rfl)).1 (HF1.out.got 0 (okb rfl)).1 (by decide) (by decide)).mono ?_
  rintro e w2 ⟨rfl, q, hq⟩
  have HF2 : Hid (Fm w w2 [(31, [.slice (some ⟨xg, xoff, none⟩) (xn + 1) xc, .slice (some ⟨yg, yoff, none⟩) (yn + 1) yc, .bool false])] [(.slice (some ⟨xg, xoff, none⟩) (xn + 1) xc, X, 256), (.slice (some ⟨yg, yoff, none⟩) (yn + 1) yc, Y, 256)] [(r1, eP, 256)]) := (by rw [hq]; exact HF1.out.drewN q : Fm w w2 [(31, [.slice (some ⟨xg, xoff, none⟩) (xn + 1) xc, .slice (some ⟨yg, yoff, none⟩) (yn + 1) yc, .bool false])] [(.slice (some ⟨xg, xoff, none⟩) (xn + 1) xc, X, 256), (.slice (some ⟨yg, yoff, none⟩) (yn + 1) yc, Y, 256)] [(r1, eP, 256)])
  clear hq
  rw [cmp3_lt (show ((X : Nat) : Int) < ((eP : Nat) : Int) from Int.ofNat_lt.2 HX.out)]
  clear c0_0 c0_1 c0_2
  have c0_0 : w2.cell? ⟨w.heap.size, 0, none⟩ = some (.slice (some ⟨xg, xoff, none⟩) (xn + 1) xc) := HF2.out.cell 0 0 (okb rfl) (okb rfl)
  have c0_1 : w2.cell? ⟨w.heap.size, 1, none⟩ = some (.slice (some ⟨yg, yoff, none⟩) (yn + 1) yc) := HF2.out.cell 0 1 (okb rfl) (okb rfl)
  have c0_2 : w2.cell? ⟨w.heap.size, 2, none⟩ = some (.bool false) := HF2.out.cell 0 2 (okb rfl) (okb rfl)
  go_wp2_with fail
  refine (vcmp _ _ Y eP _ _ _ (HF2.out.arg 1 (okb rfl)).1 (HF2.out.got 0 (okb rfl)).1 (by decide) (by decide)).mono ?_
  rintro e w3 ⟨rfl, q, hq⟩
  have HF3 : Hid (Fm w w3 [(31, [.slice (some ⟨xg, xoff, none⟩) (xn + 1) xc, .slice (some ⟨yg, yoff, none⟩) (yn + 1) yc, .bool false])] [(.slice (some ⟨xg, xoff, none⟩) (xn + 1) xc, X, 256), (.slice (some ⟨yg, yoff, none⟩) (yn + 1) yc, Y, 256)] [(r1, eP, 256)]) := (by rw [hq]; exact HF2.out.drewN q : Fm w w3 [(31, [.slice (some ⟨xg, xoff, none⟩) (xn + 1) xc, .slice (some ⟨yg, yoff, none⟩) (yn + 1) yc, .bool false])] [(.slice (some ⟨xg, xoff, none⟩) (xn + 1) xc, X, 256), (.slice (some ⟨yg, yoff, none⟩) (yn + 1) yc, Y, 256)] [(r1, eP, 256)])
  clear hq
  rw [cmp3_lt (show ((Y : Nat) : Int) < ((eP : Nat) : Int) from Int.ofNat_lt.2 HY.out)]
  clear c0_0 c0_1 c0_2
  have c0_0 : w3.cell? ⟨w.heap.size, 0, none⟩ = some (.slice (some ⟨xg, xoff, none⟩) (xn + 1) xc) := HF3.out.cell 0 0 (okb rfl) (okb rfl)
  have c0_1 : w3.cell? ⟨w.heap.size, 1, none⟩ = some (.slice (some ⟨yg, yoff, none⟩) (yn + 1) yc) := HF3.out.cell 0 1 (okb rfl) (okb rfl)
  have c0_2 : w3.cell? ⟨w.heap.size, 2, none⟩ = some (.bool false) := HF3.out.cell 0 2 (okb rfl) (okb rfl)
  have klx : w3.cell? ⟨xg, xoff + xn, none⟩ = some (.int .u32 (xz : Int)) := cell_old HCx.out HF3.out.bel (Nat.le_refl _)
  have kly : w3.cell? ⟨yg, yoff + yn, none⟩ = some (.int .u32 (yz : Int)) := cell_old HCy.out HF3.out.bel (Nat.le_refl _)
  go_wp2_with fail
  refine (mmulP _ _ _ X X 256 256 _ (HF3.out.arg 0 (okb rfl)) (HF3.out.arg 0 (okb rfl)) (HF3.out.got 0 (okb rfl)) (by decide) (by decide)).mono ?_
  rintro e w4 ⟨r4, rfl, h⟩
  have HF4 : Hid (Fm w w4 [(31, [.slice (some ⟨xg, xoff, none⟩) (xn + 1) xc, .slice (some ⟨yg, yoff, none⟩) (yn + 1) yc, .bool false])] [(.slice (some ⟨xg, xoff, none⟩) (xn + 1) xc, X, 256), (.slice (some ⟨yg, yoff, none⟩) (yn + 1) yc, Y, 256)] [(r4, fM eP X X, 256), (r1, eP, 256)]) := HF3.out.step h
  clear h
  clear c0_0 c0_1 c0_2 klx kly
  obtain ⟨e0, e1, e2, rfl⟩ := (HF4.out.got 0 (okb rfl)).sl
  have c0_0 : w4.cell? ⟨w.heap.size, 0, none⟩ = some (.slice (some ⟨xg, xoff, none⟩) (xn + 1) xc) := HF4.out.cell 0 0 (okb rfl) (okb rfl)
  have c0_1 : w4.cell? ⟨w.heap.size, 1, none⟩ = some (.slice (some ⟨yg, yoff, none⟩) (yn + 1) yc) := HF4.out.cell 0 1 (okb rfl) (okb rfl)
  have c0_2 : w4.cell? ⟨w.heap.size, 2, none⟩ = some (.bool false) := HF4.out.cell 0 2 (okb rfl) (okb rfl)
  go_wp2_with fail
  refine (mmulP _ _ _ Y Y 256 256 _ (HF4.out.arg 1 (okb rfl)) (HF4.out.arg 1 (okb rfl)) (HF4.out.got 1 (okb rfl)) (by decide) (by decide)).mono ?_
  rintro e w5 ⟨r5, rfl, h⟩
  have HF5 : Hid (Fm w w5 [(31, [.slice (some ⟨xg, xoff, none⟩) (xn + 1) xc, .slice (some ⟨yg, yoff, none⟩) (yn + 1) yc, .bool false])] [(.slice (some ⟨xg, xoff, none⟩) (xn + 1) xc, X, 256), (.slice (some ⟨yg, yoff, none⟩) (yn + 1) yc, Y, 256)] [(r5, fM eP Y Y, 256), (.slice e0 e1 e2, fM eP X X, 256), (r1, eP, 256)]) := HF4.out.step h
  clear h
  clear c0_0 c0_1 c0_2
  obtain ⟨f0, f1, f2, rfl⟩ := (HF5.out.got 0 (okb rfl)).sl
  go_wp2_with fail
  refine (msubP _ _ _ (fM eP Y Y) (fM eP X X) 256 256 _ (HF5.out.got 0 (okb rfl)) (HF5.out.got 1 (okb rfl)) (HF5.out.got 2 (okb rfl)) (by decide) (by decide)).mono ?_
  rintro e w6 ⟨r6, rfl, h⟩
  have HF6 : Hid (Fm w w6 [(31, [.slice (some ⟨xg, xoff, none⟩) (xn + 1) xc, .slice (some ⟨yg, yoff, none⟩) (yn + 1) yc, .bool false])] [(.slice (some ⟨xg, xoff, none⟩) (xn + 1) xc, X, 256), (.slice (some ⟨yg, yoff, none⟩) (yn + 1) yc, Y, 256)] [(r6, fS eP (fM eP Y Y) (fM eP X X), 256), (.slice f0 f1 f2, fM eP Y Y, 256), (.slice e0 e1 e2, fM eP X X, 256), (r1, eP, 256)]) := HF5.out.step h
  clear h
  obtain ⟨g0, g1, g2, rfl⟩ := (HF6.out.got 0 (okb rfl)).sl
  have HF7 : Hid (Fm w (w6.alloc (.cells #[.int .u32 121666] 43)) [(31, [.slice (some ⟨xg, xoff, none⟩) (xn + 1) xc, .slice (some ⟨yg, yoff, none⟩) (yn + 1) yc, .bool false])] [(.slice (some ⟨xg, xoff, none⟩) (xn + 1) xc, X, 256), (.slice (some ⟨yg, yoff, none⟩) (yn + 1) yc, Y, 256)] [(.slice (some ⟨w6.heap.size, 0, none⟩) 1 1, 121666, 32), (.slice g0 g1 g2, fS eP (fM eP Y Y) (fM eP X X), 256), (.slice f0 f1 f2, fM eP Y Y, 256), (.slice e0 e1 e2, fM eP X X, 256), (r1, eP, 256)]) := HF6.out.step (lit_v _ 121666 121666 rfl (by decide) (by decide))
  go_wp2_with fail
  generalize (w6.alloc (.cells #[.int .u32 121666] 43)) = wl8 at *
  refine (mmulP _ _ _ (fS eP (fM eP Y Y) (fM eP X X)) 121666 256 32 _ (HF7.out.got 1 (okb rfl)) (HF7.out.got 0 (okb rfl)) (HF7.out.got 4 (okb rfl)) (by decide) (by decide)).mono ?_
  rintro e w9 ⟨r9, rfl, h⟩
  have HF9 : Hid (Fm w w9 [(31, [.slice (some ⟨xg, xoff, none⟩) (xn + 1) xc, .slice (some ⟨yg, yoff, none⟩) (yn + 1) yc, .bool false])] [(.slice (some ⟨xg, xoff, none⟩) (xn + 1) xc, X, 256), (.slice (some ⟨yg, yoff, none⟩) (yn + 1) yc, Y, 256)] [(r9, fM eP (fS eP (fM eP Y Y) (fM eP X X)) 121666, 256), (.slice (some ⟨w6.heap.size, 0, none⟩) 1 1, 121666, 32), (.slice g0 g1 g2, fS eP (fM eP Y Y) (fM eP X X), 256), (.slice f0 f1 f2, fM eP Y Y, 256), (.slice e0 e1 e2, fM eP X X, 256), (r1, eP, 256)]) := HF7.out.step h
  clear h
  obtain ⟨h0, h1, h2, rfl⟩ := (HF9.out.got 0 (okb rfl)).sl
  go_wp2_with fail
  refine (mmulP _ _ _ (fM eP X X) (fM eP Y Y) 256 256 _ (HF9.out.got 4 (okb rfl)) (HF9.out.got 3 (okb rfl)) (HF9.out.got 5 (okb rfl)) (by decide) (by decide)).mono ?_
  rintro e w10 ⟨r10, rfl, h⟩
  have HF10 : Hid (Fm w w10 [(31, [.slice (some ⟨xg, xoff, none⟩) (xn + 1) xc, .slice (some ⟨yg, yoff, none⟩) (yn + 1) yc, .bool false])] [(.slice (some ⟨xg, xoff, none⟩) (xn + 1) xc, X, 256), (.slice (some ⟨yg, yoff, none⟩) (yn + 1) yc, Y, 256)] [(r10, fM eP (fM eP X X) (fM eP Y Y), 256), (.slice h0 h1 h2, fM eP (fS eP (fM eP Y Y) (fM eP X X)) 121666, 256), (.slice (some ⟨w6.heap.size, 0, none⟩) 1 1, 121666, 32), (.slice g0 g1 g2, fS eP (fM eP Y Y) (fM eP X X), 256), (.slice f0 f1 f2, fM eP Y Y, 256), (.slice e0 e1 e2, fM eP X X, 256), (r1, eP, 256)]) := HF9.out.step h
  clear h
  obtain ⟨i0, i1, i2, rfl⟩ := (HF10.out.got 0 (okb rfl)).sl
  have HF11 : Hid (Fm w (w10.alloc (.cells #[.int .u32 121665] 43)) [(31, [.slice (some ⟨xg, xoff, none⟩) (xn + 1) xc, .slice (some ⟨yg, yoff, none⟩) (yn + 1) yc, .bool false])] [(.slice (some ⟨xg, xoff, none⟩) (xn + 1) xc, X, 256), (.slice (some ⟨yg, yoff, none⟩) (yn + 1) yc, Y, 256)] [(.slice (some ⟨w10.heap.size, 0, none⟩) 1 1, 121665, 32), (.slice i0 i1 i2, fM eP (fM eP X X) (fM eP Y Y), 256), (.slice h0 h1 h2, fM eP (fS eP (fM eP Y Y) (fM eP X X)) 121666, 256), (.slice (some ⟨w6.heap.size, 0, none⟩) 1 1, 121666, 32), (.slice g0 g1 g2, fS eP (fM eP Y Y) (fM eP X X), 256), (.slice f0 f1 f2, fM eP Y Y, 256), (.slice e0 e1 e2, fM eP X X, 256), (r1, eP, 256)]) := HF10.out.step (lit_v _ 121665 121665 rfl (by decide) (by decide))
  go_wp2_with fail
  generalize (w10.alloc (.cells #[.int .u32 121665] 43)) = wl12 at *
  refine (mmulP _ _ _ (fM eP (fM eP X X) (fM eP Y Y)) 121665 256 32 _ (HF11.out.got 1 (okb rfl)) (HF11.out.got 0 (okb rfl)) (HF11.out.got 7 (okb rfl)) (by decide) (by decide)).mono ?_
  rintro e w13 ⟨r13, rfl, h⟩
  have HF13 : Hid (Fm w w13 [(31, [.slice (some ⟨xg, xoff, none⟩) (xn + 1) xc, .slice (some ⟨yg, yoff, none⟩) (yn + 1) yc, .bool false])] [(.slice (some ⟨xg, xoff, none⟩) (xn + 1) xc, X, 256), (.slice (some ⟨yg, yoff, none⟩) (yn + 1) yc, Y, 256)] [(r13, fM eP (fM eP (fM eP X X) (fM eP Y Y)) 121665, 256), (.slice (some ⟨w10.heap.size, 0, none⟩) 1 1, 121665, 32), (.slice i0 i1 i2, fM eP (fM eP X X) (fM eP Y Y), 256), (.slice h0 h1 h2, fM eP (fS eP (fM eP Y Y) (fM eP X X)) 121666, 256), (.slice (some ⟨w6.heap.size, 0, none⟩) 1 1, 121666, 32), (.slice g0 g1 g2, fS eP (fM eP Y Y) (fM eP X X), 256), (.slice f0 f1 f2, fM eP Y Y, 256), (.slice e0 e1 e2, fM eP X X, 256), (r1, eP, 256)]) := HF11.out.step h
  clear h
  obtain ⟨j0, j1, j2, rfl⟩ := (HF13.out.got 0 (okb rfl)).sl
  have HF14 : Hid (Fm w (w13.alloc (.cells #[.int .u32 121666] 43)) [(31, [.slice (some ⟨xg, xoff, none⟩) (xn + 1) xc, .slice (some ⟨yg, yoff, none⟩) (yn + 1) yc, .bool false])] [(.slice (some ⟨xg, xoff, none⟩) (xn + 1) xc, X, 256), (.slice (some ⟨yg, yoff, none⟩) (yn + 1) yc, Y, 256)] [(.slice (some ⟨w13.heap.size, 0, none⟩) 1 1, 121666, 32), (.slice j0 j1 j2, fM eP (fM eP (fM eP X X) (fM eP Y Y)) 121665, 256), (.slice (some ⟨w10.heap.size, 0, none⟩) 1 1, 121665, 32), (.slice i0 i1 i2, fM eP (fM eP X X) (fM eP Y Y), 256), (.slice h0 h1 h2, fM eP (fS eP (fM eP Y Y) (fM eP X X)) 121666, 256), (.slice (some ⟨w6.heap.size, 0, none⟩) 1 1, 121666, 32), (.slice g0 g1 g2, fS eP (fM eP Y Y) (fM eP X X), 256), (.slice f0 f1 f2, fM eP Y Y, 256), (.slice e0 e1 e2, fM eP X X, 256), (r1, eP, 256)]) := HF13.out.step (lit_v _ 121666 121666 rfl (by decide) (by decide))
  go_wp2_with fail
  generalize (w13.alloc (.cells #[.int .u32 121666] 43)) = wl15 at *
  refine (msubP _ _ _ 121666 (fM eP (fM eP (fM eP X X) (fM eP Y Y)) 121665) 32 256 _ (HF14.out.got 0 (okb rfl)) (HF14.out.got 1 (okb rfl)) (HF14.out.got 9 (okb rfl)) (by decide) (by decide)).mono ?_
  rintro e w16 ⟨r16, rfl, h⟩
  have HF16 : Hid (Fm w w16 [(31, [.slice (some ⟨xg, xoff, none⟩) (xn + 1) xc, .slice (some ⟨yg, yoff, none⟩) (yn + 1) yc, .bool false])] [(.slice (some ⟨xg, xoff, none⟩) (xn + 1) xc, X, 256), (.slice (some ⟨yg, yoff, none⟩) (yn + 1) yc, Y, 256)] [(r16, fS eP 121666 (fM eP (fM eP (fM eP X X) (fM eP Y Y)) 121665), 256), (.slice (some ⟨w13.heap.size, 0, none⟩) 1 1, 121666, 32), (.slice j0 j1 j2, fM eP (fM eP (fM eP X X) (fM eP Y Y)) 121665, 256), (.slice (some ⟨w10.heap.size, 0, none⟩) 1 1, 121665, 32), (.slice i0 i1 i2, fM eP (fM eP X X) (fM eP Y Y), 256), (.slice h0 h1 h2, fM eP (fS eP (fM eP Y Y) (fM eP X X)) 121666, 256), (.slice (some ⟨w6.heap.size, 0, none⟩) 1 1, 121666, 32), (.slice g0 g1 g2, fS eP (fM eP Y Y) (fM eP X X), 256), (.slice f0 f1 f2, fM eP Y Y, 256), (.slice e0 e1 e2, fM eP X X, 256), (r1, eP, 256)]) := HF14.out.step h
  clear h
  obtain ⟨k0, k1, k2, rfl⟩ := (HF16.out.got 0 (okb rfl)).sl
  have ml := HF16.out.made _ (List.getElem_mem (show 5 < _ by simp))
  have mr := HF16.out.made _ (List.getElem_mem (show 0 < _ by simp))
  have C := sameNat_nm _ _ _ _ _ ml.nm mr.nm (Nat.le_trans ml.2.1 (by decide))
  rw [dec_dg] at C
  clear ml mr
  go_wp2_with fail
  refine C.mono ?_
  clear C
  rintro e wz ⟨rfl, q, rfl⟩
  go_wp2
  go_ret
  exact ⟨rfl, HF16.out.drewN q |>.bel⟩
theorem lon_eq (X Y : Nat) : (fM eP (fS eP (fM eP Y Y) (fM eP X X)) 121666 = fS eP 121666 (fM eP (fM eP (fM eP X X) (fM eP Y Y)) 121665)) ↔ eqE eP eD X Y := by
  have c1 : (eP : Int) ∣ (fM eP (fS eP (fM eP Y Y) (fM eP X X)) 121666 : Int) - ((Y : Int) * Y - (X : Int) * X) * (121666 : Nat) := cg_fM (cg_fS pmP (cg_fM cg_nat cg_nat) (cg_fM cg_nat cg_nat)) cg_nat
  have c2 : (eP : Int) ∣ (fS eP 121666 (fM eP (fM eP (fM eP X X) (fM eP Y Y)) 121665) : Int) - ((121666 : Nat) - ((X : Int) * X) * ((Y : Int) * Y) * (121665 : Nat)) := cg_fS pmP cg_nat (cg_fM (cg_fM (cg_fM cg_nat cg_nat) (cg_fM cg_nat cg_nat)) cg_nat)
  have hd : (eP : Int) ∣ 121666 * (eD : Int) + 121665 := Int.dvd_of_emod_eq_zero (by decide +kernel)
  have n6 : ¬ (eP : Int) ∣ 121666 := fun h => absurd (Int.le_of_dvd (by omega) h) (by decide +kernel)
  have l1 := fM_lt pmP (fS eP (fM eP Y Y) (fM eP X X)) 121666
  have l2 := fS_lt pmP 121666 (fM eP (fM eP (fM eP X X) (fM eP Y Y)) 121665)
  generalize fM eP (fS eP (fM eP Y Y) (fM eP X X)) 121666 = a at *
  generalize fS eP 121666 (fM eP (fM eP (fM eP X X) (fM eP Y Y)) 121665) = b at *
  unfold eqE
  constructor
  · intro h
    subst h
    refine prP.can n6 ?_
    exact lc3 (-1) 1 (-(((X : Int) * X) * ((Y : Int) * Y))) c1 c2 hd (by grind)
  · intro h
    refine eq_of_dvd l1 l2 ?_
    exact lc4 1 (-1) 121666 (((X : Int) * X) * ((Y : Int) * Y)) c1 c2 h hd (by grind)
theorem lon_dec {X Y : Nat} (hX : X < eP) (hY : Y < eP) : decide (fM eP (fS eP (fM eP Y Y) (fM eP X X)) 121666 = fS eP 121666 (fM eP (fM eP (fM eP X X) (fM eP Y Y)) 121665)) = onV X Y false := by
  rw [Bool.eq_iff_iff, decide_eq_true_eq, lon_eq, onV_iff]
  exact ⟨fun h => ⟨rfl, hX, hY, h⟩, fun h => h.2.2.2⟩
theorem lon_v (x y : Value) (X Y : Nat) (inf : Bool) (w : World) (hx : Nm w x (dg Bs X)) (hy : Nm w y (dg Bs Y)) (lx : (dg Bs X).length ≤ 3000000) (ly : (dg Bs Y).length ≤ 3000000) : Calls Tryz.prog 16 #[.agg #[x, y, .bool inf]] w fun e w' => e = .returned (.bool (onV X Y inf)) ∧ Below w.heap.size w w' := by
  cases inf with
  | true => exact lon_inf x y X Y w hx hy lx ly
  | false =>
    rcases Nat.lt_trichotomy X eP with h | h | h
    · rcases Nat.lt_trichotomy Y eP with g | g | g
      · rw [← lon_dec h g]
        rcases Nat.eq_zero_or_pos X with h0 | h0 <;> rcases Nat.eq_zero_or_pos Y with g0 | g0
        · exact lon_00 x y X Y w hx hy lx ly h g h0 g0
        · exact lon_01 x y X Y w hx hy lx ly h g h0 g0
        · exact lon_10 x y X Y w hx hy lx ly h g h0 g0
        · exact lon_11 x y X Y w hx hy lx ly h g h0 g0
      · have e : onV X Y false = false := by unfold onV; rw [decide_eq_false (show ¬ Y < eP by omega)]; simp
        rw [e]; exact lon_le x y X Y w hx hy lx ly h g
      · have e : onV X Y false = false := by unfold onV; rw [decide_eq_false (show ¬ Y < eP by omega)]; simp
        rw [e]; exact lon_lg x y X Y w hx hy lx ly h g
    · have e : onV X Y false = false := by unfold onV; rw [decide_eq_false (show ¬ X < eP by omega)]; simp
      rw [e]; exact lon_e x y X Y w hx hy lx ly h
    · have e : onV X Y false = false := by unfold onV; rw [decide_eq_false (show ¬ X < eP by omega)]; simp
      rw [e]; exact lon_g x y X Y w hx hy lx ly h
end Go.Proofs.YtjpjepfmphlneaaGreatDoor
