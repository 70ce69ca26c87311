import Derived.Test.YtmngdaolgdhgmaaGreatDoorCRn
import Derived.Test.YtmngdaolgdhgmaaGreatDoorNtZ6
namespace Go.Proofs.YtmngdaolgdhgmaaGreatDoor
open Go.RowKit

set_option maxRecDepth 100000

/-- A number of one's own, of any size. -/
def Ob' (w : World) (base : Nat) (v : Value) (V : Nat) : Prop := Ow w base v (dg Bs V) ∧ (dg Bs V).length ≤ 3000000
theorem Ob'.below {w w' : World} {base : Nat} {v : Value} {V : Nat} (h : Ob' w base v V) (hb : Below w.heap.size w w') : Ob' w' base v V := ⟨h.1.below hb (Nat.le_refl _), h.2⟩
theorem Ob'.mk {w : World} {base : Nat} {v : Value} {V : Nat} (h : Ob' w base v V) (hV : V < pw 384) : Mk w base v V 384 := ⟨h.1, h.2, hV⟩
theorem Ob'.nu {w : World} {base : Nat} {v : Value} {V : Nat} (h : Ob' w base v V) : Nu w v V := h.1.vl h.2
theorem number_e {n V : Nat} {l : List UInt8} {w : World} (hl : l.length = 8 * n) (hn : n ≤ 100) (hh : ∀ c ∈ l, Hxd c = true) (hV : limbsH n l = dg Bs V) (hp : V < pw 384) :
    Calls Tryz.prog 42 #[.string ⟨l.toArray⟩] w fun e w' => ∃ r, e = .returned r ∧ Mk w' w.heap.size r V 384 ∧ Below w.heap.size w w' := by
  refine (number_q n l w hl hn hh).mono ?_
  rintro e w' ⟨r, rfl, h⟩
  have h1 := h.own
  rw [hV] at h1
  exact ⟨r, rfl, ⟨h1, by rw [← hV, limbsH_len]; omega, hp⟩, h.bel⟩
theorem rcmpq {v u : Value} {X Y : Nat} {w : World} (hv : Nu w v X) (hu : Nu w u Y) : Calls Tryz.prog 45 #[v, u] w fun e w' => e = .returned (.int .i64 (cmp3 (X : Int) (Y : Int))) ∧ w' = w := by
  obtain ⟨xs, n1, rfl, k1⟩ := hv
  obtain ⟨ys, n2, rfl, k2⟩ := hu
  exact rcmp_nm v u xs ys w n1 n2 (by omega) (by omega)
theorem properq {v : Value} {X : Nat} {w : World} (hv : Nu w v X) : Calls Tryz.prog 44 #[v] w fun e w' => ∃ r, e = .returned r ∧ Ob' w' w.heap.size r X ∧ Below w.heap.size w w' := by
  obtain ⟨xs, n1, rfl, k1⟩ := hv
  obtain ⟨a, c, rfl, _, r1, s1⟩ := n1
  refine (qproper_any a _ c xs w r1 s1 rfl (by omega)).mono ?_
  rintro e w' ⟨r, rfl, h, hB⟩
  exact ⟨r, rfl, ⟨h, dgl_arg xs _ s1 k1⟩, hB⟩
theorem cmp_ge' (a n : Nat) : decide (cmp3 (a : Int) (n : Int) ≥ 0) = decide (¬ a < n) := by
  unfold cmp3
  split
  · rw [decide_eq_false (by omega), decide_eq_false (by omega)]
  · split
    · rw [decide_eq_true (by omega), decide_eq_true (by omega)]
    · rw [decide_eq_true (by omega), decide_eq_true (by omega)]
theorem cmp_is0 (a n : Nat) : (cmp3 (a : Int) (n : Int) == 0) = decide (a = n) := by
  unfold cmp3
  split
  · rw [decide_eq_false (by omega)]; rfl
  · split
    · rw [decide_eq_false (by omega)]; rfl
    · rw [decide_eq_true (by omega)]; rfl
theorem btr {a b c : World} (h1 : Below a.heap.size a b) (h2 : Below b.heap.size b c) : Below a.heap.size a c := h1.trans (h2.mono h1.size)
set_option maxHeartbeats 4000000 in
theorem fieldq_1 (w : World) : Calls Tryz.prog 12 #[.int .i64 1] w fun e w' => ∃ r, e = .returned r ∧ Mk w' w.heap.size r k256p 384 ∧ Below w.heap.size w w' := by
  go_enter Tryz.func12, Tryz.ntmps12
  go_wp2_with fail
  refine (number_e (n := 8) (V := k256p) (by rfl) (by decide) (by decide +kernel) (by decide +kernel) (by decide +kernel)).mono ?_
  rintro e w1 ⟨r, rfl, hm, hB⟩
  have HX : Hid (Mk w1 w.heap.size r k256p 384 ∧ Below w.heap.size w w1) := ⟨hm, hB⟩
  obtain ⟨r0, r1, r2, rfl⟩ := hm.nk.sl
  clear hm hB
  go_wp2
  go_ret
  exact ⟨_, rfl, HX.out⟩
set_option maxHeartbeats 4000000 in
theorem fieldq_2 (w : World) : Calls Tryz.prog 12 #[.int .i64 2] w fun e w' => ∃ r, e = .returned r ∧ Mk w' w.heap.size r k384p 384 ∧ Below w.heap.size w w' := by
  go_enter Tryz.func12, Tryz.ntmps12
  go_wp2_with fail
  refine (number_e (n := 12) (V := k384p) (by rfl) (by decide) (by decide +kernel) (by decide +kernel) (by decide +kernel)).mono ?_
  rintro e w1 ⟨r, rfl, hm, hB⟩
  have HX : Hid (Mk w1 w.heap.size r k384p 384 ∧ Below w.heap.size w w1) := ⟨hm, hB⟩
  obtain ⟨r0, r1, r2, rfl⟩ := hm.nk.sl
  clear hm hB
  go_wp2
  go_ret
  exact ⟨_, rfl, HX.out⟩
theorem fieldq {c s : Int} {p b n gx gy : Nat} (hk : Kv c p b n gx gy s) (w : World) : Calls Tryz.prog 12 #[.int .i64 c] w fun e w' => ∃ r, e = .returned r ∧ Mk w' w.heap.size r p 384 ∧ Below w.heap.size w w' := by
  cases hk
  · exact fieldq_1 w
  · exact fieldq_2 w
set_option maxHeartbeats 4000000 in
theorem orderq_1 (w : World) : Calls Tryz.prog 13 #[.int .i64 1] w fun e w' => ∃ r, e = .returned r ∧ Mk w' w.heap.size r k256n 384 ∧ Below w.heap.size w w' := by
  go_enter Tryz.func13, Tryz.ntmps13
  go_wp2_with fail
  refine (number_e (n := 8) (V := k256n) (by rfl) (by decide) (by decide +kernel) (by decide +kernel) (by decide +kernel)).mono ?_
  rintro e w1 ⟨r, rfl, hm, hB⟩
  have HX : Hid (Mk w1 w.heap.size r k256n 384 ∧ Below w.heap.size w w1) := ⟨hm, hB⟩
  obtain ⟨r0, r1, r2, rfl⟩ := hm.nk.sl
  clear hm hB
  go_wp2
  go_ret
  exact ⟨_, rfl, HX.out⟩
set_option maxHeartbeats 4000000 in
theorem orderq_2 (w : World) : Calls Tryz.prog 13 #[.int .i64 2] w fun e w' => ∃ r, e = .returned r ∧ Mk w' w.heap.size r k384n 384 ∧ Below w.heap.size w w' := by
  go_enter Tryz.func13, Tryz.ntmps13
  go_wp2_with fail
  refine (number_e (n := 12) (V := k384n) (by rfl) (by decide) (by decide +kernel) (by decide +kernel) (by decide +kernel)).mono ?_
  rintro e w1 ⟨r, rfl, hm, hB⟩
  have HX : Hid (Mk w1 w.heap.size r k384n 384 ∧ Below w.heap.size w w1) := ⟨hm, hB⟩
  obtain ⟨r0, r1, r2, rfl⟩ := hm.nk.sl
  clear hm hB
  go_wp2
  go_ret
  exact ⟨_, rfl, HX.out⟩
theorem orderq {c s : Int} {p b n gx gy : Nat} (hk : Kv c p b n gx gy s) (w : World) : Calls Tryz.prog 13 #[.int .i64 c] w fun e w' => ∃ r, e = .returned r ∧ Mk w' w.heap.size r n 384 ∧ Below w.heap.size w w' := by
  cases hk
  · exact orderq_1 w
  · exact orderq_2 w
set_option maxHeartbeats 4000000 in
theorem bq_1 (w : World) : Calls Tryz.prog 49 #[.int .i64 1] w fun e w' => ∃ r, e = .returned r ∧ Mk w' w.heap.size r k256b 384 ∧ Below w.heap.size w w' := by
  go_enter Tryz.func49, Tryz.ntmps49
  go_wp2_with fail
  refine (number_e (n := 8) (V := k256b) (by rfl) (by decide) (by decide +kernel) (by decide +kernel) (by decide +kernel)).mono ?_
  rintro e w1 ⟨r, rfl, hm, hB⟩
  have HX : Hid (Mk w1 w.heap.size r k256b 384 ∧ Below w.heap.size w w1) := ⟨hm, hB⟩
  obtain ⟨r0, r1, r2, rfl⟩ := hm.nk.sl
  clear hm hB
  go_wp2
  go_ret
  exact ⟨_, rfl, HX.out⟩
set_option maxHeartbeats 4000000 in
theorem bq_2 (w : World) : Calls Tryz.prog 49 #[.int .i64 2] w fun e w' => ∃ r, e = .returned r ∧ Mk w' w.heap.size r k384b 384 ∧ Below w.heap.size w w' := by
  go_enter Tryz.func49, Tryz.ntmps49
  go_wp2_with fail
  refine (number_e (n := 12) (V := k384b) (by rfl) (by decide) (by decide +kernel) (by decide +kernel) (by decide +kernel)).mono ?_
  rintro e w1 ⟨r, rfl, hm, hB⟩
  have HX : Hid (Mk w1 w.heap.size r k384b 384 ∧ Below w.heap.size w w1) := ⟨hm, hB⟩
  obtain ⟨r0, r1, r2, rfl⟩ := hm.nk.sl
  clear hm hB
  go_wp2
  go_ret
  exact ⟨_, rfl, HX.out⟩
theorem bq {c s : Int} {p b n gx gy : Nat} (hk : Kv c p b n gx gy s) (w : World) : Calls Tryz.prog 49 #[.int .i64 c] w fun e w' => ∃ r, e = .returned r ∧ Mk w' w.heap.size r b 384 ∧ Below w.heap.size w w' := by
  cases hk
  · exact bq_1 w
  · exact bq_2 w
theorem fieldn (c : Int) (h1 : c ≠ 1) (h2 : c ≠ 2) (w : World) : Calls Tryz.prog 12 #[.int .i64 c] w fun e w' => e = .returned (.slice none 0 0) ∧ w' = w := by
  have d1 : (c == 1) = false := by simpa using h1
  have d2 : (c == 2) = false := by simpa using h2
  go_enter Tryz.func12, Tryz.ntmps12
  go_wp2
  go_ret
  exact ⟨rfl, rfl⟩
theorem ordern (c : Int) (h1 : c ≠ 1) (h2 : c ≠ 2) (w : World) : Calls Tryz.prog 13 #[.int .i64 c] w fun e w' => e = .returned (.slice none 0 0) ∧ w' = w := by
  have d1 : (c == 1) = false := by simpa using h1
  have d2 : (c == 2) = false := by simpa using h2
  go_enter Tryz.func13, Tryz.ntmps13
  go_wp2
  go_ret
  exact ⟨rfl, rfl⟩
theorem sizen (c : Int) (h1 : c ≠ 1) (h2 : c ≠ 2) (w : World) : Calls Tryz.prog 17 #[.int .i64 c] w fun e w' => e = .returned (.int .i64 0) ∧ w' = w := by
  have d1 : (c == 1) = false := by simpa using h1
  have d2 : (c == 2) = false := by simpa using h2
  go_enter Tryz.func17, Tryz.ntmps17
  go_wp2
  go_ret
  exact ⟨rfl, rfl⟩
theorem sizeq {c s : Int} {p b n gx gy : Nat} (hk : Kv c p b n gx gy s) (w : World) : Calls Tryz.prog 17 #[.int .i64 c] w fun e w' => e = .returned (.int .i64 s) ∧ w' = w := by
  cases hk
  all_goals
    go_enter Tryz.func17, Tryz.ntmps17
    go_wp2
    go_ret
    exact ⟨rfl, rfl⟩
set_option maxHeartbeats 4000000 in
theorem addq {c s : Int} {p b n gx gy : Nat} (hk : Kv c p b n gx gy s) {x y : Value} {X Y : Nat} {w : World} (hx : Nq w x X 384) (hy : Nq w y Y 384) : Calls Tryz.prog 46 #[.int .i64 c, x, y] w fun e w' => ∃ r, e = .returned r ∧ Mk w' w.heap.size r (fA p X Y) 384 ∧ Below w.heap.size w w' := by
  obtain ⟨x0, x1, x2, rfl⟩ := hx.nk.sl
  obtain ⟨y0, y1, y2, rfl⟩ := hy.nk.sl
  have HN : Hid (Nq w (.slice x0 x1 x2) X 384 ∧ Nq w (.slice y0 y1 y2) Y 384) := ⟨hx, hy⟩
  clear hx hy
  go_enter Tryz.func46, Tryz.ntmps46
  go_wp2_with fail
  refine (fieldq hk _).mono ?_
  rintro e w1 ⟨f, rfl, mf, hB⟩
  obtain ⟨f0, f1, f2, rfl⟩ := mf.nk.sl
  have HB1 : Hid (Below w.heap.size w w1) := hB
  have HF : Hid (Nq w1 (.slice f0 f1 f2) p 384) := mf.nq
  clear mf hB
  go_wp2_with fail
  refine (q7add hk.pm (HN.out.1.below HB1.out (Nat.le_refl _)) (HN.out.2.below HB1.out (Nat.le_refl _)) HF.out).mono ?_
  rintro e w2 ⟨r, rfl, h⟩
  have HX : Hid (Mk w2 w.heap.size r (fA p X Y) 384 ∧ Below w.heap.size w w2) := ⟨h.mk.base HB1.out.size, HB1.out.trans (h.bel.mono HB1.out.size)⟩
  obtain ⟨r0, r1, r2, rfl⟩ := h.sl
  clear h
  go_wp2
  go_ret
  exact ⟨_, rfl, HX.out⟩
set_option maxHeartbeats 4000000 in
theorem subq {c s : Int} {p b n gx gy : Nat} (hk : Kv c p b n gx gy s) {x y : Value} {X Y : Nat} {w : World} (hx : Nq w x X 384) (hy : Nq w y Y 384) : Calls Tryz.prog 47 #[.int .i64 c, x, y] w fun e w' => ∃ r, e = .returned r ∧ Mk w' w.heap.size r (fS p X Y) 384 ∧ Below w.heap.size w w' := by
  obtain ⟨x0, x1, x2, rfl⟩ := hx.nk.sl
  obtain ⟨y0, y1, y2, rfl⟩ := hy.nk.sl
  have HN : Hid (Nq w (.slice x0 x1 x2) X 384 ∧ Nq w (.slice y0 y1 y2) Y 384) := ⟨hx, hy⟩
  clear hx hy
  go_enter Tryz.func47, Tryz.ntmps47
  go_wp2_with fail
  refine (fieldq hk _).mono ?_
  rintro e w1 ⟨f, rfl, mf, hB⟩
  obtain ⟨f0, f1, f2, rfl⟩ := mf.nk.sl
  have HB1 : Hid (Below w.heap.size w w1) := hB
  have HF : Hid (Nq w1 (.slice f0 f1 f2) p 384) := mf.nq
  clear mf hB
  go_wp2_with fail
  refine (q7sub hk.pm (HN.out.1.below HB1.out (Nat.le_refl _)) (HN.out.2.below HB1.out (Nat.le_refl _)) HF.out).mono ?_
  rintro e w2 ⟨r, rfl, h⟩
  have HX : Hid (Mk w2 w.heap.size r (fS p X Y) 384 ∧ Below w.heap.size w w2) := ⟨h.mk.base HB1.out.size, HB1.out.trans (h.bel.mono HB1.out.size)⟩
  obtain ⟨r0, r1, r2, rfl⟩ := h.sl
  clear h
  go_wp2
  go_ret
  exact ⟨_, rfl, HX.out⟩
set_option maxHeartbeats 4000000 in
theorem mulq {c s : Int} {p b n gx gy : Nat} (hk : Kv c p b n gx gy s) {x y : Value} {X Y : Nat} {w : World} (hx : Nq w x X 384) (hy : Nq w y Y 384) : Calls Tryz.prog 48 #[.int .i64 c, x, y] w fun e w' => ∃ r, e = .returned r ∧ Mk w' w.heap.size r (fM p X Y) 384 ∧ Below w.heap.size w w' := by
  obtain ⟨x0, x1, x2, rfl⟩ := hx.nk.sl
  obtain ⟨y0, y1, y2, rfl⟩ := hy.nk.sl
  have HN : Hid (Nq w (.slice x0 x1 x2) X 384 ∧ Nq w (.slice y0 y1 y2) Y 384) := ⟨hx, hy⟩
  clear hx hy
  go_enter Tryz.func48, Tryz.ntmps48
  go_wp2_with fail
  refine (fieldq hk _).mono ?_
  rintro e w1 ⟨f, rfl, mf, hB⟩
  obtain ⟨f0, f1, f2, rfl⟩ := mf.nk.sl
  have HB1 : Hid (Below w.heap.size w w1) := hB
  have HF : Hid (Nq w1 (.slice f0 f1 f2) p 384) := mf.nq
  clear mf hB
  go_wp2_with fail
  refine (q7mul hk.pm (HN.out.1.below HB1.out (Nat.le_refl _)) (HN.out.2.below HB1.out (Nat.le_refl _)) HF.out).mono ?_
  rintro e w2 ⟨r, rfl, h⟩
  have HX : Hid (Mk w2 w.heap.size r (fM p X Y) 384 ∧ Below w.heap.size w w2) := ⟨h.mk.base HB1.out.size, HB1.out.trans (h.bel.mono HB1.out.size)⟩
  obtain ⟨r0, r1, r2, rfl⟩ := h.sl
  clear h
  go_wp2
  go_ret
  exact ⟨_, rfl, HX.out⟩
set_option maxHeartbeats 4000000 in
theorem overq {c s : Int} {p b n gx gy : Nat} (hk : Kv c p b n gx gy s) {x y : Value} {X Y : Nat} {w : World} (hx : Nq w x X 384) (hy : Nq w y Y 384) (h0 : 0 < Y) (h1 : Y < p) : Calls Tryz.prog 87 #[.int .i64 c, x, y] w fun e w' => ∃ r Z, Inz Y p Z ∧ e = .returned r ∧ Mk w' w.heap.size r (fM p X Z) 384 ∧ Below w.heap.size w w' := by
  obtain ⟨x0, x1, x2, rfl⟩ := hx.nk.sl
  obtain ⟨y0, y1, y2, rfl⟩ := hy.nk.sl
  have HN : Hid (Nq w (.slice x0 x1 x2) X 384 ∧ Nq w (.slice y0 y1 y2) Y 384) := ⟨hx, hy⟩
  have HY : Hid (0 < Y ∧ Y < p) := ⟨h0, h1⟩
  clear hx hy h0 h1
  go_enter Tryz.func87, Tryz.ntmps87
  go_wp2_with fail
  refine (fieldq hk _).mono ?_
  rintro e w1 ⟨f, rfl, mf, hB⟩
  obtain ⟨f0, f1, f2, rfl⟩ := mf.nk.sl
  have HB1 : Hid (Below w.heap.size w w1) := hB
  have HF : Hid (Nq w1 (.slice f0 f1 f2) p 384) := mf.nq
  clear mf hB
  go_wp2_with fail
  refine (q7inv hk.pm hk.cv.pr (HN.out.2.below HB1.out (Nat.le_refl _)) HF.out HY.out.1 HY.out.2).mono ?_
  rintro e w2 ⟨z, Z, hZ, rfl, h⟩
  have HZ : Hid (Inz Y p Z) := hZ
  have HB2 : Hid (Below w.heap.size w w2) := HB1.out.trans (h.bel.mono HB1.out.size)
  have Hz : Hid (Nq w2 z Z 384) := h.nq
  obtain ⟨z0, z1, z2, rfl⟩ := h.sl
  clear h hZ
  go_wp2_with fail
  refine (mulq hk (HN.out.1.below HB2.out (Nat.le_refl _)) Hz.out).mono ?_
  rintro e w3 ⟨r, rfl, m, hB⟩
  have HX : Hid (Mk w3 w.heap.size r (fM p X Z) 384 ∧ Below w.heap.size w w3) := ⟨m.base HB2.out.size, HB2.out.trans (hB.mono HB2.out.size)⟩
  obtain ⟨r0, r1, r2, rfl⟩ := m.nk.sl
  clear m hB
  go_wp2
  go_ret
  exact ⟨_, _, HZ.out, rfl, HX.out⟩
set_option maxHeartbeats 8000000 in
theorem onn (c : Int) (h1 : c ≠ 1) (h2 : c ≠ 2) (x y : Value) (X Y : Nat) (w : World) (hx : Nu w x X) (hy : Nu w y Y) (inf : Bool)  :
    Calls Tryz.prog 19 #[.int .i64 c, .agg #[x, y, .bool inf]] w fun e w' => e = .returned (.bool false) ∧ Below w.heap.size w w' := by
  obtain ⟨x0, x1, x2, rfl⟩ := hx.shape
  obtain ⟨y0, y1, y2, rfl⟩ := hy.shape
  have Hx0 : Hid (Nu w (.slice x0 x1 x2) X) := hx
  have Hy0 : Hid (Nu w (.slice y0 y1 y2) Y) := hy
  have HB0 : Hid (Below w.heap.size w w) := Below.refl _ _
  clear hx hy
  go_enter Tryz.func19, Tryz.ntmps19
  have Hs1 : Hid (Below w.heap.size w (w.alloc (.cells #[.slice x0 x1 x2, .slice y0 y1 y2, .bool inf] 26))) := alloc_below _ _
  have HbP0 : Hid (Bl 26 (w.alloc (.cells #[.slice x0 x1 x2, .slice y0 y1 y2, .bool inf] 26)) w.heap.size [.slice x0 x1 x2, .slice y0 y1 y2, .bool inf]) := alloc_bl w [.slice x0 x1 x2, .slice y0 y1 y2, .bool inf] 26
  go_wp2_with fail
  generalize (w.alloc (.cells #[.slice x0 x1 x2, .slice y0 y1 y2, .bool inf] 26)) = wv2 at *
  refine (sizen c h1 h2 _).mono ?_
  rintro e wv2 ⟨rfl, rfl⟩
  have HB1 : Hid (Below w.heap.size w wv2) := HB0.out.trans (Hs1.out.mono HB0.out.size)
  go_wp2
  go_ret
  exact ⟨rfl, HB1.out⟩
theorem dg_is0 (X : Nat) : ((((dg Bs X).length : Nat) : Int) == 0) = decide (X = 0) := by
  by_cases h : X = 0
  · subst h; rw [decide_eq_true rfl]; decide +kernel
  · rw [decide_eq_false h]
    have h1 : (dg Bs X).length ≠ 0 := fun e => by
      have e2 := List.eq_nil_of_length_eq_zero e
      have e3 := dg_nv Bs_two X
      rw [e2] at e3
      exact h e3.symm
    simpa using h1
set_option maxHeartbeats 8000000 in
theorem onq_inf {c s : Int} {p b n gx gy : Nat} (hk : Kv c p b n gx gy s) (x y : Value) (X Y : Nat) (w : World) (hx : Nu w x X) (hy : Nu w y Y)  :
    Calls Tryz.prog 19 #[.int .i64 c, .agg #[x, y, .bool true]] w fun e w' => e = .returned (.bool (onB p b X Y true)) ∧ Below w.heap.size w w' := by
  obtain ⟨x0, x1, x2, rfl⟩ := hx.shape
  obtain ⟨y0, y1, y2, rfl⟩ := hy.shape
  have Hx0 : Hid (Nu w (.slice x0 x1 x2) X) := hx
  have Hy0 : Hid (Nu w (.slice y0 y1 y2) Y) := hy
  have HB0 : Hid (Below w.heap.size w w) := Below.refl _ _
  clear hx hy
  go_enter Tryz.func19, Tryz.ntmps19
  have Hs1 : Hid (Below w.heap.size w (w.alloc (.cells #[.slice x0 x1 x2, .slice y0 y1 y2, .bool true] 26))) := alloc_below _ _
  have HbP0 : Hid (Bl 26 (w.alloc (.cells #[.slice x0 x1 x2, .slice y0 y1 y2, .bool true] 26)) w.heap.size [.slice x0 x1 x2, .slice y0 y1 y2, .bool true]) := alloc_bl w [.slice x0 x1 x2, .slice y0 y1 y2, .bool true] 26
  go_wp2_with fail
  generalize (w.alloc (.cells #[.slice x0 x1 x2, .slice y0 y1 y2, .bool true] 26)) = wv2 at *
  have hs0 : (s == 0) = false := by rcases hk.s0 with hh | hh <;> subst hh <;> rfl
  refine (sizeq hk _).mono ?_
  rintro e wv2 ⟨rfl, rfl⟩
  have kP_0 : wv2.cell? ⟨w.heap.size, 0, none⟩ = some (.slice x0 x1 x2) := HbP0.out.cell 0 (by simp)
  have kP_1 : wv2.cell? ⟨w.heap.size, 1, none⟩ = some (.slice y0 y1 y2) := HbP0.out.cell 1 (by simp)
  have kP_2 : wv2.cell? ⟨w.heap.size, 2, none⟩ = some (.bool true) := HbP0.out.cell 2 (by simp)
  go_wp2_with fail
  clear kP_0 kP_1 kP_2
  have Hx1 : Hid (Nu wv2 (.slice x0 x1 x2) X) := Hx0.out.below Hs1.out (Nat.le_refl _)
  refine (properq Hx1.out).mono ?_
  rintro e w3 ⟨uv, rfl, m, hB⟩
  have Hs4 : Hid (Below wv2.heap.size wv2 w3) := hB
  obtain ⟨u0, u1, u2, rfl⟩ := m.nu.shape
  have Hu0 : Hid (Ob' w3 0 (.slice u0 u1 u2) X) := ⟨m.1.base (Nat.zero_le _), m.2⟩
  clear m hB
  have HbP1 : Hid (Bl 26 w3 w.heap.size [.slice x0 x1 x2, .slice y0 y1 y2, .bool true]) := HbP0.out.below Hs4.out HbP0.out.lt
  have kP_0 : w3.cell? ⟨w.heap.size, 0, none⟩ = some (.slice x0 x1 x2) := HbP1.out.cell 0 (by simp)
  have kP_1 : w3.cell? ⟨w.heap.size, 1, none⟩ = some (.slice y0 y1 y2) := HbP1.out.cell 1 (by simp)
  have kP_2 : w3.cell? ⟨w.heap.size, 2, none⟩ = some (.bool true) := HbP1.out.cell 2 (by simp)
  go_wp2_with fail
  clear kP_0 kP_1 kP_2
  have Hy1 : Hid (Nu w3 (.slice y0 y1 y2) Y) := Hy0.out.below (btr Hs1.out Hs4.out) (Nat.le_refl _)
  refine (properq Hy1.out).mono ?_
  rintro e w5 ⟨vv, rfl, m, hB⟩
  have Hs6 : Hid (Below w3.heap.size w3 w5) := hB
  obtain ⟨v0, v1, v2, rfl⟩ := m.nu.shape
  have Hv0 : Hid (Ob' w5 0 (.slice v0 v1 v2) Y) := ⟨m.1.base (Nat.zero_le _), m.2⟩
  clear m hB
  have Hu1 : Hid (Ob' w5 0 (.slice u0 u1 u2) X) := Hu0.out.below Hs6.out
  have hX : (((u1 : Nat) : Int) == 0) = decide (X = 0) := by obtain ⟨ua, uc, ue, _⟩ := Hu1.out.1.nm (dg_sm Bs_two X); cases ue; exact dg_is0 X
  have hY : (((v1 : Nat) : Int) == 0) = decide (Y = 0) := by obtain ⟨va, vc, ve, _⟩ := Hv0.out.1.nm (dg_sm Bs_two Y); cases ve; exact dg_is0 Y
  by_cases hX0 : X = 0
  · rw [decide_eq_true hX0] at hX
    have HX0 : Hid (X = 0) := hX0
    clear hX0
    by_cases hY0 : Y = 0
    · rw [decide_eq_true hY0] at hY; have HY0 : Hid (Y = 0) := hY0; clear hY0
      have HbP2 : Hid (Bl 26 w5 w.heap.size [.slice x0 x1 x2, .slice y0 y1 y2, .bool true]) := HbP1.out.below Hs6.out HbP1.out.lt
      have kP_0 : w5.cell? ⟨w.heap.size, 0, none⟩ = some (.slice x0 x1 x2) := HbP2.out.cell 0 (by simp)
      have kP_1 : w5.cell? ⟨w.heap.size, 1, none⟩ = some (.slice y0 y1 y2) := HbP2.out.cell 1 (by simp)
      have kP_2 : w5.cell? ⟨w.heap.size, 2, none⟩ = some (.bool true) := HbP2.out.cell 2 (by simp)
      have HB1 : Hid (Below w.heap.size w w5) := HB0.out.trans ((btr Hs1.out (btr Hs4.out Hs6.out)).mono HB0.out.size)
      go_wp2
      go_ret
      exact ⟨by unfold onB; simp [HX0.out, HY0.out], HB1.out⟩
    · rw [decide_eq_false hY0] at hY; have HY0 : Hid (¬ Y = 0) := hY0; clear hY0
      have HbP2 : Hid (Bl 26 w5 w.heap.size [.slice x0 x1 x2, .slice y0 y1 y2, .bool true]) := HbP1.out.below Hs6.out HbP1.out.lt
      have kP_0 : w5.cell? ⟨w.heap.size, 0, none⟩ = some (.slice x0 x1 x2) := HbP2.out.cell 0 (by simp)
      have kP_1 : w5.cell? ⟨w.heap.size, 1, none⟩ = some (.slice y0 y1 y2) := HbP2.out.cell 1 (by simp)
      have kP_2 : w5.cell? ⟨w.heap.size, 2, none⟩ = some (.bool true) := HbP2.out.cell 2 (by simp)
      have HB1 : Hid (Below w.heap.size w w5) := HB0.out.trans ((btr Hs1.out (btr Hs4.out Hs6.out)).mono HB0.out.size)
      go_wp2
      go_ret
      exact ⟨by unfold onB; simp [HY0.out], HB1.out⟩
  · rw [decide_eq_false hX0] at hX; have HX0 : Hid (¬ X = 0) := hX0; clear hX0
    have HbP2 : Hid (Bl 26 w5 w.heap.size [.slice x0 x1 x2, .slice y0 y1 y2, .bool true]) := HbP1.out.below Hs6.out HbP1.out.lt
    have kP_0 : w5.cell? ⟨w.heap.size, 0, none⟩ = some (.slice x0 x1 x2) := HbP2.out.cell 0 (by simp)
    have kP_1 : w5.cell? ⟨w.heap.size, 1, none⟩ = some (.slice y0 y1 y2) := HbP2.out.cell 1 (by simp)
    have kP_2 : w5.cell? ⟨w.heap.size, 2, none⟩ = some (.bool true) := HbP2.out.cell 2 (by simp)
    have HB1 : Hid (Below w.heap.size w w5) := HB0.out.trans ((btr Hs1.out (btr Hs4.out Hs6.out)).mono HB0.out.size)
    go_wp2
    go_ret
    exact ⟨by unfold onB; simp [HX0.out], HB1.out⟩
set_option maxHeartbeats 8000000 in
theorem onq_X {c s : Int} {p b n gx gy : Nat} (hk : Kv c p b n gx gy s) (x y : Value) (X Y : Nat) (w : World) (hx : Nu w x X) (hy : Nu w y Y) (hX : ¬ X < p) :
    Calls Tryz.prog 19 #[.int .i64 c, .agg #[x, y, .bool false]] w fun e w' => e = .returned (.bool false) ∧ Below w.heap.size w w' := by
  obtain ⟨x0, x1, x2, rfl⟩ := hx.shape
  obtain ⟨y0, y1, y2, rfl⟩ := hy.shape
  have Hx0 : Hid (Nu w (.slice x0 x1 x2) X) := hx
  have Hy0 : Hid (Nu w (.slice y0 y1 y2) Y) := hy
  have HB0 : Hid (Below w.heap.size w w) := Below.refl _ _
  clear hx hy
  go_enter Tryz.func19, Tryz.ntmps19
  have Hs1 : Hid (Below w.heap.size w (w.alloc (.cells #[.slice x0 x1 x2, .slice y0 y1 y2, .bool false] 26))) := alloc_below _ _
  have HbP0 : Hid (Bl 26 (w.alloc (.cells #[.slice x0 x1 x2, .slice y0 y1 y2, .bool false] 26)) w.heap.size [.slice x0 x1 x2, .slice y0 y1 y2, .bool false]) := alloc_bl w [.slice x0 x1 x2, .slice y0 y1 y2, .bool false] 26
  go_wp2_with fail
  generalize (w.alloc (.cells #[.slice x0 x1 x2, .slice y0 y1 y2, .bool false] 26)) = wv2 at *
  have hs0 : (s == 0) = false := by rcases hk.s0 with hh | hh <;> subst hh <;> rfl
  refine (sizeq hk _).mono ?_
  rintro e wv2 ⟨rfl, rfl⟩
  have kP_0 : wv2.cell? ⟨w.heap.size, 0, none⟩ = some (.slice x0 x1 x2) := HbP0.out.cell 0 (by simp)
  have kP_1 : wv2.cell? ⟨w.heap.size, 1, none⟩ = some (.slice y0 y1 y2) := HbP0.out.cell 1 (by simp)
  have kP_2 : wv2.cell? ⟨w.heap.size, 2, none⟩ = some (.bool false) := HbP0.out.cell 2 (by simp)
  go_wp2_with fail
  clear kP_0 kP_1 kP_2
  have Hx1 : Hid (Nu wv2 (.slice x0 x1 x2) X) := Hx0.out.below Hs1.out (Nat.le_refl _)
  refine (properq Hx1.out).mono ?_
  rintro e w3 ⟨uv, rfl, m, hB⟩
  have Hs4 : Hid (Below wv2.heap.size wv2 w3) := hB
  obtain ⟨u0, u1, u2, rfl⟩ := m.nu.shape
  have Hu0 : Hid (Ob' w3 0 (.slice u0 u1 u2) X) := ⟨m.1.base (Nat.zero_le _), m.2⟩
  clear m hB
  have HbP1 : Hid (Bl 26 w3 w.heap.size [.slice x0 x1 x2, .slice y0 y1 y2, .bool false]) := HbP0.out.below Hs4.out HbP0.out.lt
  have kP_0 : w3.cell? ⟨w.heap.size, 0, none⟩ = some (.slice x0 x1 x2) := HbP1.out.cell 0 (by simp)
  have kP_1 : w3.cell? ⟨w.heap.size, 1, none⟩ = some (.slice y0 y1 y2) := HbP1.out.cell 1 (by simp)
  have kP_2 : w3.cell? ⟨w.heap.size, 2, none⟩ = some (.bool false) := HbP1.out.cell 2 (by simp)
  go_wp2_with fail
  clear kP_0 kP_1 kP_2
  have Hy1 : Hid (Nu w3 (.slice y0 y1 y2) Y) := Hy0.out.below (btr Hs1.out Hs4.out) (Nat.le_refl _)
  refine (properq Hy1.out).mono ?_
  rintro e w5 ⟨vv, rfl, m, hB⟩
  have Hs6 : Hid (Below w3.heap.size w3 w5) := hB
  obtain ⟨v0, v1, v2, rfl⟩ := m.nu.shape
  have Hv0 : Hid (Ob' w5 0 (.slice v0 v1 v2) Y) := ⟨m.1.base (Nat.zero_le _), m.2⟩
  clear m hB
  have HbP2 : Hid (Bl 26 w5 w.heap.size [.slice x0 x1 x2, .slice y0 y1 y2, .bool false]) := HbP1.out.below Hs6.out HbP1.out.lt
  have kP_0 : w5.cell? ⟨w.heap.size, 0, none⟩ = some (.slice x0 x1 x2) := HbP2.out.cell 0 (by simp)
  have kP_1 : w5.cell? ⟨w.heap.size, 1, none⟩ = some (.slice y0 y1 y2) := HbP2.out.cell 1 (by simp)
  have kP_2 : w5.cell? ⟨w.heap.size, 2, none⟩ = some (.bool false) := HbP2.out.cell 2 (by simp)
  go_wp2_with fail
  clear kP_0 kP_1 kP_2
  refine (fieldq hk _).mono ?_
  rintro e w7 ⟨f, rfl, mf, hB⟩
  have Hs8 : Hid (Below w5.heap.size w5 w7) := hB
  obtain ⟨f10, f11, f12, rfl⟩ := mf.nk.sl
  have Hf10 : Hid (Mk w7 0 (.slice f10 f11 f12) p 384) := mf.base (Nat.zero_le _)
  clear mf hB
  obtain ⟨cX, HcX⟩ : ∃ z : Int, Hid (z = cmp3 (X : Int) (p : Int)) := ⟨_, rfl⟩
  have hdX : decide (cX ≥ 0) = true := by rw [HcX.out, cmp_ge', decide_eq_true hX]
  go_wp2_with fail
  have Hu1 : Hid (Ob' w7 0 (.slice u0 u1 u2) X) := Hu0.out.below (btr Hs6.out Hs8.out)
  have C := rcmpq Hu1.out.nu Hf10.out.nk.1
  rw [← HcX.out] at C
  refine C.mono ?_
  clear C
  rintro e w7 ⟨rfl, rfl⟩
  have h0' : (0 : Int) ≤ cX := of_decide_eq_true hdX
  have HB1 : Hid (Below w.heap.size w w7) := HB0.out.trans ((btr Hs1.out (btr Hs4.out (btr Hs6.out Hs8.out))).mono HB0.out.size)
  go_wp2
  go_ret
  exact ⟨rfl, HB1.out⟩
set_option maxHeartbeats 8000000 in
theorem onq_Y {c s : Int} {p b n gx gy : Nat} (hk : Kv c p b n gx gy s) (x y : Value) (X Y : Nat) (w : World) (hx : Nu w x X) (hy : Nu w y Y) (hX : X < p) (hY : ¬ Y < p) :
    Calls Tryz.prog 19 #[.int .i64 c, .agg #[x, y, .bool false]] w fun e w' => e = .returned (.bool false) ∧ Below w.heap.size w w' := by
  obtain ⟨x0, x1, x2, rfl⟩ := hx.shape
  obtain ⟨y0, y1, y2, rfl⟩ := hy.shape
  have Hx0 : Hid (Nu w (.slice x0 x1 x2) X) := hx
  have Hy0 : Hid (Nu w (.slice y0 y1 y2) Y) := hy
  have HB0 : Hid (Below w.heap.size w w) := Below.refl _ _
  clear hx hy
  go_enter Tryz.func19, Tryz.ntmps19
  have Hs1 : Hid (Below w.heap.size w (w.alloc (.cells #[.slice x0 x1 x2, .slice y0 y1 y2, .bool false] 26))) := alloc_below _ _
  have HbP0 : Hid (Bl 26 (w.alloc (.cells #[.slice x0 x1 x2, .slice y0 y1 y2, .bool false] 26)) w.heap.size [.slice x0 x1 x2, .slice y0 y1 y2, .bool false]) := alloc_bl w [.slice x0 x1 x2, .slice y0 y1 y2, .bool false] 26
  go_wp2_with fail
  generalize (w.alloc (.cells #[.slice x0 x1 x2, .slice y0 y1 y2, .bool false] 26)) = wv2 at *
  have hs0 : (s == 0) = false := by rcases hk.s0 with hh | hh <;> subst hh <;> rfl
  refine (sizeq hk _).mono ?_
  rintro e wv2 ⟨rfl, rfl⟩
  have kP_0 : wv2.cell? ⟨w.heap.size, 0, none⟩ = some (.slice x0 x1 x2) := HbP0.out.cell 0 (by simp)
  have kP_1 : wv2.cell? ⟨w.heap.size, 1, none⟩ = some (.slice y0 y1 y2) := HbP0.out.cell 1 (by simp)
  have kP_2 : wv2.cell? ⟨w.heap.size, 2, none⟩ = some (.bool false) := HbP0.out.cell 2 (by simp)
  go_wp2_with fail
  clear kP_0 kP_1 kP_2
  have Hx1 : Hid (Nu wv2 (.slice x0 x1 x2) X) := Hx0.out.below Hs1.out (Nat.le_refl _)
  refine (properq Hx1.out).mono ?_
  rintro e w3 ⟨uv, rfl, m, hB⟩
  have Hs4 : Hid (Below wv2.heap.size wv2 w3) := hB
  obtain ⟨u0, u1, u2, rfl⟩ := m.nu.shape
  have Hu0 : Hid (Ob' w3 0 (.slice u0 u1 u2) X) := ⟨m.1.base (Nat.zero_le _), m.2⟩
  clear m hB
  have HbP1 : Hid (Bl 26 w3 w.heap.size [.slice x0 x1 x2, .slice y0 y1 y2, .bool false]) := HbP0.out.below Hs4.out HbP0.out.lt
  have kP_0 : w3.cell? ⟨w.heap.size, 0, none⟩ = some (.slice x0 x1 x2) := HbP1.out.cell 0 (by simp)
  have kP_1 : w3.cell? ⟨w.heap.size, 1, none⟩ = some (.slice y0 y1 y2) := HbP1.out.cell 1 (by simp)
  have kP_2 : w3.cell? ⟨w.heap.size, 2, none⟩ = some (.bool false) := HbP1.out.cell 2 (by simp)
  go_wp2_with fail
  clear kP_0 kP_1 kP_2
  have Hy1 : Hid (Nu w3 (.slice y0 y1 y2) Y) := Hy0.out.below (btr Hs1.out Hs4.out) (Nat.le_refl _)
  refine (properq Hy1.out).mono ?_
  rintro e w5 ⟨vv, rfl, m, hB⟩
  have Hs6 : Hid (Below w3.heap.size w3 w5) := hB
  obtain ⟨v0, v1, v2, rfl⟩ := m.nu.shape
  have Hv0 : Hid (Ob' w5 0 (.slice v0 v1 v2) Y) := ⟨m.1.base (Nat.zero_le _), m.2⟩
  clear m hB
  have HbP2 : Hid (Bl 26 w5 w.heap.size [.slice x0 x1 x2, .slice y0 y1 y2, .bool false]) := HbP1.out.below Hs6.out HbP1.out.lt
  have kP_0 : w5.cell? ⟨w.heap.size, 0, none⟩ = some (.slice x0 x1 x2) := HbP2.out.cell 0 (by simp)
  have kP_1 : w5.cell? ⟨w.heap.size, 1, none⟩ = some (.slice y0 y1 y2) := HbP2.out.cell 1 (by simp)
  have kP_2 : w5.cell? ⟨w.heap.size, 2, none⟩ = some (.bool false) := HbP2.out.cell 2 (by simp)
  go_wp2_with fail
  clear kP_0 kP_1 kP_2
  refine (fieldq hk _).mono ?_
  rintro e w7 ⟨f, rfl, mf, hB⟩
  have Hs8 : Hid (Below w5.heap.size w5 w7) := hB
  obtain ⟨f10, f11, f12, rfl⟩ := mf.nk.sl
  have Hf10 : Hid (Mk w7 0 (.slice f10 f11 f12) p 384) := mf.base (Nat.zero_le _)
  clear mf hB
  obtain ⟨cX, HcX⟩ : ∃ z : Int, Hid (z = cmp3 (X : Int) (p : Int)) := ⟨_, rfl⟩
  have hdX : decide (cX ≥ 0) = false := by rw [HcX.out, cmp_ge', decide_eq_false (not_not_intro hX)]
  go_wp2_with fail
  have Hu1 : Hid (Ob' w7 0 (.slice u0 u1 u2) X) := Hu0.out.below (btr Hs6.out Hs8.out)
  have C := rcmpq Hu1.out.nu Hf10.out.nk.1
  rw [← HcX.out] at C
  refine C.mono ?_
  clear C
  rintro e w7 ⟨rfl, rfl⟩
  have h0' : ¬ (0 : Int) ≤ cX := of_decide_eq_false hdX
  go_wp2_with fail
  refine (fieldq hk _).mono ?_
  rintro e w9 ⟨f, rfl, mf, hB⟩
  have Hs10 : Hid (Below w7.heap.size w7 w9) := hB
  obtain ⟨f20, f21, f22, rfl⟩ := mf.nk.sl
  have Hf20 : Hid (Mk w9 0 (.slice f20 f21 f22) p 384) := mf.base (Nat.zero_le _)
  clear mf hB
  obtain ⟨cY, HcY⟩ : ∃ z : Int, Hid (z = cmp3 (Y : Int) (p : Int)) := ⟨_, rfl⟩
  have hdY : decide (cY ≥ 0) = true := by rw [HcY.out, cmp_ge', decide_eq_true hY]
  go_wp2_with fail
  have Hv1 : Hid (Ob' w9 0 (.slice v0 v1 v2) Y) := Hv0.out.below (btr Hs8.out Hs10.out)
  have C := rcmpq Hv1.out.nu Hf20.out.nk.1
  rw [← HcY.out] at C
  refine C.mono ?_
  clear C
  rintro e w9 ⟨rfl, rfl⟩
  have h1' : (0 : Int) ≤ cY := of_decide_eq_true hdY
  have HB1 : Hid (Below w.heap.size w w9) := HB0.out.trans ((btr Hs1.out (btr Hs4.out (btr Hs6.out (btr Hs8.out Hs10.out)))).mono HB0.out.size)
  go_wp2
  go_ret
  exact ⟨rfl, HB1.out⟩
theorem lit_q (w : World) (V : Nat) (hV : V < Bs) (hp : V < pw 384) : Nq (w.alloc (.cells #[.int .u32 (V : Int)] 51)) (.slice (some ⟨w.heap.size, 0, none⟩) 1 1) V 384 :=
  ⟨⟨⟨[V], ⟨_, _, rfl, Nat.le_refl _, (alloc_bl w [.int .u32 (V : Int)] 51 : Bl 51 _ _ ([V].map U)).rn, fun y hy => by simp at hy; subst hy; exact hV⟩, by simp [nv], by simp⟩, fun _ _ _ e e2 => (by cases e; cases e2), fun _ _ _ e => (by cases e; decide)⟩, hp⟩
set_option maxHeartbeats 8000000 in
theorem onq_in {c s : Int} {p b n gx gy : Nat} (hk : Kv c p b n gx gy s) (x y : Value) (X Y : Nat) (w : World) (hx : Nu w x X) (hy : Nu w y Y) (hX : X < p) (hY : Y < p) :
    Calls Tryz.prog 19 #[.int .i64 c, .agg #[x, y, .bool false]] w fun e w' => e = .returned (.bool (onB p b X Y false)) ∧ Below w.heap.size w w' := by
  obtain ⟨oo, Hoo⟩ : ∃ z : Bool, Hid (z = onB p b X Y false) := ⟨_, rfl⟩
  rw [← Hoo.out]
  have HX : Hid (X < p ∧ Y < p) := ⟨hX, hY⟩
  obtain ⟨x0, x1, x2, rfl⟩ := hx.shape
  obtain ⟨y0, y1, y2, rfl⟩ := hy.shape
  have Hx0 : Hid (Nu w (.slice x0 x1 x2) X) := hx
  have Hy0 : Hid (Nu w (.slice y0 y1 y2) Y) := hy
  have HB0 : Hid (Below w.heap.size w w) := Below.refl _ _
  clear hx hy
  go_enter Tryz.func19, Tryz.ntmps19
  have Hs1 : Hid (Below w.heap.size w (w.alloc (.cells #[.slice x0 x1 x2, .slice y0 y1 y2, .bool false] 26))) := alloc_below _ _
  have HbP0 : Hid (Bl 26 (w.alloc (.cells #[.slice x0 x1 x2, .slice y0 y1 y2, .bool false] 26)) w.heap.size [.slice x0 x1 x2, .slice y0 y1 y2, .bool false]) := alloc_bl w [.slice x0 x1 x2, .slice y0 y1 y2, .bool false] 26
  go_wp2_with fail
  generalize (w.alloc (.cells #[.slice x0 x1 x2, .slice y0 y1 y2, .bool false] 26)) = wv2 at *
  have hs0 : (s == 0) = false := by rcases hk.s0 with hh | hh <;> subst hh <;> rfl
  refine (sizeq hk _).mono ?_
  rintro e wv2 ⟨rfl, rfl⟩
  have kP_0 : wv2.cell? ⟨w.heap.size, 0, none⟩ = some (.slice x0 x1 x2) := HbP0.out.cell 0 (by simp)
  have kP_1 : wv2.cell? ⟨w.heap.size, 1, none⟩ = some (.slice y0 y1 y2) := HbP0.out.cell 1 (by simp)
  have kP_2 : wv2.cell? ⟨w.heap.size, 2, none⟩ = some (.bool false) := HbP0.out.cell 2 (by simp)
  go_wp2_with fail
  clear kP_0 kP_1 kP_2
  have Hx1 : Hid (Nu wv2 (.slice x0 x1 x2) X) := Hx0.out.below Hs1.out (Nat.le_refl _)
  refine (properq Hx1.out).mono ?_
  rintro e w3 ⟨uv, rfl, m, hB⟩
  have Hs4 : Hid (Below wv2.heap.size wv2 w3) := hB
  obtain ⟨u0, u1, u2, rfl⟩ := m.nu.shape
  have Hu0 : Hid (Ob' w3 0 (.slice u0 u1 u2) X) := ⟨m.1.base (Nat.zero_le _), m.2⟩
  clear m hB
  have HbP1 : Hid (Bl 26 w3 w.heap.size [.slice x0 x1 x2, .slice y0 y1 y2, .bool false]) := HbP0.out.below Hs4.out HbP0.out.lt
  have kP_0 : w3.cell? ⟨w.heap.size, 0, none⟩ = some (.slice x0 x1 x2) := HbP1.out.cell 0 (by simp)
  have kP_1 : w3.cell? ⟨w.heap.size, 1, none⟩ = some (.slice y0 y1 y2) := HbP1.out.cell 1 (by simp)
  have kP_2 : w3.cell? ⟨w.heap.size, 2, none⟩ = some (.bool false) := HbP1.out.cell 2 (by simp)
  go_wp2_with fail
  clear kP_0 kP_1 kP_2
  have Hy1 : Hid (Nu w3 (.slice y0 y1 y2) Y) := Hy0.out.below (btr Hs1.out Hs4.out) (Nat.le_refl _)
  refine (properq Hy1.out).mono ?_
  rintro e w5 ⟨vv, rfl, m, hB⟩
  have Hs6 : Hid (Below w3.heap.size w3 w5) := hB
  obtain ⟨v0, v1, v2, rfl⟩ := m.nu.shape
  have Hv0 : Hid (Ob' w5 0 (.slice v0 v1 v2) Y) := ⟨m.1.base (Nat.zero_le _), m.2⟩
  clear m hB
  have HbP2 : Hid (Bl 26 w5 w.heap.size [.slice x0 x1 x2, .slice y0 y1 y2, .bool false]) := HbP1.out.below Hs6.out HbP1.out.lt
  have kP_0 : w5.cell? ⟨w.heap.size, 0, none⟩ = some (.slice x0 x1 x2) := HbP2.out.cell 0 (by simp)
  have kP_1 : w5.cell? ⟨w.heap.size, 1, none⟩ = some (.slice y0 y1 y2) := HbP2.out.cell 1 (by simp)
  have kP_2 : w5.cell? ⟨w.heap.size, 2, none⟩ = some (.bool false) := HbP2.out.cell 2 (by simp)
  go_wp2_with fail
  clear kP_0 kP_1 kP_2
  refine (fieldq hk _).mono ?_
  rintro e w7 ⟨f, rfl, mf, hB⟩
  have Hs8 : Hid (Below w5.heap.size w5 w7) := hB
  obtain ⟨f10, f11, f12, rfl⟩ := mf.nk.sl
  have Hf10 : Hid (Mk w7 0 (.slice f10 f11 f12) p 384) := mf.base (Nat.zero_le _)
  clear mf hB
  obtain ⟨cX, HcX⟩ : ∃ z : Int, Hid (z = cmp3 (X : Int) (p : Int)) := ⟨_, rfl⟩
  have hdX : decide (cX ≥ 0) = false := by rw [HcX.out, cmp_ge', decide_eq_false (not_not_intro hX)]
  go_wp2_with fail
  have Hu1 : Hid (Ob' w7 0 (.slice u0 u1 u2) X) := Hu0.out.below (btr Hs6.out Hs8.out)
  have C := rcmpq Hu1.out.nu Hf10.out.nk.1
  rw [← HcX.out] at C
  refine C.mono ?_
  clear C
  rintro e w7 ⟨rfl, rfl⟩
  have h0' : ¬ (0 : Int) ≤ cX := of_decide_eq_false hdX
  go_wp2_with fail
  refine (fieldq hk _).mono ?_
  rintro e w9 ⟨f, rfl, mf, hB⟩
  have Hs10 : Hid (Below w7.heap.size w7 w9) := hB
  obtain ⟨f20, f21, f22, rfl⟩ := mf.nk.sl
  have Hf20 : Hid (Mk w9 0 (.slice f20 f21 f22) p 384) := mf.base (Nat.zero_le _)
  clear mf hB
  obtain ⟨cY, HcY⟩ : ∃ z : Int, Hid (z = cmp3 (Y : Int) (p : Int)) := ⟨_, rfl⟩
  have hdY : decide (cY ≥ 0) = false := by rw [HcY.out, cmp_ge', decide_eq_false (not_not_intro hY)]
  go_wp2_with fail
  have Hv1 : Hid (Ob' w9 0 (.slice v0 v1 v2) Y) := Hv0.out.below (btr Hs8.out Hs10.out)
  have C := rcmpq Hv1.out.nu Hf20.out.nk.1
  rw [← HcY.out] at C
  refine C.mono ?_
  clear C
  rintro e w9 ⟨rfl, rfl⟩
  have h1' : ¬ (0 : Int) ≤ cY := of_decide_eq_false hdY
  clear hX hY
  go_wp2_with fail
  have Hu2 : Hid (Ob' w9 0 (.slice u0 u1 u2) X) := Hu1.out.below Hs10.out
  refine (mulq hk (Hu2.out.mk (hk.pm.lt HX.out.1)).nq (Hu2.out.mk (hk.pm.lt HX.out.1)).nq).mono ?_
  rintro e w11 ⟨a1v, rfl, m, hB⟩
  have Hs12 : Hid (Below w9.heap.size w9 w11) := hB
  obtain ⟨a10, a11, a12, rfl⟩ := m.nk.sl
  have Ha10 : Hid (Mk w11 0 (.slice a10 a11 a12) (fM p X X) 384) := m.base (Nat.zero_le _)
  clear m hB
  go_wp2_with fail
  have Hu3 : Hid (Ob' w11 0 (.slice u0 u1 u2) X) := Hu2.out.below Hs12.out
  refine (mulq hk (Hu3.out.mk (hk.pm.lt HX.out.1)).nq Ha10.out.nq).mono ?_
  rintro e w13 ⟨a2v, rfl, m, hB⟩
  have Hs14 : Hid (Below w11.heap.size w11 w13) := hB
  obtain ⟨a20, a21, a22, rfl⟩ := m.nk.sl
  have Ha20 : Hid (Mk w13 0 (.slice a20 a21 a22) (fM p X (fM p X X)) 384) := m.base (Nat.zero_le _)
  clear m hB
  have Hs15 : Hid (Below w13.heap.size w13 (w13.alloc (.cells #[.int .u32 3] 51))) := alloc_below _ _
  have Hl30 : Hid (Nq (w13.alloc (.cells #[.int .u32 3] 51)) (.slice (some ⟨w13.heap.size, 0, none⟩) 1 1) 3 384) := lit_q w13 3 (by decide) (by decide +kernel)
  go_wp2_with fail
  generalize (w13.alloc (.cells #[.int .u32 3] 51)) = wv16 at *
  have Hu4 : Hid (Ob' wv16 0 (.slice u0 u1 u2) X) := Hu3.out.below (btr Hs14.out Hs15.out)
  refine (mulq hk Hl30.out (Hu4.out.mk (hk.pm.lt HX.out.1)).nq).mono ?_
  rintro e w17 ⟨a3v, rfl, m, hB⟩
  have Hs18 : Hid (Below wv16.heap.size wv16 w17) := hB
  obtain ⟨a30, a31, a32, rfl⟩ := m.nk.sl
  have Ha30 : Hid (Mk w17 0 (.slice a30 a31 a32) (fM p 3 X) 384) := m.base (Nat.zero_le _)
  clear m hB
  go_wp2_with fail
  have Ha21 : Hid (Mk w17 0 (.slice a20 a21 a22) (fM p X (fM p X X)) 384) := Ha20.out.below (btr Hs15.out Hs18.out)
  refine (subq hk Ha21.out.nq Ha30.out.nq).mono ?_
  rintro e w19 ⟨a4v, rfl, m, hB⟩
  have Hs20 : Hid (Below w17.heap.size w17 w19) := hB
  obtain ⟨a40, a41, a42, rfl⟩ := m.nk.sl
  have Ha40 : Hid (Mk w19 0 (.slice a40 a41 a42) (fS p (fM p X (fM p X X)) (fM p 3 X)) 384) := m.base (Nat.zero_le _)
  clear m hB
  go_wp2_with fail
  refine (bq hk _).mono ?_
  rintro e w21 ⟨bv_, rfl, m, hB⟩
  have Hs22 : Hid (Below w19.heap.size w19 w21) := hB
  obtain ⟨b0, b1, b2, rfl⟩ := m.nk.sl
  have Hb0 : Hid (Mk w21 0 (.slice b0 b1 b2) b 384) := m.base (Nat.zero_le _)
  clear m hB
  go_wp2_with fail
  have Ha41 : Hid (Mk w21 0 (.slice a40 a41 a42) (fS p (fM p X (fM p X X)) (fM p 3 X)) 384) := Ha40.out.below Hs22.out
  refine (addq hk Ha41.out.nq Hb0.out.nq).mono ?_
  rintro e w23 ⟨a5v, rfl, m, hB⟩
  have Hs24 : Hid (Below w21.heap.size w21 w23) := hB
  obtain ⟨a50, a51, a52, rfl⟩ := m.nk.sl
  have Ha50 : Hid (Mk w23 0 (.slice a50 a51 a52) (fA p (fS p (fM p X (fM p X X)) (fM p 3 X)) b) 384) := m.base (Nat.zero_le _)
  clear m hB
  go_wp2_with fail
  have Hv2 : Hid (Ob' w23 0 (.slice v0 v1 v2) Y) := Hv1.out.below (btr Hs12.out (btr Hs14.out (btr Hs15.out (btr Hs18.out (btr Hs20.out (btr Hs22.out Hs24.out))))))
  refine (mulq hk (Hv2.out.mk (hk.pm.lt HX.out.2)).nq (Hv2.out.mk (hk.pm.lt HX.out.2)).nq).mono ?_
  rintro e w25 ⟨a6v, rfl, m, hB⟩
  have Hs26 : Hid (Below w23.heap.size w23 w25) := hB
  obtain ⟨a60, a61, a62, rfl⟩ := m.nk.sl
  have Ha60 : Hid (Mk w25 0 (.slice a60 a61 a62) (fM p Y Y) 384) := m.base (Nat.zero_le _)
  clear m hB
  obtain ⟨cR, HcR⟩ : ∃ z : Int, Hid (z = cmp3 ((fM p Y Y : Nat) : Int) ((fA p (fS p (fM p X (fM p X X)) (fM p 3 X)) b : Nat) : Int)) := ⟨_, rfl⟩
  have hon : (cR == 0) = onB p b X Y false := by rw [HcR.out, cmp_is0, doc_on hk.pm]; unfold onB; simp [HX.out.1, HX.out.2]
  rw [← Hoo.out] at hon
  go_wp2_with fail
  have Ha51 : Hid (Mk w25 0 (.slice a50 a51 a52) (fA p (fS p (fM p X (fM p X X)) (fM p 3 X)) b) 384) := Ha50.out.below Hs26.out
  have C := rcmpq Ha60.out.nk.1 Ha51.out.nk.1
  rw [← HcR.out] at C
  refine C.mono ?_
  clear C
  rintro e w25 ⟨rfl, rfl⟩
  have HB1 : Hid (Below w.heap.size w w25) := HB0.out.trans ((btr Hs1.out (btr Hs4.out (btr Hs6.out (btr Hs8.out (btr Hs10.out (btr Hs12.out (btr Hs14.out (btr Hs15.out (btr Hs18.out (btr Hs20.out (btr Hs22.out (btr Hs24.out Hs26.out)))))))))))).mono HB0.out.size)
  go_wp2
  go_ret
  exact ⟨rfl, HB1.out⟩
theorem onq {c s : Int} {p b n gx gy : Nat} (hk : Kv c p b n gx gy s) (x y : Value) (X Y : Nat) (w : World) (hx : Nu w x X) (hy : Nu w y Y) (inf : Bool) : Calls Tryz.prog 19 #[.int .i64 c, .agg #[x, y, .bool inf]] w fun e w' => e = .returned (.bool (onB p b X Y inf)) ∧ Below w.heap.size w w' := by
  cases inf with
  | true => exact onq_inf hk x y X Y w hx hy
  | false =>
    by_cases hX : X < p
    · by_cases hY : Y < p
      · exact onq_in hk x y X Y w hx hy hX hY
      · rw [show onB p b X Y false = false from by unfold onB; simp [hY]]
        exact onq_Y hk x y X Y w hx hy hX hY
    · rw [show onB p b X Y false = false from by unfold onB; simp [hX]]
      exact onq_X hk x y X Y w hx hy hX
end Go.Proofs.YtmngdaolgdhgmaaGreatDoor
