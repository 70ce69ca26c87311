import Derived.Test.YtnifjhmjpbihoaaDoorCL
import Derived.Test.YtnifjhmjpbihoaaDoorCMb
import Derived.Test.YtnifjhmjpbihoaaDoorCUn
namespace Go.Proofs.YtnifjhmjpbihoaaDoor
open Go.RowKit

set_option maxRecDepth 100000

theorem Lf.of1 {w wN : World} {a : List Value} {ax : List (Value × Nat)} (h : Fm w wN [(26, a)] [] []) (ha : ∀ q ∈ ax, Nu w q.1 q.2) : Lf w wN [(w.heap.size, a)] ax [] := by
  refine ⟨fun q hq => ?_, fun q hq => (ha q hq).below h.bel (Nat.le_refl _), fun q hq => (by cases hq), h.bel⟩
  simp only [List.mem_cons, List.not_mem_nil, or_false] at hq
  rcases hq with rfl
  exact h.bx 0 (by simp)
theorem Kv.mad {c s : Int} {p b n gx gy : Nat} (hk : Kv c p b n gx gy s) {P : Pt} (h : onP p b P) (A B : Nat) : ml p ((A + B) % n) P = sm p (ml p (A % n) P) (ml p (B % n) P) := by
  rw [hk.mm h, hk.mm h, hk.mm h, hk.cv.madd h]
theorem Kv.m1 {c s : Int} {p b n gx gy : Nat} (hk : Kv c p b n gx gy s) {P : Pt} (h : onP p b P) : ml p (1 % n) P = P := by rw [hk.mm h, hk.cv.mone h]
theorem Kv.mn0 {c s : Int} {p b n gx gy : Nat} (_hk : Kv c p b n gx gy s) (P : Pt) : ml p (n % n) P = .O := by rw [Nat.mod_self]; rfl
theorem row_one (w : World) (V : Nat) (hV : V < Bs) : Nu (w.alloc (.cells #[.int .u32 (V : Int)] 37)) (.slice (some ⟨w.heap.size, 0, none⟩) 1 1) V :=
  ⟨[V], ⟨_, _, rfl, Nat.le_refl _, (alloc_bl w [.int .u32 (V : Int)] 37 : Bl 37 _ _ ([V].map U)).rn, fun y hy => by simp at hy; subst hy; exact hV⟩, by simp [nv], by simp⟩
theorem Lf.addb {w wN : World} {bs : List (Nat × List Value)} {ax rs : List (Value × Nat)} {g : Nat} {c : List Value} (h : Lf w wN bs ax rs) (hb : Bl 26 wN g c) : Lf w wN ((g, c) :: bs) ax rs := ⟨fun q hq => by
  rcases List.mem_cons.1 hq with rfl | hq
  · exact hb
  · exact h.bx q hq, h.ar, h.re, h.bel⟩
theorem Pa.open2 {w w' : World} {v : Value} {P : Pt} (h : Pa w w' v P) : ∃ (x0 y0 : Option Addr) (x1 x2 y1 y2 X Y : Nat) (f : Bool), v = .agg #[.slice x0 x1 x2, .slice y0 y1 y2, .bool f] ∧ Mk w' w.heap.size (.slice x0 x1 x2) X 384 ∧ Mk w' w.heap.size (.slice y0 y1 y2) Y 384 ∧ ptO X Y f = P ∧ (f = true → X = 0 ∧ Y = 0) := by
  cases P with
  | O => exact ⟨none, none, 0, 0, 0, 0, 0, 0, true, h.1, Mk.none _ _ _, Mk.none _ _ _, rfl, fun _ => ⟨rfl, rfl⟩⟩
  | A a c =>
    obtain ⟨⟨x, y, rfl, m1, m2, _⟩, _⟩ := h
    obtain ⟨x0, x1, x2, rfl⟩ := m1.nk.sl
    obtain ⟨y0, y1, y2, rfl⟩ := m2.nk.sl
    exact ⟨x0, y0, x1, x2, y1, y2, a, c, false, rfl, m1, m2, rfl, fun h => by cases h⟩
theorem Lf.drew {w wN : World} {bs : List (Nat × List Value)} {ax rs : List (Value × Nat)} (h : Lf w wN bs ax rs) : Lf w wN.drew bs ax rs := h.below (below_drewN (Below.refl _ _) 1)
theorem sum_len {A B : Nat} (hA : ¬ 1024 < bl A) (hB : ¬ 1024 < bl B) : (dg Bs (A + B)).length ≤ 3000000 := by
  have h1 : A < pw 1024 := Nat.lt_of_lt_of_le (bl_lt A) (pw_mono (k := bl A) (m := 1024) (by omega))
  have h2 : B < pw 1024 := Nat.lt_of_lt_of_le (bl_lt B) (pw_mono (k := bl B) (m := 1024) (by omega))
  have h3 : A + B < pw 1025 := by rw [pw_succ]; omega
  exact Nat.le_trans (dgl_pw h3 (by decide)) (by decide)
theorem New.nu' {w w' : World} {r : Value} {V k : Nat} (hl : (dg Bs V).length ≤ 3000000) (h : New w w' r V k) : Nu w' r V := New.vl (k := 3000000) ⟨h.1, hl, h.2.2⟩
theorem bl_n {c s : Int} {p b n gx gy : Nat} (hk : Kv c p b n gx gy s) : ¬ 1024 < bl n := by
  have h : n < pw 384 := by cases hk <;> decide +kernel
  have := bl_pw h
  omega
set_option maxHeartbeats 40000000 in
theorem mult_none (c : Int) (h1 : c ≠ 1) (h2 : c ≠ 2) (a d x y : Value) (A B X Y : Nat) (inf : Bool) (w : World) (ha : Nu w a A) (hd : Nu w d B) (hx : Nu w x X) (hy : Nu w y Y)  :
    Calls Tryd.prog 3 #[.int .i64 c, a, d, .agg #[x, y, .bool inf]] w fun e w' => e = .returned (.bool true) ∧ Below w.heap.size w w' := by
  obtain ⟨a0, a1, a2, rfl⟩ := ha.shape
  obtain ⟨d0, d1, d2, rfl⟩ := hd.shape
  obtain ⟨x0, x1, x2, rfl⟩ := hx.shape
  obtain ⟨y0, y1, y2, rfl⟩ := hy.shape
  have H0 : Hid (Lf w (w.alloc (.cells #[.slice x0 x1 x2, .slice y0 y1 y2, .bool inf] 26)) [(w.heap.size, [.slice x0 x1 x2, .slice y0 y1 y2, .bool inf])] [(.slice a0 a1 a2, A), (.slice d0 d1 d2, B), (.slice x0 x1 x2, X), (.slice y0 y1 y2, Y)] []) := Lf.of1 ((Fm.nil (w := w) (A := []) ar_nil).push (by simp) 26 [.slice x0 x1 x2, .slice y0 y1 y2, .bool inf]) (fun q hq => by simp only [List.mem_cons, List.not_mem_nil, or_false] at hq; rcases hq with rfl | rfl | rfl | rfl <;> assumption)
  clear ha hd hx hy
  go_enter Tryd.func3, Tryd.ntmps3
  go_wp2_with fail
  generalize (w.alloc (.cells #[.slice x0 x1 x2, .slice y0 y1 y2, .bool inf] 26)) = wv1 at *
  refine (started_v _).mono ?_
  rintro e wa ⟨rfl, hB⟩
  have Hwa : Hid (Lf w wa [(w.heap.size, [.slice x0 x1 x2, .slice y0 y1 y2, .bool inf])] [(.slice a0 a1 a2, A), (.slice d0 d1 d2, B), (.slice x0 x1 x2, X), (.slice y0 y1 y2, Y)] []) := (H0.out.below hB)
  clear hB
  have k0_0 : wa.cell? ⟨w.heap.size, 0, none⟩ = some (.slice x0 x1 x2) := Hwa.out.cell 0 0 (Nat.le_of_ble_eq_true rfl) (Nat.le_of_ble_eq_true rfl)
  have k0_1 : wa.cell? ⟨w.heap.size, 1, none⟩ = some (.slice y0 y1 y2) := Hwa.out.cell 0 1 (Nat.le_of_ble_eq_true rfl) (Nat.le_of_ble_eq_true rfl)
  have k0_2 : wa.cell? ⟨w.heap.size, 2, none⟩ = some (.bool inf) := Hwa.out.cell 0 2 (Nat.le_of_ble_eq_true rfl) (Nat.le_of_ble_eq_true rfl)
  go_wp2_with fail
  clear k0_0 k0_1 k0_2
  refine (on_none c h1 h2 _ _ inf _ ⟨_, _, _, rfl⟩ ⟨_, _, _, rfl⟩).mono ?_
  rintro e wb ⟨rfl, hB⟩
  have Hwb : Hid (Lf w wb [(w.heap.size, [.slice x0 x1 x2, .slice y0 y1 y2, .bool inf])] [(.slice a0 a1 a2, A), (.slice d0 d1 d2, B), (.slice x0 x1 x2, X), (.slice y0 y1 y2, Y)] []) := (Hwa.out.below hB)
  clear hB
  have k0_0 : wb.cell? ⟨w.heap.size, 0, none⟩ = some (.slice x0 x1 x2) := Hwb.out.cell 0 0 (Nat.le_of_ble_eq_true rfl) (Nat.le_of_ble_eq_true rfl)
  have k0_1 : wb.cell? ⟨w.heap.size, 1, none⟩ = some (.slice y0 y1 y2) := Hwb.out.cell 0 1 (Nat.le_of_ble_eq_true rfl) (Nat.le_of_ble_eq_true rfl)
  have k0_2 : wb.cell? ⟨w.heap.size, 2, none⟩ = some (.bool inf) := Hwb.out.cell 0 2 (Nat.le_of_ble_eq_true rfl) (Nat.le_of_ble_eq_true rfl)
  go_wp2_with fail
  clear k0_0 k0_1 k0_2
  refine (mul_none c h1 h2 _ _ _ A X Y inf _ (Hwb.out.arg 0 (Nat.le_of_ble_eq_true rfl)) (Hwb.out.arg 2 (Nat.le_of_ble_eq_true rfl)) (Hwb.out.arg 3 (Nat.le_of_ble_eq_true rfl))).mono ?_
  rintro e wc ⟨rfl, hB⟩
  have Hwc : Hid (Lf w wc [(w.heap.size, [.slice x0 x1 x2, .slice y0 y1 y2, .bool inf])] [(.slice a0 a1 a2, A), (.slice d0 d1 d2, B), (.slice x0 x1 x2, X), (.slice y0 y1 y2, Y)] []) := (Hwb.out.below hB)
  clear hB
  have HB1 : Hid (Lf w (wc.alloc (.cells #[.slice none 0 0, .slice none 0 0, .bool false] 26)) [(wc.heap.size, [.slice none 0 0, .slice none 0 0, .bool false]), (w.heap.size, [.slice x0 x1 x2, .slice y0 y1 y2, .bool inf])] [(.slice a0 a1 a2, A), (.slice d0 d1 d2, B), (.slice x0 x1 x2, X), (.slice y0 y1 y2, Y)] []) := Hwc.out.box [.slice none 0 0, .slice none 0 0, .bool false]
  have k0_0 : (wc.alloc (.cells #[.slice none 0 0, .slice none 0 0, .bool false] 26)).cell? ⟨w.heap.size, 0, none⟩ = some (.slice x0 x1 x2) := HB1.out.cell 1 0 (Nat.le_of_ble_eq_true rfl) (Nat.le_of_ble_eq_true rfl)
  have k0_1 : (wc.alloc (.cells #[.slice none 0 0, .slice none 0 0, .bool false] 26)).cell? ⟨w.heap.size, 1, none⟩ = some (.slice y0 y1 y2) := HB1.out.cell 1 1 (Nat.le_of_ble_eq_true rfl) (Nat.le_of_ble_eq_true rfl)
  have k0_2 : (wc.alloc (.cells #[.slice none 0 0, .slice none 0 0, .bool false] 26)).cell? ⟨w.heap.size, 2, none⟩ = some (.bool inf) := HB1.out.cell 1 2 (Nat.le_of_ble_eq_true rfl) (Nat.le_of_ble_eq_true rfl)
  go_wp2_with fail
  clear k0_0 k0_1 k0_2
  generalize (wc.alloc (.cells #[.slice none 0 0, .slice none 0 0, .bool false] 26)) = wv5 at *
  refine (joint_none c h1 h2 _ _ _ _ A B X Y inf _ (HB1.out.arg 0 (Nat.le_of_ble_eq_true rfl)) (HB1.out.arg 1 (Nat.le_of_ble_eq_true rfl)) (HB1.out.arg 2 (Nat.le_of_ble_eq_true rfl)) (HB1.out.arg 3 (Nat.le_of_ble_eq_true rfl))).mono ?_
  rintro e wd ⟨rfl, hB⟩
  have Hwd : Hid (Lf w wd [(wc.heap.size, [.slice none 0 0, .slice none 0 0, .bool false]), (w.heap.size, [.slice x0 x1 x2, .slice y0 y1 y2, .bool inf])] [(.slice a0 a1 a2, A), (.slice d0 d1 d2, B), (.slice x0 x1 x2, X), (.slice y0 y1 y2, Y)] []) := (HB1.out.below hB)
  clear hB
  have HB2 : Hid (Lf w (wd.alloc (.cells #[.slice none 0 0, .slice none 0 0, .bool false] 26)) [(wd.heap.size, [.slice none 0 0, .slice none 0 0, .bool false]), (wc.heap.size, [.slice none 0 0, .slice none 0 0, .bool false]), (w.heap.size, [.slice x0 x1 x2, .slice y0 y1 y2, .bool inf])] [(.slice a0 a1 a2, A), (.slice d0 d1 d2, B), (.slice x0 x1 x2, X), (.slice y0 y1 y2, Y)] []) := Hwd.out.box [.slice none 0 0, .slice none 0 0, .bool false]
  go_wp2
  go_ret
  exact ⟨rfl, HB2.out.bel⟩
set_option maxHeartbeats 40000000 in
theorem mult_bad {c s' : Int} {p b n gx gy : Nat} (hk : Kv c p b n gx gy s') (a d x y : Value) (A B X Y : Nat) (inf : Bool) (w : World) (ha : Nu w a A) (hd : Nu w d B) (hx : Nu w x X) (hy : Nu w y Y) (o1 : onB p b X Y inf = false) :
    Calls Tryd.prog 3 #[.int .i64 c, a, d, .agg #[x, y, .bool inf]] w fun e w' => e = .returned (.bool true) ∧ Below w.heap.size w w' := by
  obtain ⟨a0, a1, a2, rfl⟩ := ha.shape
  obtain ⟨d0, d1, d2, rfl⟩ := hd.shape
  obtain ⟨x0, x1, x2, rfl⟩ := hx.shape
  obtain ⟨y0, y1, y2, rfl⟩ := hy.shape
  have H0 : Hid (Lf w (w.alloc (.cells #[.slice x0 x1 x2, .slice y0 y1 y2, .bool inf] 26)) [(w.heap.size, [.slice x0 x1 x2, .slice y0 y1 y2, .bool inf])] [(.slice a0 a1 a2, A), (.slice d0 d1 d2, B), (.slice x0 x1 x2, X), (.slice y0 y1 y2, Y)] []) := Lf.of1 ((Fm.nil (w := w) (A := []) ar_nil).push (by simp) 26 [.slice x0 x1 x2, .slice y0 y1 y2, .bool inf]) (fun q hq => by simp only [List.mem_cons, List.not_mem_nil, or_false] at hq; rcases hq with rfl | rfl | rfl | rfl <;> assumption)
  clear ha hd hx hy
  go_enter Tryd.func3, Tryd.ntmps3
  go_wp2_with fail
  generalize (w.alloc (.cells #[.slice x0 x1 x2, .slice y0 y1 y2, .bool inf] 26)) = wv1 at *
  refine (started_v _).mono ?_
  rintro e wa ⟨rfl, hB⟩
  have Hwa : Hid (Lf w wa [(w.heap.size, [.slice x0 x1 x2, .slice y0 y1 y2, .bool inf])] [(.slice a0 a1 a2, A), (.slice d0 d1 d2, B), (.slice x0 x1 x2, X), (.slice y0 y1 y2, Y)] []) := (H0.out.below hB)
  clear hB
  have k0_0 : wa.cell? ⟨w.heap.size, 0, none⟩ = some (.slice x0 x1 x2) := Hwa.out.cell 0 0 (Nat.le_of_ble_eq_true rfl) (Nat.le_of_ble_eq_true rfl)
  have k0_1 : wa.cell? ⟨w.heap.size, 1, none⟩ = some (.slice y0 y1 y2) := Hwa.out.cell 0 1 (Nat.le_of_ble_eq_true rfl) (Nat.le_of_ble_eq_true rfl)
  have k0_2 : wa.cell? ⟨w.heap.size, 2, none⟩ = some (.bool inf) := Hwa.out.cell 0 2 (Nat.le_of_ble_eq_true rfl) (Nat.le_of_ble_eq_true rfl)
  go_wp2_with fail
  clear k0_0 k0_1 k0_2
  have C := on_v hk _ _ X Y inf _ (Hwa.out.arg 2 (Nat.le_of_ble_eq_true rfl)) (Hwa.out.arg 3 (Nat.le_of_ble_eq_true rfl))
  rw [o1] at C
  refine C.mono ?_
  clear C
  rintro e wb ⟨rfl, hB⟩
  have Hwb : Hid (Lf w wb [(w.heap.size, [.slice x0 x1 x2, .slice y0 y1 y2, .bool inf])] [(.slice a0 a1 a2, A), (.slice d0 d1 d2, B), (.slice x0 x1 x2, X), (.slice y0 y1 y2, Y)] []) := (Hwa.out.below hB)
  clear hB
  have k0_0 : wb.cell? ⟨w.heap.size, 0, none⟩ = some (.slice x0 x1 x2) := Hwb.out.cell 0 0 (Nat.le_of_ble_eq_true rfl) (Nat.le_of_ble_eq_true rfl)
  have k0_1 : wb.cell? ⟨w.heap.size, 1, none⟩ = some (.slice y0 y1 y2) := Hwb.out.cell 0 1 (Nat.le_of_ble_eq_true rfl) (Nat.le_of_ble_eq_true rfl)
  have k0_2 : wb.cell? ⟨w.heap.size, 2, none⟩ = some (.bool inf) := Hwb.out.cell 0 2 (Nat.le_of_ble_eq_true rfl) (Nat.le_of_ble_eq_true rfl)
  go_wp2_with fail
  clear k0_0 k0_1 k0_2
  refine (mul_bad hk _ _ _ A X Y inf _ (Hwb.out.arg 0 (Nat.le_of_ble_eq_true rfl)) (Hwb.out.arg 2 (Nat.le_of_ble_eq_true rfl)) (Hwb.out.arg 3 (Nat.le_of_ble_eq_true rfl)) o1).mono ?_
  rintro e wc ⟨rfl, hB⟩
  have Hwc : Hid (Lf w wc [(w.heap.size, [.slice x0 x1 x2, .slice y0 y1 y2, .bool inf])] [(.slice a0 a1 a2, A), (.slice d0 d1 d2, B), (.slice x0 x1 x2, X), (.slice y0 y1 y2, Y)] []) := (Hwb.out.below hB)
  clear hB
  have HB1 : Hid (Lf w (wc.alloc (.cells #[.slice none 0 0, .slice none 0 0, .bool false] 26)) [(wc.heap.size, [.slice none 0 0, .slice none 0 0, .bool false]), (w.heap.size, [.slice x0 x1 x2, .slice y0 y1 y2, .bool inf])] [(.slice a0 a1 a2, A), (.slice d0 d1 d2, B), (.slice x0 x1 x2, X), (.slice y0 y1 y2, Y)] []) := Hwc.out.box [.slice none 0 0, .slice none 0 0, .bool false]
  have k0_0 : (wc.alloc (.cells #[.slice none 0 0, .slice none 0 0, .bool false] 26)).cell? ⟨w.heap.size, 0, none⟩ = some (.slice x0 x1 x2) := HB1.out.cell 1 0 (Nat.le_of_ble_eq_true rfl) (Nat.le_of_ble_eq_true rfl)
  have k0_1 : (wc.alloc (.cells #[.slice none 0 0, .slice none 0 0, .bool false] 26)).cell? ⟨w.heap.size, 1, none⟩ = some (.slice y0 y1 y2) := HB1.out.cell 1 1 (Nat.le_of_ble_eq_true rfl) (Nat.le_of_ble_eq_true rfl)
  have k0_2 : (wc.alloc (.cells #[.slice none 0 0, .slice none 0 0, .bool false] 26)).cell? ⟨w.heap.size, 2, none⟩ = some (.bool inf) := HB1.out.cell 1 2 (Nat.le_of_ble_eq_true rfl) (Nat.le_of_ble_eq_true rfl)
  go_wp2_with fail
  clear k0_0 k0_1 k0_2
  generalize (wc.alloc (.cells #[.slice none 0 0, .slice none 0 0, .bool false] 26)) = wv5 at *
  refine (joint_bad hk _ _ _ _ A B X Y inf _ (HB1.out.arg 0 (Nat.le_of_ble_eq_true rfl)) (HB1.out.arg 1 (Nat.le_of_ble_eq_true rfl)) (HB1.out.arg 2 (Nat.le_of_ble_eq_true rfl)) (HB1.out.arg 3 (Nat.le_of_ble_eq_true rfl)) o1).mono ?_
  rintro e wd ⟨rfl, hB⟩
  have Hwd : Hid (Lf w wd [(wc.heap.size, [.slice none 0 0, .slice none 0 0, .bool false]), (w.heap.size, [.slice x0 x1 x2, .slice y0 y1 y2, .bool inf])] [(.slice a0 a1 a2, A), (.slice d0 d1 d2, B), (.slice x0 x1 x2, X), (.slice y0 y1 y2, Y)] []) := (HB1.out.below hB)
  clear hB
  have HB2 : Hid (Lf w (wd.alloc (.cells #[.slice none 0 0, .slice none 0 0, .bool false] 26)) [(wd.heap.size, [.slice none 0 0, .slice none 0 0, .bool false]), (wc.heap.size, [.slice none 0 0, .slice none 0 0, .bool false]), (w.heap.size, [.slice x0 x1 x2, .slice y0 y1 y2, .bool inf])] [(.slice a0 a1 a2, A), (.slice d0 d1 d2, B), (.slice x0 x1 x2, X), (.slice y0 y1 y2, Y)] []) := Hwd.out.box [.slice none 0 0, .slice none 0 0, .bool false]
  go_wp2
  go_ret
  exact ⟨rfl, HB2.out.bel⟩
set_option maxHeartbeats 40000000 in
theorem mult_l1 {c s' : Int} {p b n gx gy : Nat} (hk : Kv c p b n gx gy s') (a d x y : Value) (A B X Y : Nat) (inf : Bool) (w : World) (ha : Nu w a A) (hd : Nu w d B) (hx : Nu w x X) (hy : Nu w y Y) (o1 : onB p b X Y inf = true) (hA : 1024 < bl A) (hBl : ¬ 1024 < bl B) :
    Calls Tryd.prog 3 #[.int .i64 c, a, d, .agg #[x, y, .bool inf]] w fun e w' => e = .returned (.bool true) ∧ Below w.heap.size w w' := by
  obtain ⟨a0, a1, a2, rfl⟩ := ha.shape
  obtain ⟨d0, d1, d2, rfl⟩ := hd.shape
  obtain ⟨x0, x1, x2, rfl⟩ := hx.shape
  obtain ⟨y0, y1, y2, rfl⟩ := hy.shape
  have H0 : Hid (Lf w (w.alloc (.cells #[.slice x0 x1 x2, .slice y0 y1 y2, .bool inf] 26)) [(w.heap.size, [.slice x0 x1 x2, .slice y0 y1 y2, .bool inf])] [(.slice a0 a1 a2, A), (.slice d0 d1 d2, B), (.slice x0 x1 x2, X), (.slice y0 y1 y2, Y)] []) := Lf.of1 ((Fm.nil (w := w) (A := []) ar_nil).push (by simp) 26 [.slice x0 x1 x2, .slice y0 y1 y2, .bool inf]) (fun q hq => by simp only [List.mem_cons, List.not_mem_nil, or_false] at hq; rcases hq with rfl | rfl | rfl | rfl <;> assumption)
  clear ha hd hx hy
  go_enter Tryd.func3, Tryd.ntmps3
  go_wp2_with fail
  generalize (w.alloc (.cells #[.slice x0 x1 x2, .slice y0 y1 y2, .bool inf] 26)) = wv1 at *
  refine (started_v _).mono ?_
  rintro e wa ⟨rfl, hB⟩
  have Hwa : Hid (Lf w wa [(w.heap.size, [.slice x0 x1 x2, .slice y0 y1 y2, .bool inf])] [(.slice a0 a1 a2, A), (.slice d0 d1 d2, B), (.slice x0 x1 x2, X), (.slice y0 y1 y2, Y)] []) := (H0.out.below hB)
  clear hB
  have k0_0 : wa.cell? ⟨w.heap.size, 0, none⟩ = some (.slice x0 x1 x2) := Hwa.out.cell 0 0 (Nat.le_of_ble_eq_true rfl) (Nat.le_of_ble_eq_true rfl)
  have k0_1 : wa.cell? ⟨w.heap.size, 1, none⟩ = some (.slice y0 y1 y2) := Hwa.out.cell 0 1 (Nat.le_of_ble_eq_true rfl) (Nat.le_of_ble_eq_true rfl)
  have k0_2 : wa.cell? ⟨w.heap.size, 2, none⟩ = some (.bool inf) := Hwa.out.cell 0 2 (Nat.le_of_ble_eq_true rfl) (Nat.le_of_ble_eq_true rfl)
  go_wp2_with fail
  clear k0_0 k0_1 k0_2
  have C := on_v hk _ _ X Y inf _ (Hwa.out.arg 2 (Nat.le_of_ble_eq_true rfl)) (Hwa.out.arg 3 (Nat.le_of_ble_eq_true rfl))
  rw [o1] at C
  refine C.mono ?_
  clear C
  rintro e wb ⟨rfl, hB⟩
  have Hwb : Hid (Lf w wb [(w.heap.size, [.slice x0 x1 x2, .slice y0 y1 y2, .bool inf])] [(.slice a0 a1 a2, A), (.slice d0 d1 d2, B), (.slice x0 x1 x2, X), (.slice y0 y1 y2, Y)] []) := (Hwa.out.below hB)
  clear hB
  have hpm := hk.pm
  have C0 := hk.cv
  have oP := ((onB_iff hpm).1 o1).1
  have HPM : Hid (Pm p) := hpm
  clear hpm
  have k0_0 : wb.cell? ⟨w.heap.size, 0, none⟩ = some (.slice x0 x1 x2) := Hwb.out.cell 0 0 (Nat.le_of_ble_eq_true rfl) (Nat.le_of_ble_eq_true rfl)
  have k0_1 : wb.cell? ⟨w.heap.size, 1, none⟩ = some (.slice y0 y1 y2) := Hwb.out.cell 0 1 (Nat.le_of_ble_eq_true rfl) (Nat.le_of_ble_eq_true rfl)
  have k0_2 : wb.cell? ⟨w.heap.size, 2, none⟩ = some (.bool inf) := Hwb.out.cell 0 2 (Nat.le_of_ble_eq_true rfl) (Nat.le_of_ble_eq_true rfl)
  go_wp2_with fail
  clear k0_0 k0_1 k0_2
  refine (mul_large hk _ _ _ A X Y inf _ (Hwb.out.arg 0 (Nat.le_of_ble_eq_true rfl)) (Hwb.out.arg 2 (Nat.le_of_ble_eq_true rfl)) (Hwb.out.arg 3 (Nat.le_of_ble_eq_true rfl)) o1 hA).mono ?_
  rintro e wc ⟨rfl, hB⟩
  have Hwc : Hid (Lf w wc [(w.heap.size, [.slice x0 x1 x2, .slice y0 y1 y2, .bool inf])] [(.slice a0 a1 a2, A), (.slice d0 d1 d2, B), (.slice x0 x1 x2, X), (.slice y0 y1 y2, Y)] []) := (Hwb.out.below hB)
  clear hB
  have HB1 : Hid (Lf w (wc.alloc (.cells #[.slice none 0 0, .slice none 0 0, .bool false] 26)) [(wc.heap.size, [.slice none 0 0, .slice none 0 0, .bool false]), (w.heap.size, [.slice x0 x1 x2, .slice y0 y1 y2, .bool inf])] [(.slice a0 a1 a2, A), (.slice d0 d1 d2, B), (.slice x0 x1 x2, X), (.slice y0 y1 y2, Y)] []) := Hwc.out.box [.slice none 0 0, .slice none 0 0, .bool false]
  have k0_0 : (wc.alloc (.cells #[.slice none 0 0, .slice none 0 0, .bool false] 26)).cell? ⟨w.heap.size, 0, none⟩ = some (.slice x0 x1 x2) := HB1.out.cell 1 0 (Nat.le_of_ble_eq_true rfl) (Nat.le_of_ble_eq_true rfl)
  have k0_1 : (wc.alloc (.cells #[.slice none 0 0, .slice none 0 0, .bool false] 26)).cell? ⟨w.heap.size, 1, none⟩ = some (.slice y0 y1 y2) := HB1.out.cell 1 1 (Nat.le_of_ble_eq_true rfl) (Nat.le_of_ble_eq_true rfl)
  have k0_2 : (wc.alloc (.cells #[.slice none 0 0, .slice none 0 0, .bool false] 26)).cell? ⟨w.heap.size, 2, none⟩ = some (.bool inf) := HB1.out.cell 1 2 (Nat.le_of_ble_eq_true rfl) (Nat.le_of_ble_eq_true rfl)
  go_wp2_with fail
  clear k0_0 k0_1 k0_2
  generalize (wc.alloc (.cells #[.slice none 0 0, .slice none 0 0, .bool false] 26)) = wv5 at *
  refine (mul_ok hk _ _ _ B X Y inf _ (HB1.out.arg 1 (Nat.le_of_ble_eq_true rfl)) (HB1.out.arg 2 (Nat.le_of_ble_eq_true rfl)) (HB1.out.arg 3 (Nat.le_of_ble_eq_true rfl)) o1 hBl).mono ?_
  rintro e wd ⟨r, rfl, hPa⟩
  have hB := hPa.bel
  obtain ⟨x2_0, y2_0, x2_1, x2_2, y2_1, y2_2, X2, Y2, f2, rfl, m1, m2, hpt, hz⟩ := hPa.open
  have E2 : Hid (ptO X2 Y2 f2 = ml p (B % n) (ptO X Y inf) ∧ (f2 = true → X2 = 0 ∧ Y2 = 0)) := ⟨hpt, hz⟩
  have Hwd : Hid (Lf w wd [(wc.heap.size, [.slice none 0 0, .slice none 0 0, .bool false]), (w.heap.size, [.slice x0 x1 x2, .slice y0 y1 y2, .bool inf])] [(.slice a0 a1 a2, A), (.slice d0 d1 d2, B), (.slice x0 x1 x2, X), (.slice y0 y1 y2, Y)] [(.slice y2_0 y2_1 y2_2, Y2), (.slice x2_0 x2_1 x2_2, X2)]) := (((HB1.out.below hB).res m1).res m2)
  clear hB m1 m2 hpt hz
  have HB2 : Hid (Lf w (wd.alloc (.cells #[.slice x2_0 x2_1 x2_2, .slice y2_0 y2_1 y2_2, .bool f2] 26)) [(wd.heap.size, [.slice x2_0 x2_1 x2_2, .slice y2_0 y2_1 y2_2, .bool f2]), (wc.heap.size, [.slice none 0 0, .slice none 0 0, .bool false]), (w.heap.size, [.slice x0 x1 x2, .slice y0 y1 y2, .bool inf])] [(.slice a0 a1 a2, A), (.slice d0 d1 d2, B), (.slice x0 x1 x2, X), (.slice y0 y1 y2, Y)] [(.slice y2_0 y2_1 y2_2, Y2), (.slice x2_0 x2_1 x2_2, X2)]) := Hwd.out.box [.slice x2_0 x2_1 x2_2, .slice y2_0 y2_1 y2_2, .bool f2]
  go_wp2_with fail
  generalize (wd.alloc (.cells #[.slice x2_0 x2_1 x2_2, .slice y2_0 y2_1 y2_2, .bool f2] 26)) = wv7 at *
  have CA := vbits _ A _ wv7 (HB2.out.arg 0 (Nat.le_of_ble_eq_true rfl)) (by decide)
  have CB := vbits _ B _ wv7 (HB2.out.arg 1 (Nat.le_of_ble_eq_true rfl)) (by decide)
  have zA : ∃ z : Int, z = ((bl A : Nat) : Int) := ⟨_, rfl⟩
  obtain ⟨zA, hzA⟩ := zA
  have zB : ∃ z : Int, z = ((bl B : Nat) : Int) := ⟨_, rfl⟩
  obtain ⟨zB, hzB⟩ := zB
  rw [← hzA] at CA
  rw [← hzB] at CB
  have gtA : decide (zA > 1024) = true := decide_eq_true (by omega)
  have glA : decide (1024 < zA) = true := decide_eq_true (by omega)
  have gpA : (1024 < zA) := by omega
  have gtB : decide (zB > 1024) = false := decide_eq_false (by omega)
  have glB : decide (1024 < zB) = false := decide_eq_false (by omega)
  have gpB : ¬ (1024 < zB) := by omega
  clear hzA hzB
  refine CA.mono ?_
  rintro e w_ ⟨rfl, rfl⟩
  clear CA
  go_wp2_with fail
  refine CB.mono ?_
  rintro e w_ ⟨rfl, rfl⟩
  clear CB
  have k0_0 : w_.cell? ⟨w.heap.size, 0, none⟩ = some (.slice x0 x1 x2) := HB2.out.cell 2 0 (Nat.le_of_ble_eq_true rfl) (Nat.le_of_ble_eq_true rfl)
  have k0_1 : w_.cell? ⟨w.heap.size, 1, none⟩ = some (.slice y0 y1 y2) := HB2.out.cell 2 1 (Nat.le_of_ble_eq_true rfl) (Nat.le_of_ble_eq_true rfl)
  have k0_2 : w_.cell? ⟨w.heap.size, 2, none⟩ = some (.bool inf) := HB2.out.cell 2 2 (Nat.le_of_ble_eq_true rfl) (Nat.le_of_ble_eq_true rfl)
  go_wp2_with fail
  clear k0_0 k0_1 k0_2
  refine (joint_large1 hk _ _ _ _ A B X Y inf _ (HB2.out.arg 0 (Nat.le_of_ble_eq_true rfl)) (HB2.out.arg 1 (Nat.le_of_ble_eq_true rfl)) (HB2.out.arg 2 (Nat.le_of_ble_eq_true rfl)) (HB2.out.arg 3 (Nat.le_of_ble_eq_true rfl)) o1 hA).mono ?_
  rintro e wj ⟨rfl, hB⟩
  have Hwj : Hid (Lf w wj [(wd.heap.size, [.slice x2_0 x2_1 x2_2, .slice y2_0 y2_1 y2_2, .bool f2]), (wc.heap.size, [.slice none 0 0, .slice none 0 0, .bool false]), (w.heap.size, [.slice x0 x1 x2, .slice y0 y1 y2, .bool inf])] [(.slice a0 a1 a2, A), (.slice d0 d1 d2, B), (.slice x0 x1 x2, X), (.slice y0 y1 y2, Y)] [(.slice y2_0 y2_1 y2_2, Y2), (.slice x2_0 x2_1 x2_2, X2)]) := (HB2.out.below hB)
  clear hB
  have HB3 : Hid (Lf w (wj.alloc (.cells #[.slice none 0 0, .slice none 0 0, .bool false] 26)) [(wj.heap.size, [.slice none 0 0, .slice none 0 0, .bool false]), (wd.heap.size, [.slice x2_0 x2_1 x2_2, .slice y2_0 y2_1 y2_2, .bool f2]), (wc.heap.size, [.slice none 0 0, .slice none 0 0, .bool false]), (w.heap.size, [.slice x0 x1 x2, .slice y0 y1 y2, .bool inf])] [(.slice a0 a1 a2, A), (.slice d0 d1 d2, B), (.slice x0 x1 x2, X), (.slice y0 y1 y2, Y)] [(.slice y2_0 y2_1 y2_2, Y2), (.slice x2_0 x2_1 x2_2, X2)]) := Hwj.out.box [.slice none 0 0, .slice none 0 0, .bool false]
  go_wp2
  go_ret
  exact ⟨rfl, HB3.out.bel⟩
set_option maxHeartbeats 40000000 in
theorem mult_l2 {c s' : Int} {p b n gx gy : Nat} (hk : Kv c p b n gx gy s') (a d x y : Value) (A B X Y : Nat) (inf : Bool) (w : World) (ha : Nu w a A) (hd : Nu w d B) (hx : Nu w x X) (hy : Nu w y Y) (o1 : onB p b X Y inf = true) (hA : 1024 < bl A) (hBl : 1024 < bl B) :
    Calls Tryd.prog 3 #[.int .i64 c, a, d, .agg #[x, y, .bool inf]] w fun e w' => e = .returned (.bool true) ∧ Below w.heap.size w w' := by
  obtain ⟨a0, a1, a2, rfl⟩ := ha.shape
  obtain ⟨d0, d1, d2, rfl⟩ := hd.shape
  obtain ⟨x0, x1, x2, rfl⟩ := hx.shape
  obtain ⟨y0, y1, y2, rfl⟩ := hy.shape
  have H0 : Hid (Lf w (w.alloc (.cells #[.slice x0 x1 x2, .slice y0 y1 y2, .bool inf] 26)) [(w.heap.size, [.slice x0 x1 x2, .slice y0 y1 y2, .bool inf])] [(.slice a0 a1 a2, A), (.slice d0 d1 d2, B), (.slice x0 x1 x2, X), (.slice y0 y1 y2, Y)] []) := Lf.of1 ((Fm.nil (w := w) (A := []) ar_nil).push (by simp) 26 [.slice x0 x1 x2, .slice y0 y1 y2, .bool inf]) (fun q hq => by simp only [List.mem_cons, List.not_mem_nil, or_false] at hq; rcases hq with rfl | rfl | rfl | rfl <;> assumption)
  clear ha hd hx hy
  go_enter Tryd.func3, Tryd.ntmps3
  go_wp2_with fail
  generalize (w.alloc (.cells #[.slice x0 x1 x2, .slice y0 y1 y2, .bool inf] 26)) = wv1 at *
  refine (started_v _).mono ?_
  rintro e wa ⟨rfl, hB⟩
  have Hwa : Hid (Lf w wa [(w.heap.size, [.slice x0 x1 x2, .slice y0 y1 y2, .bool inf])] [(.slice a0 a1 a2, A), (.slice d0 d1 d2, B), (.slice x0 x1 x2, X), (.slice y0 y1 y2, Y)] []) := (H0.out.below hB)
  clear hB
  have k0_0 : wa.cell? ⟨w.heap.size, 0, none⟩ = some (.slice x0 x1 x2) := Hwa.out.cell 0 0 (Nat.le_of_ble_eq_true rfl) (Nat.le_of_ble_eq_true rfl)
  have k0_1 : wa.cell? ⟨w.heap.size, 1, none⟩ = some (.slice y0 y1 y2) := Hwa.out.cell 0 1 (Nat.le_of_ble_eq_true rfl) (Nat.le_of_ble_eq_true rfl)
  have k0_2 : wa.cell? ⟨w.heap.size, 2, none⟩ = some (.bool inf) := Hwa.out.cell 0 2 (Nat.le_of_ble_eq_true rfl) (Nat.le_of_ble_eq_true rfl)
  go_wp2_with fail
  clear k0_0 k0_1 k0_2
  have C := on_v hk _ _ X Y inf _ (Hwa.out.arg 2 (Nat.le_of_ble_eq_true rfl)) (Hwa.out.arg 3 (Nat.le_of_ble_eq_true rfl))
  rw [o1] at C
  refine C.mono ?_
  clear C
  rintro e wb ⟨rfl, hB⟩
  have Hwb : Hid (Lf w wb [(w.heap.size, [.slice x0 x1 x2, .slice y0 y1 y2, .bool inf])] [(.slice a0 a1 a2, A), (.slice d0 d1 d2, B), (.slice x0 x1 x2, X), (.slice y0 y1 y2, Y)] []) := (Hwa.out.below hB)
  clear hB
  have hpm := hk.pm
  have C0 := hk.cv
  have oP := ((onB_iff hpm).1 o1).1
  have HPM : Hid (Pm p) := hpm
  clear hpm
  have k0_0 : wb.cell? ⟨w.heap.size, 0, none⟩ = some (.slice x0 x1 x2) := Hwb.out.cell 0 0 (Nat.le_of_ble_eq_true rfl) (Nat.le_of_ble_eq_true rfl)
  have k0_1 : wb.cell? ⟨w.heap.size, 1, none⟩ = some (.slice y0 y1 y2) := Hwb.out.cell 0 1 (Nat.le_of_ble_eq_true rfl) (Nat.le_of_ble_eq_true rfl)
  have k0_2 : wb.cell? ⟨w.heap.size, 2, none⟩ = some (.bool inf) := Hwb.out.cell 0 2 (Nat.le_of_ble_eq_true rfl) (Nat.le_of_ble_eq_true rfl)
  go_wp2_with fail
  clear k0_0 k0_1 k0_2
  refine (mul_large hk _ _ _ A X Y inf _ (Hwb.out.arg 0 (Nat.le_of_ble_eq_true rfl)) (Hwb.out.arg 2 (Nat.le_of_ble_eq_true rfl)) (Hwb.out.arg 3 (Nat.le_of_ble_eq_true rfl)) o1 hA).mono ?_
  rintro e wc ⟨rfl, hB⟩
  have Hwc : Hid (Lf w wc [(w.heap.size, [.slice x0 x1 x2, .slice y0 y1 y2, .bool inf])] [(.slice a0 a1 a2, A), (.slice d0 d1 d2, B), (.slice x0 x1 x2, X), (.slice y0 y1 y2, Y)] []) := (Hwb.out.below hB)
  clear hB
  have HB1 : Hid (Lf w (wc.alloc (.cells #[.slice none 0 0, .slice none 0 0, .bool false] 26)) [(wc.heap.size, [.slice none 0 0, .slice none 0 0, .bool false]), (w.heap.size, [.slice x0 x1 x2, .slice y0 y1 y2, .bool inf])] [(.slice a0 a1 a2, A), (.slice d0 d1 d2, B), (.slice x0 x1 x2, X), (.slice y0 y1 y2, Y)] []) := Hwc.out.box [.slice none 0 0, .slice none 0 0, .bool false]
  have k0_0 : (wc.alloc (.cells #[.slice none 0 0, .slice none 0 0, .bool false] 26)).cell? ⟨w.heap.size, 0, none⟩ = some (.slice x0 x1 x2) := HB1.out.cell 1 0 (Nat.le_of_ble_eq_true rfl) (Nat.le_of_ble_eq_true rfl)
  have k0_1 : (wc.alloc (.cells #[.slice none 0 0, .slice none 0 0, .bool false] 26)).cell? ⟨w.heap.size, 1, none⟩ = some (.slice y0 y1 y2) := HB1.out.cell 1 1 (Nat.le_of_ble_eq_true rfl) (Nat.le_of_ble_eq_true rfl)
  have k0_2 : (wc.alloc (.cells #[.slice none 0 0, .slice none 0 0, .bool false] 26)).cell? ⟨w.heap.size, 2, none⟩ = some (.bool inf) := HB1.out.cell 1 2 (Nat.le_of_ble_eq_true rfl) (Nat.le_of_ble_eq_true rfl)
  go_wp2_with fail
  clear k0_0 k0_1 k0_2
  generalize (wc.alloc (.cells #[.slice none 0 0, .slice none 0 0, .bool false] 26)) = wv5 at *
  refine (mul_large hk _ _ _ B X Y inf _ (HB1.out.arg 1 (Nat.le_of_ble_eq_true rfl)) (HB1.out.arg 2 (Nat.le_of_ble_eq_true rfl)) (HB1.out.arg 3 (Nat.le_of_ble_eq_true rfl)) o1 hBl).mono ?_
  rintro e wd ⟨rfl, hB⟩
  have Hwd : Hid (Lf w wd [(wc.heap.size, [.slice none 0 0, .slice none 0 0, .bool false]), (w.heap.size, [.slice x0 x1 x2, .slice y0 y1 y2, .bool inf])] [(.slice a0 a1 a2, A), (.slice d0 d1 d2, B), (.slice x0 x1 x2, X), (.slice y0 y1 y2, Y)] []) := (HB1.out.below hB)
  clear hB
  have HB2 : Hid (Lf w (wd.alloc (.cells #[.slice none 0 0, .slice none 0 0, .bool false] 26)) [(wd.heap.size, [.slice none 0 0, .slice none 0 0, .bool false]), (wc.heap.size, [.slice none 0 0, .slice none 0 0, .bool false]), (w.heap.size, [.slice x0 x1 x2, .slice y0 y1 y2, .bool inf])] [(.slice a0 a1 a2, A), (.slice d0 d1 d2, B), (.slice x0 x1 x2, X), (.slice y0 y1 y2, Y)] []) := Hwd.out.box [.slice none 0 0, .slice none 0 0, .bool false]
  go_wp2_with fail
  generalize (wd.alloc (.cells #[.slice none 0 0, .slice none 0 0, .bool false] 26)) = wv7 at *
  have CA := vbits _ A _ wv7 (HB2.out.arg 0 (Nat.le_of_ble_eq_true rfl)) (by decide)
  have CB := vbits _ B _ wv7 (HB2.out.arg 1 (Nat.le_of_ble_eq_true rfl)) (by decide)
  have zA : ∃ z : Int, z = ((bl A : Nat) : Int) := ⟨_, rfl⟩
  obtain ⟨zA, hzA⟩ := zA
  have zB : ∃ z : Int, z = ((bl B : Nat) : Int) := ⟨_, rfl⟩
  obtain ⟨zB, hzB⟩ := zB
  rw [← hzA] at CA
  rw [← hzB] at CB
  have gtA : decide (zA > 1024) = true := decide_eq_true (by omega)
  have glA : decide (1024 < zA) = true := decide_eq_true (by omega)
  have gpA : (1024 < zA) := by omega
  have gtB : decide (zB > 1024) = true := decide_eq_true (by omega)
  have glB : decide (1024 < zB) = true := decide_eq_true (by omega)
  have gpB : (1024 < zB) := by omega
  clear hzA hzB
  refine CA.mono ?_
  rintro e w_ ⟨rfl, rfl⟩
  clear CA
  go_wp2_with fail
  refine CB.mono ?_
  rintro e w_ ⟨rfl, rfl⟩
  clear CB
  have k0_0 : w_.cell? ⟨w.heap.size, 0, none⟩ = some (.slice x0 x1 x2) := HB2.out.cell 2 0 (Nat.le_of_ble_eq_true rfl) (Nat.le_of_ble_eq_true rfl)
  have k0_1 : w_.cell? ⟨w.heap.size, 1, none⟩ = some (.slice y0 y1 y2) := HB2.out.cell 2 1 (Nat.le_of_ble_eq_true rfl) (Nat.le_of_ble_eq_true rfl)
  have k0_2 : w_.cell? ⟨w.heap.size, 2, none⟩ = some (.bool inf) := HB2.out.cell 2 2 (Nat.le_of_ble_eq_true rfl) (Nat.le_of_ble_eq_true rfl)
  go_wp2_with fail
  clear k0_0 k0_1 k0_2
  refine (joint_large1 hk _ _ _ _ A B X Y inf _ (HB2.out.arg 0 (Nat.le_of_ble_eq_true rfl)) (HB2.out.arg 1 (Nat.le_of_ble_eq_true rfl)) (HB2.out.arg 2 (Nat.le_of_ble_eq_true rfl)) (HB2.out.arg 3 (Nat.le_of_ble_eq_true rfl)) o1 hA).mono ?_
  rintro e wj ⟨rfl, hB⟩
  have Hwj : Hid (Lf w wj [(wd.heap.size, [.slice none 0 0, .slice none 0 0, .bool false]), (wc.heap.size, [.slice none 0 0, .slice none 0 0, .bool false]), (w.heap.size, [.slice x0 x1 x2, .slice y0 y1 y2, .bool inf])] [(.slice a0 a1 a2, A), (.slice d0 d1 d2, B), (.slice x0 x1 x2, X), (.slice y0 y1 y2, Y)] []) := (HB2.out.below hB)
  clear hB
  have HB3 : Hid (Lf w (wj.alloc (.cells #[.slice none 0 0, .slice none 0 0, .bool false] 26)) [(wj.heap.size, [.slice none 0 0, .slice none 0 0, .bool false]), (wd.heap.size, [.slice none 0 0, .slice none 0 0, .bool false]), (wc.heap.size, [.slice none 0 0, .slice none 0 0, .bool false]), (w.heap.size, [.slice x0 x1 x2, .slice y0 y1 y2, .bool inf])] [(.slice a0 a1 a2, A), (.slice d0 d1 d2, B), (.slice x0 x1 x2, X), (.slice y0 y1 y2, Y)] []) := Hwj.out.box [.slice none 0 0, .slice none 0 0, .bool false]
  go_wp2
  go_ret
  exact ⟨rfl, HB3.out.bel⟩
set_option maxHeartbeats 40000000 in
theorem mult_l3 {c s' : Int} {p b n gx gy : Nat} (hk : Kv c p b n gx gy s') (a d x y : Value) (A B X Y : Nat) (inf : Bool) (w : World) (ha : Nu w a A) (hd : Nu w d B) (hx : Nu w x X) (hy : Nu w y Y) (o1 : onB p b X Y inf = true) (hA : ¬ 1024 < bl A) (hBl : 1024 < bl B) :
    Calls Tryd.prog 3 #[.int .i64 c, a, d, .agg #[x, y, .bool inf]] w fun e w' => e = .returned (.bool true) ∧ Below w.heap.size w w' := by
  obtain ⟨a0, a1, a2, rfl⟩ := ha.shape
  obtain ⟨d0, d1, d2, rfl⟩ := hd.shape
  obtain ⟨x0, x1, x2, rfl⟩ := hx.shape
  obtain ⟨y0, y1, y2, rfl⟩ := hy.shape
  have H0 : Hid (Lf w (w.alloc (.cells #[.slice x0 x1 x2, .slice y0 y1 y2, .bool inf] 26)) [(w.heap.size, [.slice x0 x1 x2, .slice y0 y1 y2, .bool inf])] [(.slice a0 a1 a2, A), (.slice d0 d1 d2, B), (.slice x0 x1 x2, X), (.slice y0 y1 y2, Y)] []) := Lf.of1 ((Fm.nil (w := w) (A := []) ar_nil).push (by simp) 26 [.slice x0 x1 x2, .slice y0 y1 y2, .bool inf]) (fun q hq => by simp only [List.mem_cons, List.not_mem_nil, or_false] at hq; rcases hq with rfl | rfl | rfl | rfl <;> assumption)
  clear ha hd hx hy
  go_enter Tryd.func3, Tryd.ntmps3
  go_wp2_with fail
  generalize (w.alloc (.cells #[.slice x0 x1 x2, .slice y0 y1 y2, .bool inf] 26)) = wv1 at *
  refine (started_v _).mono ?_
  rintro e wa ⟨rfl, hB⟩
  have Hwa : Hid (Lf w wa [(w.heap.size, [.slice x0 x1 x2, .slice y0 y1 y2, .bool inf])] [(.slice a0 a1 a2, A), (.slice d0 d1 d2, B), (.slice x0 x1 x2, X), (.slice y0 y1 y2, Y)] []) := (H0.out.below hB)
  clear hB
  have k0_0 : wa.cell? ⟨w.heap.size, 0, none⟩ = some (.slice x0 x1 x2) := Hwa.out.cell 0 0 (Nat.le_of_ble_eq_true rfl) (Nat.le_of_ble_eq_true rfl)
  have k0_1 : wa.cell? ⟨w.heap.size, 1, none⟩ = some (.slice y0 y1 y2) := Hwa.out.cell 0 1 (Nat.le_of_ble_eq_true rfl) (Nat.le_of_ble_eq_true rfl)
  have k0_2 : wa.cell? ⟨w.heap.size, 2, none⟩ = some (.bool inf) := Hwa.out.cell 0 2 (Nat.le_of_ble_eq_true rfl) (Nat.le_of_ble_eq_true rfl)
  go_wp2_with fail
  clear k0_0 k0_1 k0_2
  have C := on_v hk _ _ X Y inf _ (Hwa.out.arg 2 (Nat.le_of_ble_eq_true rfl)) (Hwa.out.arg 3 (Nat.le_of_ble_eq_true rfl))
  rw [o1] at C
  refine C.mono ?_
  clear C
  rintro e wb ⟨rfl, hB⟩
  have Hwb : Hid (Lf w wb [(w.heap.size, [.slice x0 x1 x2, .slice y0 y1 y2, .bool inf])] [(.slice a0 a1 a2, A), (.slice d0 d1 d2, B), (.slice x0 x1 x2, X), (.slice y0 y1 y2, Y)] []) := (Hwa.out.below hB)
  clear hB
  have hpm := hk.pm
  have C0 := hk.cv
  have oP := ((onB_iff hpm).1 o1).1
  have HPM : Hid (Pm p) := hpm
  clear hpm
  have k0_0 : wb.cell? ⟨w.heap.size, 0, none⟩ = some (.slice x0 x1 x2) := Hwb.out.cell 0 0 (Nat.le_of_ble_eq_true rfl) (Nat.le_of_ble_eq_true rfl)
  have k0_1 : wb.cell? ⟨w.heap.size, 1, none⟩ = some (.slice y0 y1 y2) := Hwb.out.cell 0 1 (Nat.le_of_ble_eq_true rfl) (Nat.le_of_ble_eq_true rfl)
  have k0_2 : wb.cell? ⟨w.heap.size, 2, none⟩ = some (.bool inf) := Hwb.out.cell 0 2 (Nat.le_of_ble_eq_true rfl) (Nat.le_of_ble_eq_true rfl)
  go_wp2_with fail
  clear k0_0 k0_1 k0_2
  refine (mul_ok hk _ _ _ A X Y inf _ (Hwb.out.arg 0 (Nat.le_of_ble_eq_true rfl)) (Hwb.out.arg 2 (Nat.le_of_ble_eq_true rfl)) (Hwb.out.arg 3 (Nat.le_of_ble_eq_true rfl)) o1 hA).mono ?_
  rintro e wc ⟨r, rfl, hPa⟩
  have hB := hPa.bel
  obtain ⟨x1_0, y1_0, x1_1, x1_2, y1_1, y1_2, X1, Y1, f1, rfl, m1, m2, hpt, hz⟩ := hPa.open
  have E1 : Hid (ptO X1 Y1 f1 = ml p (A % n) (ptO X Y inf) ∧ (f1 = true → X1 = 0 ∧ Y1 = 0)) := ⟨hpt, hz⟩
  have Hwc : Hid (Lf w wc [(w.heap.size, [.slice x0 x1 x2, .slice y0 y1 y2, .bool inf])] [(.slice a0 a1 a2, A), (.slice d0 d1 d2, B), (.slice x0 x1 x2, X), (.slice y0 y1 y2, Y)] [(.slice y1_0 y1_1 y1_2, Y1), (.slice x1_0 x1_1 x1_2, X1)]) := (((Hwb.out.below hB).res m1).res m2)
  clear hB m1 m2 hpt hz
  have HB1 : Hid (Lf w (wc.alloc (.cells #[.slice x1_0 x1_1 x1_2, .slice y1_0 y1_1 y1_2, .bool f1] 26)) [(wc.heap.size, [.slice x1_0 x1_1 x1_2, .slice y1_0 y1_1 y1_2, .bool f1]), (w.heap.size, [.slice x0 x1 x2, .slice y0 y1 y2, .bool inf])] [(.slice a0 a1 a2, A), (.slice d0 d1 d2, B), (.slice x0 x1 x2, X), (.slice y0 y1 y2, Y)] [(.slice y1_0 y1_1 y1_2, Y1), (.slice x1_0 x1_1 x1_2, X1)]) := Hwc.out.box [.slice x1_0 x1_1 x1_2, .slice y1_0 y1_1 y1_2, .bool f1]
  have k0_0 : (wc.alloc (.cells #[.slice x1_0 x1_1 x1_2, .slice y1_0 y1_1 y1_2, .bool f1] 26)).cell? ⟨w.heap.size, 0, none⟩ = some (.slice x0 x1 x2) := HB1.out.cell 1 0 (Nat.le_of_ble_eq_true rfl) (Nat.le_of_ble_eq_true rfl)
  have k0_1 : (wc.alloc (.cells #[.slice x1_0 x1_1 x1_2, .slice y1_0 y1_1 y1_2, .bool f1] 26)).cell? ⟨w.heap.size, 1, none⟩ = some (.slice y0 y1 y2) := HB1.out.cell 1 1 (Nat.le_of_ble_eq_true rfl) (Nat.le_of_ble_eq_true rfl)
  have k0_2 : (wc.alloc (.cells #[.slice x1_0 x1_1 x1_2, .slice y1_0 y1_1 y1_2, .bool f1] 26)).cell? ⟨w.heap.size, 2, none⟩ = some (.bool inf) := HB1.out.cell 1 2 (Nat.le_of_ble_eq_true rfl) (Nat.le_of_ble_eq_true rfl)
  go_wp2_with fail
  clear k0_0 k0_1 k0_2
  generalize (wc.alloc (.cells #[.slice x1_0 x1_1 x1_2, .slice y1_0 y1_1 y1_2, .bool f1] 26)) = wv5 at *
  refine (mul_large hk _ _ _ B X Y inf _ (HB1.out.arg 1 (Nat.le_of_ble_eq_true rfl)) (HB1.out.arg 2 (Nat.le_of_ble_eq_true rfl)) (HB1.out.arg 3 (Nat.le_of_ble_eq_true rfl)) o1 hBl).mono ?_
  rintro e wd ⟨rfl, hB⟩
  have Hwd : Hid (Lf w wd [(wc.heap.size, [.slice x1_0 x1_1 x1_2, .slice y1_0 y1_1 y1_2, .bool f1]), (w.heap.size, [.slice x0 x1 x2, .slice y0 y1 y2, .bool inf])] [(.slice a0 a1 a2, A), (.slice d0 d1 d2, B), (.slice x0 x1 x2, X), (.slice y0 y1 y2, Y)] [(.slice y1_0 y1_1 y1_2, Y1), (.slice x1_0 x1_1 x1_2, X1)]) := (HB1.out.below hB)
  clear hB
  have HB2 : Hid (Lf w (wd.alloc (.cells #[.slice none 0 0, .slice none 0 0, .bool false] 26)) [(wd.heap.size, [.slice none 0 0, .slice none 0 0, .bool false]), (wc.heap.size, [.slice x1_0 x1_1 x1_2, .slice y1_0 y1_1 y1_2, .bool f1]), (w.heap.size, [.slice x0 x1 x2, .slice y0 y1 y2, .bool inf])] [(.slice a0 a1 a2, A), (.slice d0 d1 d2, B), (.slice x0 x1 x2, X), (.slice y0 y1 y2, Y)] [(.slice y1_0 y1_1 y1_2, Y1), (.slice x1_0 x1_1 x1_2, X1)]) := Hwd.out.box [.slice none 0 0, .slice none 0 0, .bool false]
  go_wp2_with fail
  generalize (wd.alloc (.cells #[.slice none 0 0, .slice none 0 0, .bool false] 26)) = wv7 at *
  have CA := vbits _ A _ wv7 (HB2.out.arg 0 (Nat.le_of_ble_eq_true rfl)) (by decide)
  have CB := vbits _ B _ wv7 (HB2.out.arg 1 (Nat.le_of_ble_eq_true rfl)) (by decide)
  have zA : ∃ z : Int, z = ((bl A : Nat) : Int) := ⟨_, rfl⟩
  obtain ⟨zA, hzA⟩ := zA
  have zB : ∃ z : Int, z = ((bl B : Nat) : Int) := ⟨_, rfl⟩
  obtain ⟨zB, hzB⟩ := zB
  rw [← hzA] at CA
  rw [← hzB] at CB
  have gtA : decide (zA > 1024) = false := decide_eq_false (by omega)
  have glA : decide (1024 < zA) = false := decide_eq_false (by omega)
  have gpA : ¬ (1024 < zA) := by omega
  have gtB : decide (zB > 1024) = true := decide_eq_true (by omega)
  have glB : decide (1024 < zB) = true := decide_eq_true (by omega)
  have gpB : (1024 < zB) := by omega
  clear hzA hzB
  refine CA.mono ?_
  rintro e w_ ⟨rfl, rfl⟩
  clear CA
  go_wp2_with fail
  refine CB.mono ?_
  rintro e w_ ⟨rfl, rfl⟩
  clear CB
  have k0_0 : w_.cell? ⟨w.heap.size, 0, none⟩ = some (.slice x0 x1 x2) := HB2.out.cell 2 0 (Nat.le_of_ble_eq_true rfl) (Nat.le_of_ble_eq_true rfl)
  have k0_1 : w_.cell? ⟨w.heap.size, 1, none⟩ = some (.slice y0 y1 y2) := HB2.out.cell 2 1 (Nat.le_of_ble_eq_true rfl) (Nat.le_of_ble_eq_true rfl)
  have k0_2 : w_.cell? ⟨w.heap.size, 2, none⟩ = some (.bool inf) := HB2.out.cell 2 2 (Nat.le_of_ble_eq_true rfl) (Nat.le_of_ble_eq_true rfl)
  go_wp2_with fail
  clear k0_0 k0_1 k0_2
  refine (joint_large2 hk _ _ _ _ A B X Y inf _ (HB2.out.arg 0 (Nat.le_of_ble_eq_true rfl)) (HB2.out.arg 1 (Nat.le_of_ble_eq_true rfl)) (HB2.out.arg 2 (Nat.le_of_ble_eq_true rfl)) (HB2.out.arg 3 (Nat.le_of_ble_eq_true rfl)) o1 hA hBl).mono ?_
  rintro e wj ⟨rfl, hB⟩
  have Hwj : Hid (Lf w wj [(wd.heap.size, [.slice none 0 0, .slice none 0 0, .bool false]), (wc.heap.size, [.slice x1_0 x1_1 x1_2, .slice y1_0 y1_1 y1_2, .bool f1]), (w.heap.size, [.slice x0 x1 x2, .slice y0 y1 y2, .bool inf])] [(.slice a0 a1 a2, A), (.slice d0 d1 d2, B), (.slice x0 x1 x2, X), (.slice y0 y1 y2, Y)] [(.slice y1_0 y1_1 y1_2, Y1), (.slice x1_0 x1_1 x1_2, X1)]) := (HB2.out.below hB)
  clear hB
  have HB3 : Hid (Lf w (wj.alloc (.cells #[.slice none 0 0, .slice none 0 0, .bool false] 26)) [(wj.heap.size, [.slice none 0 0, .slice none 0 0, .bool false]), (wd.heap.size, [.slice none 0 0, .slice none 0 0, .bool false]), (wc.heap.size, [.slice x1_0 x1_1 x1_2, .slice y1_0 y1_1 y1_2, .bool f1]), (w.heap.size, [.slice x0 x1 x2, .slice y0 y1 y2, .bool inf])] [(.slice a0 a1 a2, A), (.slice d0 d1 d2, B), (.slice x0 x1 x2, X), (.slice y0 y1 y2, Y)] [(.slice y1_0 y1_1 y1_2, Y1), (.slice x1_0 x1_1 x1_2, X1)]) := Hwj.out.box [.slice none 0 0, .slice none 0 0, .bool false]
  go_wp2
  go_ret
  exact ⟨rfl, HB3.out.bel⟩
set_option maxHeartbeats 40000000 in
theorem mult_ok {c s' : Int} {p b n gx gy : Nat} (hk : Kv c p b n gx gy s') (a d x y : Value) (A B X Y : Nat) (inf : Bool) (w : World) (ha : Nu w a A) (hd : Nu w d B) (hx : Nu w x X) (hy : Nu w y Y) (o1 : onB p b X Y inf = true) (hA : ¬ 1024 < bl A) (hBl : ¬ 1024 < bl B) (hAB : ¬ 1024 < bl (A + B)) :
    Calls Tryd.prog 3 #[.int .i64 c, a, d, .agg #[x, y, .bool inf]] w fun e w' => e = .returned (.bool true) ∧ Below w.heap.size w w' := by
  obtain ⟨a0, a1, a2, rfl⟩ := ha.shape
  obtain ⟨d0, d1, d2, rfl⟩ := hd.shape
  obtain ⟨x0, x1, x2, rfl⟩ := hx.shape
  obtain ⟨y0, y1, y2, rfl⟩ := hy.shape
  have H0 : Hid (Lf w (w.alloc (.cells #[.slice x0 x1 x2, .slice y0 y1 y2, .bool inf] 26)) [(w.heap.size, [.slice x0 x1 x2, .slice y0 y1 y2, .bool inf])] [(.slice a0 a1 a2, A), (.slice d0 d1 d2, B), (.slice x0 x1 x2, X), (.slice y0 y1 y2, Y)] []) := Lf.of1 ((Fm.nil (w := w) (A := []) ar_nil).push (by simp) 26 [.slice x0 x1 x2, .slice y0 y1 y2, .bool inf]) (fun q hq => by simp only [List.mem_cons, List.not_mem_nil, or_false] at hq; rcases hq with rfl | rfl | rfl | rfl <;> assumption)
  clear ha hd hx hy
  go_enter Tryd.func3, Tryd.ntmps3
  go_wp2_with fail
  generalize (w.alloc (.cells #[.slice x0 x1 x2, .slice y0 y1 y2, .bool inf] 26)) = wv1 at *
  refine (started_v _).mono ?_
  rintro e wa ⟨rfl, hB⟩
  have Hwa : Hid (Lf w wa [(w.heap.size, [.slice x0 x1 x2, .slice y0 y1 y2, .bool inf])] [(.slice a0 a1 a2, A), (.slice d0 d1 d2, B), (.slice x0 x1 x2, X), (.slice y0 y1 y2, Y)] []) := (H0.out.below hB)
  clear hB
  have k0_0 : wa.cell? ⟨w.heap.size, 0, none⟩ = some (.slice x0 x1 x2) := Hwa.out.cell 0 0 (Nat.le_of_ble_eq_true rfl) (Nat.le_of_ble_eq_true rfl)
  have k0_1 : wa.cell? ⟨w.heap.size, 1, none⟩ = some (.slice y0 y1 y2) := Hwa.out.cell 0 1 (Nat.le_of_ble_eq_true rfl) (Nat.le_of_ble_eq_true rfl)
  have k0_2 : wa.cell? ⟨w.heap.size, 2, none⟩ = some (.bool inf) := Hwa.out.cell 0 2 (Nat.le_of_ble_eq_true rfl) (Nat.le_of_ble_eq_true rfl)
  go_wp2_with fail
  clear k0_0 k0_1 k0_2
  have C := on_v hk _ _ X Y inf _ (Hwa.out.arg 2 (Nat.le_of_ble_eq_true rfl)) (Hwa.out.arg 3 (Nat.le_of_ble_eq_true rfl))
  rw [o1] at C
  refine C.mono ?_
  clear C
  rintro e wb ⟨rfl, hB⟩
  have Hwb : Hid (Lf w wb [(w.heap.size, [.slice x0 x1 x2, .slice y0 y1 y2, .bool inf])] [(.slice a0 a1 a2, A), (.slice d0 d1 d2, B), (.slice x0 x1 x2, X), (.slice y0 y1 y2, Y)] []) := (Hwa.out.below hB)
  clear hB
  have hpm := hk.pm
  have C0 := hk.cv
  have oP := ((onB_iff hpm).1 o1).1
  have HPM : Hid (Pm p) := hpm
  clear hpm
  have k0_0 : wb.cell? ⟨w.heap.size, 0, none⟩ = some (.slice x0 x1 x2) := Hwb.out.cell 0 0 (Nat.le_of_ble_eq_true rfl) (Nat.le_of_ble_eq_true rfl)
  have k0_1 : wb.cell? ⟨w.heap.size, 1, none⟩ = some (.slice y0 y1 y2) := Hwb.out.cell 0 1 (Nat.le_of_ble_eq_true rfl) (Nat.le_of_ble_eq_true rfl)
  have k0_2 : wb.cell? ⟨w.heap.size, 2, none⟩ = some (.bool inf) := Hwb.out.cell 0 2 (Nat.le_of_ble_eq_true rfl) (Nat.le_of_ble_eq_true rfl)
  go_wp2_with fail
  clear k0_0 k0_1 k0_2
  refine (mul_ok hk _ _ _ A X Y inf _ (Hwb.out.arg 0 (Nat.le_of_ble_eq_true rfl)) (Hwb.out.arg 2 (Nat.le_of_ble_eq_true rfl)) (Hwb.out.arg 3 (Nat.le_of_ble_eq_true rfl)) o1 hA).mono ?_
  rintro e wc ⟨r, rfl, hPa⟩
  have hB := hPa.bel
  obtain ⟨x1_0, y1_0, x1_1, x1_2, y1_1, y1_2, X1, Y1, f1, rfl, m1, m2, hpt, hz⟩ := hPa.open
  have E1 : Hid (ptO X1 Y1 f1 = ml p (A % n) (ptO X Y inf) ∧ (f1 = true → X1 = 0 ∧ Y1 = 0)) := ⟨hpt, hz⟩
  have Hwc : Hid (Lf w wc [(w.heap.size, [.slice x0 x1 x2, .slice y0 y1 y2, .bool inf])] [(.slice a0 a1 a2, A), (.slice d0 d1 d2, B), (.slice x0 x1 x2, X), (.slice y0 y1 y2, Y)] [(.slice y1_0 y1_1 y1_2, Y1), (.slice x1_0 x1_1 x1_2, X1)]) := (((Hwb.out.below hB).res m1).res m2)
  clear hB m1 m2 hpt hz
  have HB1 : Hid (Lf w (wc.alloc (.cells #[.slice x1_0 x1_1 x1_2, .slice y1_0 y1_1 y1_2, .bool f1] 26)) [(wc.heap.size, [.slice x1_0 x1_1 x1_2, .slice y1_0 y1_1 y1_2, .bool f1]), (w.heap.size, [.slice x0 x1 x2, .slice y0 y1 y2, .bool inf])] [(.slice a0 a1 a2, A), (.slice d0 d1 d2, B), (.slice x0 x1 x2, X), (.slice y0 y1 y2, Y)] [(.slice y1_0 y1_1 y1_2, Y1), (.slice x1_0 x1_1 x1_2, X1)]) := Hwc.out.box [.slice x1_0 x1_1 x1_2, .slice y1_0 y1_1 y1_2, .bool f1]
  have k0_0 : (wc.alloc (.cells #[.slice x1_0 x1_1 x1_2, .slice y1_0 y1_1 y1_2, .bool f1] 26)).cell? ⟨w.heap.size, 0, none⟩ = some (.slice x0 x1 x2) := HB1.out.cell 1 0 (Nat.le_of_ble_eq_true rfl) (Nat.le_of_ble_eq_true rfl)
  have k0_1 : (wc.alloc (.cells #[.slice x1_0 x1_1 x1_2, .slice y1_0 y1_1 y1_2, .bool f1] 26)).cell? ⟨w.heap.size, 1, none⟩ = some (.slice y0 y1 y2) := HB1.out.cell 1 1 (Nat.le_of_ble_eq_true rfl) (Nat.le_of_ble_eq_true rfl)
  have k0_2 : (wc.alloc (.cells #[.slice x1_0 x1_1 x1_2, .slice y1_0 y1_1 y1_2, .bool f1] 26)).cell? ⟨w.heap.size, 2, none⟩ = some (.bool inf) := HB1.out.cell 1 2 (Nat.le_of_ble_eq_true rfl) (Nat.le_of_ble_eq_true rfl)
  go_wp2_with fail
  clear k0_0 k0_1 k0_2
  generalize (wc.alloc (.cells #[.slice x1_0 x1_1 x1_2, .slice y1_0 y1_1 y1_2, .bool f1] 26)) = wv5 at *
  refine (mul_ok hk _ _ _ B X Y inf _ (HB1.out.arg 1 (Nat.le_of_ble_eq_true rfl)) (HB1.out.arg 2 (Nat.le_of_ble_eq_true rfl)) (HB1.out.arg 3 (Nat.le_of_ble_eq_true rfl)) o1 hBl).mono ?_
  rintro e wd ⟨r, rfl, hPa⟩
  have hB := hPa.bel
  obtain ⟨x2_0, y2_0, x2_1, x2_2, y2_1, y2_2, X2, Y2, f2, rfl, m1, m2, hpt, hz⟩ := hPa.open
  have E2 : Hid (ptO X2 Y2 f2 = ml p (B % n) (ptO X Y inf) ∧ (f2 = true → X2 = 0 ∧ Y2 = 0)) := ⟨hpt, hz⟩
  have Hwd : Hid (Lf w wd [(wc.heap.size, [.slice x1_0 x1_1 x1_2, .slice y1_0 y1_1 y1_2, .bool f1]), (w.heap.size, [.slice x0 x1 x2, .slice y0 y1 y2, .bool inf])] [(.slice a0 a1 a2, A), (.slice d0 d1 d2, B), (.slice x0 x1 x2, X), (.slice y0 y1 y2, Y)] [(.slice y2_0 y2_1 y2_2, Y2), (.slice x2_0 x2_1 x2_2, X2), (.slice y1_0 y1_1 y1_2, Y1), (.slice x1_0 x1_1 x1_2, X1)]) := (((HB1.out.below hB).res m1).res m2)
  clear hB m1 m2 hpt hz
  have HB2 : Hid (Lf w (wd.alloc (.cells #[.slice x2_0 x2_1 x2_2, .slice y2_0 y2_1 y2_2, .bool f2] 26)) [(wd.heap.size, [.slice x2_0 x2_1 x2_2, .slice y2_0 y2_1 y2_2, .bool f2]), (wc.heap.size, [.slice x1_0 x1_1 x1_2, .slice y1_0 y1_1 y1_2, .bool f1]), (w.heap.size, [.slice x0 x1 x2, .slice y0 y1 y2, .bool inf])] [(.slice a0 a1 a2, A), (.slice d0 d1 d2, B), (.slice x0 x1 x2, X), (.slice y0 y1 y2, Y)] [(.slice y2_0 y2_1 y2_2, Y2), (.slice x2_0 x2_1 x2_2, X2), (.slice y1_0 y1_1 y1_2, Y1), (.slice x1_0 x1_1 x1_2, X1)]) := Hwd.out.box [.slice x2_0 x2_1 x2_2, .slice y2_0 y2_1 y2_2, .bool f2]
  go_wp2_with fail
  generalize (wd.alloc (.cells #[.slice x2_0 x2_1 x2_2, .slice y2_0 y2_1 y2_2, .bool f2] 26)) = wv7 at *
  have CA := vbits _ A _ wv7 (HB2.out.arg 0 (Nat.le_of_ble_eq_true rfl)) (by decide)
  have CB := vbits _ B _ wv7 (HB2.out.arg 1 (Nat.le_of_ble_eq_true rfl)) (by decide)
  have zA : ∃ z : Int, z = ((bl A : Nat) : Int) := ⟨_, rfl⟩
  obtain ⟨zA, hzA⟩ := zA
  have zB : ∃ z : Int, z = ((bl B : Nat) : Int) := ⟨_, rfl⟩
  obtain ⟨zB, hzB⟩ := zB
  rw [← hzA] at CA
  rw [← hzB] at CB
  have gtA : decide (zA > 1024) = false := decide_eq_false (by omega)
  have glA : decide (1024 < zA) = false := decide_eq_false (by omega)
  have gpA : ¬ (1024 < zA) := by omega
  have gtB : decide (zB > 1024) = false := decide_eq_false (by omega)
  have glB : decide (1024 < zB) = false := decide_eq_false (by omega)
  have gpB : ¬ (1024 < zB) := by omega
  clear hzA hzB
  refine CA.mono ?_
  rintro e w_ ⟨rfl, rfl⟩
  clear CA
  go_wp2_with fail
  refine CB.mono ?_
  rintro e w_ ⟨rfl, rfl⟩
  clear CB
  have k1_0 : w_.cell? ⟨wc.heap.size, 0, none⟩ = some (.slice x1_0 x1_1 x1_2) := HB2.out.cell 1 0 (Nat.le_of_ble_eq_true rfl) (Nat.le_of_ble_eq_true rfl)
  have k1_1 : w_.cell? ⟨wc.heap.size, 1, none⟩ = some (.slice y1_0 y1_1 y1_2) := HB2.out.cell 1 1 (Nat.le_of_ble_eq_true rfl) (Nat.le_of_ble_eq_true rfl)
  have k1_2 : w_.cell? ⟨wc.heap.size, 2, none⟩ = some (.bool f1) := HB2.out.cell 1 2 (Nat.le_of_ble_eq_true rfl) (Nat.le_of_ble_eq_true rfl)
  have k2_0 : w_.cell? ⟨wd.heap.size, 0, none⟩ = some (.slice x2_0 x2_1 x2_2) := HB2.out.cell 0 0 (Nat.le_of_ble_eq_true rfl) (Nat.le_of_ble_eq_true rfl)
  have k2_1 : w_.cell? ⟨wd.heap.size, 1, none⟩ = some (.slice y2_0 y2_1 y2_2) := HB2.out.cell 0 1 (Nat.le_of_ble_eq_true rfl) (Nat.le_of_ble_eq_true rfl)
  have k2_2 : w_.cell? ⟨wd.heap.size, 2, none⟩ = some (.bool f2) := HB2.out.cell 0 2 (Nat.le_of_ble_eq_true rfl) (Nat.le_of_ble_eq_true rfl)
  go_wp2_with fail
  clear k1_0 k1_1 k1_2 k2_0 k2_1 k2_2
  refine (add_ok hk _ _ _ _ X1 Y1 X2 Y2 f1 f2 _ (HB2.out.got 3 (Nat.le_of_ble_eq_true rfl)).nk.1 (HB2.out.got 2 (Nat.le_of_ble_eq_true rfl)).nk.1 (HB2.out.got 1 (Nat.le_of_ble_eq_true rfl)).nk.1 (HB2.out.got 0 (Nat.le_of_ble_eq_true rfl)).nk.1 (onB_of HPM.out E1.out (C0.mon oP _)) (onB_of HPM.out E2.out (C0.mon oP _))).mono ?_
  rintro e we ⟨r, rfl, hPa⟩
  rw [E1.out.1, E2.out.1] at hPa
  have hB := hPa.bel
  obtain ⟨x3_0, y3_0, x3_1, x3_2, y3_1, y3_2, X3, Y3, f3, rfl, m1, m2, hpt, hz⟩ := hPa.open
  have E3 : Hid (ptO X3 Y3 f3 = sm p (ml p (A % n) (ptO X Y inf)) (ml p (B % n) (ptO X Y inf)) ∧ (f3 = true → X3 = 0 ∧ Y3 = 0)) := ⟨hpt, hz⟩
  have Hwe : Hid (Lf w we [(wd.heap.size, [.slice x2_0 x2_1 x2_2, .slice y2_0 y2_1 y2_2, .bool f2]), (wc.heap.size, [.slice x1_0 x1_1 x1_2, .slice y1_0 y1_1 y1_2, .bool f1]), (w.heap.size, [.slice x0 x1 x2, .slice y0 y1 y2, .bool inf])] [(.slice a0 a1 a2, A), (.slice d0 d1 d2, B), (.slice x0 x1 x2, X), (.slice y0 y1 y2, Y)] [(.slice y3_0 y3_1 y3_2, Y3), (.slice x3_0 x3_1 x3_2, X3), (.slice y2_0 y2_1 y2_2, Y2), (.slice x2_0 x2_1 x2_2, X2), (.slice y1_0 y1_1 y1_2, Y1), (.slice x1_0 x1_1 x1_2, X1)]) := (((HB2.out.below hB).res m1).res m2)
  clear hB m1 m2 hpt hz
  have HB3 : Hid (Lf w (we.alloc (.cells #[.slice x3_0 x3_1 x3_2, .slice y3_0 y3_1 y3_2, .bool f3] 26)) [(we.heap.size, [.slice x3_0 x3_1 x3_2, .slice y3_0 y3_1 y3_2, .bool f3]), (wd.heap.size, [.slice x2_0 x2_1 x2_2, .slice y2_0 y2_1 y2_2, .bool f2]), (wc.heap.size, [.slice x1_0 x1_1 x1_2, .slice y1_0 y1_1 y1_2, .bool f1]), (w.heap.size, [.slice x0 x1 x2, .slice y0 y1 y2, .bool inf])] [(.slice a0 a1 a2, A), (.slice d0 d1 d2, B), (.slice x0 x1 x2, X), (.slice y0 y1 y2, Y)] [(.slice y3_0 y3_1 y3_2, Y3), (.slice x3_0 x3_1 x3_2, X3), (.slice y2_0 y2_1 y2_2, Y2), (.slice x2_0 x2_1 x2_2, X2), (.slice y1_0 y1_1 y1_2, Y1), (.slice x1_0 x1_1 x1_2, X1)]) := Hwe.out.box [.slice x3_0 x3_1 x3_2, .slice y3_0 y3_1 y3_2, .bool f3]
  have HLS : Hid ((dg Bs (A + B)).length ≤ 3000000) := sum_len hA hBl
  go_upto_region 16 with fail
  generalize (we.alloc (.cells #[.slice x3_0 x3_1 x3_2, .slice y3_0 y3_1 y3_2, .bool f3] 26)) = wv9 at *
  go_cut [22, 23] from 117 to 125 (fun s1 s2 wx => ∃ (w' : World) (g : Nat) (x4_0 y4_0 : Option Addr) (x4_1 x4_2 y4_1 y4_2 X4 Y4 : Nat) (f4 : Bool), w' = wx ∧ s1 = .pointer (some ⟨g, 0, none⟩) ∧ s2 = .int .i64 0 ∧ Hid (ptO X4 Y4 f4 = sm p (ml p (A % n) (ptO X Y inf)) (ml p (B % n) (ptO X Y inf)) ∧ (f4 = true → X4 = 0 ∧ Y4 = 0)) ∧ Hid (Lf w w' [(g, [.slice x4_0 x4_1 x4_2, .slice y4_0 y4_1 y4_2, .bool f4]), (we.heap.size, [.slice x3_0 x3_1 x3_2, .slice y3_0 y3_1 y3_2, .bool f3]), (wd.heap.size, [.slice x2_0 x2_1 x2_2, .slice y2_0 y2_1 y2_2, .bool f2]), (wc.heap.size, [.slice x1_0 x1_1 x1_2, .slice y1_0 y1_1 y1_2, .bool f1]), (w.heap.size, [.slice x0 x1 x2, .slice y0 y1 y2, .bool inf])] [(.slice a0 a1 a2, A), (.slice d0 d1 d2, B), (.slice x0 x1 x2, X), (.slice y0 y1 y2, Y)] [(.slice y4_0 y4_1 y4_2, Y4), (.slice x4_0 x4_1 x4_2, X4), (.slice y3_0 y3_1 y3_2, Y3), (.slice x3_0 x3_1 x3_2, X3), (.slice y2_0 y2_1 y2_2, Y2), (.slice x2_0 x2_1 x2_2, X2), (.slice y1_0 y1_1 y1_2, Y1), (.slice x1_0 x1_1 x1_2, X1)]))
  case first =>
    have HD : Hid (Lf w wv9.drew [(we.heap.size, [.slice x3_0 x3_1 x3_2, .slice y3_0 y3_1 y3_2, .bool f3]), (wd.heap.size, [.slice x2_0 x2_1 x2_2, .slice y2_0 y2_1 y2_2, .bool f2]), (wc.heap.size, [.slice x1_0 x1_1 x1_2, .slice y1_0 y1_1 y1_2, .bool f1]), (w.heap.size, [.slice x0 x1 x2, .slice y0 y1 y2, .bool inf])] [(.slice a0 a1 a2, A), (.slice d0 d1 d2, B), (.slice x0 x1 x2, X), (.slice y0 y1 y2, Y)] [(.slice y3_0 y3_1 y3_2, Y3), (.slice x3_0 x3_1 x3_2, X3), (.slice y2_0 y2_1 y2_2, Y2), (.slice x2_0 x2_1 x2_2, X2), (.slice y1_0 y1_1 y1_2, Y1), (.slice x1_0 x1_1 x1_2, X1)]) := HB3.out.drew
    have HBd : Hid (Below wv9.drew.heap.size wv9.drew wv9.drew) := Below.refl _ _
    refine wp_region_K 5 (fun (w' : World) => w'.cell? ⟨w.heap.size, 0, none⟩ = some (.slice x0 x1 x2) ∧ w'.cell? ⟨w.heap.size, 1, none⟩ = some (.slice y0 y1 y2) ∧ w'.cell? ⟨w.heap.size, 2, none⟩ = some (.bool inf)) (by kernel_rfl) ?_
    have hHeld : ((fun (w' : World) => w'.cell? ⟨w.heap.size, 0, none⟩ = some (.slice x0 x1 x2) ∧ w'.cell? ⟨w.heap.size, 1, none⟩ = some (.slice y0 y1 y2) ∧ w'.cell? ⟨w.heap.size, 2, none⟩ = some (.bool inf))) (World.drew _) := ⟨HD.out.cell 3 0 (Nat.le_of_ble_eq_true rfl) (Nat.le_of_ble_eq_true rfl), HD.out.cell 3 1 (Nat.le_of_ble_eq_true rfl) (Nat.le_of_ble_eq_true rfl), HD.out.cell 3 2 (Nat.le_of_ble_eq_true rfl) (Nat.le_of_ble_eq_true rfl)⟩
    refine wpAnyK_take0 0 (v := ?v1) rfl (by kernel_rfl) (fun _ _ _ h => h) (Or.inl ⟨by rfl, ?hy1⟩) (fun _ => hHeld) ?_
    case hy1 => (intro w hSw; go_simp; try with_reducible rfl)
    try simp only [Act.put, List.setIfInBounds_toArray, List.set_cons_zero, List.set_cons_succ]
    refine wpAnyK_take0 1 (v := ?v2) rfl (by kernel_rfl) (fun _ _ _ h => h) (Or.inl ⟨by rfl, ?hy2⟩) (fun _ => hHeld) ?_
    case hy2 => (intro w hSw; go_simp; try with_reducible rfl)
    try simp only [Act.put, List.setIfInBounds_toArray, List.set_cons_zero, List.set_cons_succ]
    refine wpAnyK_take0 2 (v := ?v3) rfl (by kernel_rfl) (fun _ _ _ h => h) (Or.inl ⟨by rfl, ?hy3⟩) (fun _ => hHeld) ?_
    case hy3 => (intro w hSw; go_simp; try with_reducible rfl)
    try simp only [Act.put, List.setIfInBounds_toArray, List.set_cons_zero, List.set_cons_succ]
    refine wpAnyK_take 4 [5] (v := ?v4) rfl (by kernel_rfl) (fun _ _ _ h => h) (Or.inl ⟨by rfl, ?hy4⟩) hHeld ?_
    case hy4 => (intro w hSw; (try dsimp only at hSw); go_simp; try with_reducible rfl)
    try simp only [Act.put, List.setIfInBounds_toArray, List.set_cons_zero, List.set_cons_succ]
    refine wpAnyK_two 3 9 rfl rfl (by kernel_rfl) (fun K hK => ?_) (fun K hK => ?_)
    · go_simp
      refine (vadd _ _ A B _ _ _ ((HD.out.below HBd.out).arg 0 (Nat.le_of_ble_eq_true rfl)) ((HD.out.below HBd.out).arg 1 (Nat.le_of_ble_eq_true rfl)) (by decide) (by decide)).mono ?_
      rintro e wfa ⟨rS, rfl, hN⟩
      have hBp := hN.2.2
      have HSa : Hid (Nu wfa rS (A + B)) := New.nu' HLS.out hN
      clear hN
      have HBa1 : Hid (Below wv9.drew.heap.size wv9.drew wfa) := HBd.out.trans (hBp.mono HBd.out.size)
      clear hBp
      try dsimp only
      refine hK.out _ _ ?hk19 ?_
      case hk19 => exact fun _ => ⟨(HD.out.below HBa1.out).cell 3 0 (Nat.le_of_ble_eq_true rfl) (Nat.le_of_ble_eq_true rfl), (HD.out.below HBa1.out).cell 3 1 (Nat.le_of_ble_eq_true rfl) (Nat.le_of_ble_eq_true rfl), (HD.out.below HBa1.out).cell 3 2 (Nat.le_of_ble_eq_true rfl) (Nat.le_of_ble_eq_true rfl)⟩
      have hHeld : ((fun (w' : World) => w'.cell? ⟨w.heap.size, 0, none⟩ = some (.slice x0 x1 x2) ∧ w'.cell? ⟨w.heap.size, 1, none⟩ = some (.slice y0 y1 y2) ∧ w'.cell? ⟨w.heap.size, 2, none⟩ = some (.bool inf))) _ := ⟨(HD.out.below HBa1.out).cell 3 0 (Nat.le_of_ble_eq_true rfl) (Nat.le_of_ble_eq_true rfl), (HD.out.below HBa1.out).cell 3 1 (Nat.le_of_ble_eq_true rfl) (Nat.le_of_ble_eq_true rfl), (HD.out.below HBa1.out).cell 3 2 (Nat.le_of_ble_eq_true rfl) (Nat.le_of_ble_eq_true rfl)⟩
      clear hK K
      try simp only [Act.put, List.setIfInBounds_toArray, List.set_cons_zero, List.set_cons_succ]
      refine wpAnyK_two 5 9 rfl rfl (by kernel_rfl) (fun K hK => ?_) (fun K hK => ?_)
      · go_simp
        refine (mul_ok hk _ _ _ (A + B) X Y inf _ HSa.out ((HD.out.below HBa1.out).arg 2 (Nat.le_of_ble_eq_true rfl)) ((HD.out.below HBa1.out).arg 3 (Nat.le_of_ble_eq_true rfl)) o1 hAB).mono ?_
        rintro e wga ⟨r, rfl, hPa⟩
        rw [hk.mad oP] at hPa
        have hBp := hPa.bel
        obtain ⟨x4_0, y4_0, x4_1, x4_2, y4_1, y4_2, X4, Y4, f4, rfl, m1, m2, hpt, hz⟩ := hPa.open2
        have HMa : Hid (Mk wga wfa.heap.size (.slice x4_0 x4_1 x4_2) X4 384 ∧ Mk wga wfa.heap.size (.slice y4_0 y4_1 y4_2) Y4 384 ∧ (ptO X4 Y4 f4 = sm p (ml p (A % n) (ptO X Y inf)) (ml p (B % n) (ptO X Y inf)) ∧ (f4 = true → X4 = 0 ∧ Y4 = 0))) := ⟨m1, m2, hpt, hz⟩
        clear m1 m2 hpt hz hPa
        have HBa2 : Hid (Below wv9.drew.heap.size wv9.drew wga) := HBa1.out.trans (hBp.mono HBa1.out.size)
        clear hBp
        try dsimp only
        refine hK.out _ _ ?hk5 ?_
        case hk5 => exact fun _ => ⟨(HD.out.below HBa2.out).cell 3 0 (Nat.le_of_ble_eq_true rfl) (Nat.le_of_ble_eq_true rfl), (HD.out.below HBa2.out).cell 3 1 (Nat.le_of_ble_eq_true rfl) (Nat.le_of_ble_eq_true rfl), (HD.out.below HBa2.out).cell 3 2 (Nat.le_of_ble_eq_true rfl) (Nat.le_of_ble_eq_true rfl)⟩
        have hHeld : ((fun (w' : World) => w'.cell? ⟨w.heap.size, 0, none⟩ = some (.slice x0 x1 x2) ∧ w'.cell? ⟨w.heap.size, 1, none⟩ = some (.slice y0 y1 y2) ∧ w'.cell? ⟨w.heap.size, 2, none⟩ = some (.bool inf))) _ := ⟨(HD.out.below HBa2.out).cell 3 0 (Nat.le_of_ble_eq_true rfl) (Nat.le_of_ble_eq_true rfl), (HD.out.below HBa2.out).cell 3 1 (Nat.le_of_ble_eq_true rfl) (Nat.le_of_ble_eq_true rfl), (HD.out.below HBa2.out).cell 3 2 (Nat.le_of_ble_eq_true rfl) (Nat.le_of_ble_eq_true rfl)⟩
        clear hK K
        try simp only [Act.put, List.setIfInBounds_toArray, List.set_cons_zero, List.set_cons_succ]
        refine wpAnyK_take0 6 (v := ?v6) rfl (by kernel_rfl) (fun _ _ _ h => h) (Or.inl ⟨by rfl, ?hy6⟩) (fun _ => hHeld) ?_
        case hy6 => (intro w hSw; go_simp; try with_reducible rfl)
        try simp only [Act.put, List.setIfInBounds_toArray, List.set_cons_zero, List.set_cons_succ]
        refine wpAnyK_take0 7 (v := ?v7) rfl (by kernel_rfl) (fun _ _ _ h => h) (Or.inl ⟨by rfl, ?hy7⟩) (fun _ => hHeld) ?_
        case hy7 => (intro w hSw; go_simp; try with_reducible rfl)
        try simp only [Act.put, List.setIfInBounds_toArray, List.set_cons_zero, List.set_cons_succ]
        refine wpAnyK_take0 8 (v := ?v8) rfl (by kernel_rfl) (fun _ _ _ h => h) (Or.inl ⟨by rfl, ?hy8⟩) (fun _ => hHeld) ?_
        case hy8 => (intro w hSw; go_simp; try with_reducible rfl)
        try simp only [Act.put, List.setIfInBounds_toArray, List.set_cons_zero, List.set_cons_succ]
        refine wpAnyK_step 9 rfl (by kernel_rfl) (fun K hK => ?_)
        go_simp
        have hza : Below wga.heap.size wga (wga.alloc (.cells #[.slice none 0 0, .slice none 0 0, .bool false] 26)) := alloc_below _ _
        have HAa : Hid (Below wv9.drew.heap.size wv9.drew (wga.alloc (.cells #[.slice none 0 0, .slice none 0 0, .bool false] 26))) := HBa2.out.trans (hza.mono HBa2.out.size)
        have HZa : Hid (Bl 26 (wga.alloc (.cells #[.slice none 0 0, .slice none 0 0, .bool false] 26)) wga.heap.size [.slice none 0 0, .slice none 0 0, .bool false]) := alloc_bl wga [.slice none 0 0, .slice none 0 0, .bool false] 26
        try dsimp only
        refine hK.out _ _ ?hk9 ?_
        case hk9 => exact fun _ => ⟨(HD.out.below HAa.out).cell 3 0 (Nat.le_of_ble_eq_true rfl) (Nat.le_of_ble_eq_true rfl), (HD.out.below HAa.out).cell 3 1 (Nat.le_of_ble_eq_true rfl) (Nat.le_of_ble_eq_true rfl), (HD.out.below HAa.out).cell 3 2 (Nat.le_of_ble_eq_true rfl) (Nat.le_of_ble_eq_true rfl)⟩
        have hHeld : ((fun (w' : World) => w'.cell? ⟨w.heap.size, 0, none⟩ = some (.slice x0 x1 x2) ∧ w'.cell? ⟨w.heap.size, 1, none⟩ = some (.slice y0 y1 y2) ∧ w'.cell? ⟨w.heap.size, 2, none⟩ = some (.bool inf))) _ := ⟨(HD.out.below HAa.out).cell 3 0 (Nat.le_of_ble_eq_true rfl) (Nat.le_of_ble_eq_true rfl), (HD.out.below HAa.out).cell 3 1 (Nat.le_of_ble_eq_true rfl) (Nat.le_of_ble_eq_true rfl), (HD.out.below HAa.out).cell 3 2 (Nat.le_of_ble_eq_true rfl) (Nat.le_of_ble_eq_true rfl)⟩
        clear hK K
        try simp only [Act.put, List.setIfInBounds_toArray, List.set_cons_zero, List.set_cons_succ]
        refine wpAnyK_step 10 rfl (by kernel_rfl) (fun K hK => ?_)
        rw [if_pos (by kernel_rfl)]
        refine wp_store_row 26 _ _ rfl (wga.heap.size) #[.slice x4_0 x4_1 x4_2, .slice y4_0 y4_1 y4_2, .bool f4] rfl rfl 26 #[.slice none 0 0, .slice none 0 0, .bool false] (HZa.out) (by kernel_rfl) rfl (by simp [Value.oneCell']) ?_
        refine hK.out _ _ ?hk10 ?_
        case hk10 => exact (fun h => nomatch (h.symm.trans (show _ = true by kernel_rfl)))
        clear hK K
        try simp only [Act.put]
        refine wpAnyK_take0 11 (v := ?v11) rfl (by kernel_rfl) (fun _ _ _ h => h) (Or.inl ⟨by rfl, ?hy11⟩) (fun h => nomatch (h.symm.trans (show _ = true by kernel_rfl))) ?_
        case hy11 => (intro w hSw; go_simp; try with_reducible rfl)
        try simp only [Act.put, List.setIfInBounds_toArray, List.set_cons_zero, List.set_cons_succ]
        refine wpAnyK_done (by kernel_rfl) ?_ _
        go_wp2_with fail
        go_meet
        have hR := Fm.row wga 26 [.slice none 0 0, .slice none 0 0, .bool false] [.slice x4_0 x4_1 x4_2, .slice y4_0 y4_1 y4_2, .bool f4] rfl
        have hbF : Below wv9.drew.heap.size wv9.drew _ := HBa2.out.trans (hR.bel.mono HBa2.out.size)
        exact ⟨_, wga.heap.size, _, _, _, _, _, _, _, _, _, rfl, rfl, rfl, HMa.out.2.2, Lf.addb (((HD.out.below hbF).res ((HMa.out.1.below hR.bel).base (Nat.zero_le _))).res ((HMa.out.2.1.below hR.bel).base (Nat.zero_le _))) (hR.bx 0 (by simp))⟩
      · go_simp
        have hzb : Below wfa.heap.size wfa (wfa.alloc (.cells #[.slice none 0 0, .slice none 0 0, .bool false] 26)) := alloc_below _ _
        have HAb : Hid (Below wv9.drew.heap.size wv9.drew (wfa.alloc (.cells #[.slice none 0 0, .slice none 0 0, .bool false] 26))) := HBa1.out.trans (hzb.mono HBa1.out.size)
        have HZb : Hid (Bl 26 (wfa.alloc (.cells #[.slice none 0 0, .slice none 0 0, .bool false] 26)) wfa.heap.size [.slice none 0 0, .slice none 0 0, .bool false]) := alloc_bl wfa [.slice none 0 0, .slice none 0 0, .bool false] 26
        have HSb : Hid (Nu (wfa.alloc (.cells #[.slice none 0 0, .slice none 0 0, .bool false] 26)) rS (A + B)) := HSa.out.below hzb (Nat.le_refl _)
        try dsimp only
        refine hK.out _ _ ?hk12 ?_
        case hk12 => exact fun _ => ⟨(HD.out.below HAb.out).cell 3 0 (Nat.le_of_ble_eq_true rfl) (Nat.le_of_ble_eq_true rfl), (HD.out.below HAb.out).cell 3 1 (Nat.le_of_ble_eq_true rfl) (Nat.le_of_ble_eq_true rfl), (HD.out.below HAb.out).cell 3 2 (Nat.le_of_ble_eq_true rfl) (Nat.le_of_ble_eq_true rfl)⟩
        have hHeld : ((fun (w' : World) => w'.cell? ⟨w.heap.size, 0, none⟩ = some (.slice x0 x1 x2) ∧ w'.cell? ⟨w.heap.size, 1, none⟩ = some (.slice y0 y1 y2) ∧ w'.cell? ⟨w.heap.size, 2, none⟩ = some (.bool inf))) _ := ⟨(HD.out.below HAb.out).cell 3 0 (Nat.le_of_ble_eq_true rfl) (Nat.le_of_ble_eq_true rfl), (HD.out.below HAb.out).cell 3 1 (Nat.le_of_ble_eq_true rfl) (Nat.le_of_ble_eq_true rfl), (HD.out.below HAb.out).cell 3 2 (Nat.le_of_ble_eq_true rfl) (Nat.le_of_ble_eq_true rfl)⟩
        clear hK K
        try simp only [Act.put, List.setIfInBounds_toArray, List.set_cons_zero, List.set_cons_succ]
        refine wpAnyK_step 5 rfl (by kernel_rfl) (fun K hK => ?_)
        go_simp
        refine (mul_ok hk _ _ _ (A + B) X Y inf _ HSb.out ((HD.out.below HAb.out).arg 2 (Nat.le_of_ble_eq_true rfl)) ((HD.out.below HAb.out).arg 3 (Nat.le_of_ble_eq_true rfl)) o1 hAB).mono ?_
        rintro e wgb ⟨r, rfl, hPa⟩
        rw [hk.mad oP] at hPa
        have hBp := hPa.bel
        obtain ⟨x4_0, y4_0, x4_1, x4_2, y4_1, y4_2, X4, Y4, f4, rfl, m1, m2, hpt, hz⟩ := hPa.open2
        have HMb : Hid (Mk wgb (wfa.alloc (.cells #[.slice none 0 0, .slice none 0 0, .bool false] 26)).heap.size (.slice x4_0 x4_1 x4_2) X4 384 ∧ Mk wgb (wfa.alloc (.cells #[.slice none 0 0, .slice none 0 0, .bool false] 26)).heap.size (.slice y4_0 y4_1 y4_2) Y4 384 ∧ (ptO X4 Y4 f4 = sm p (ml p (A % n) (ptO X Y inf)) (ml p (B % n) (ptO X Y inf)) ∧ (f4 = true → X4 = 0 ∧ Y4 = 0))) := ⟨m1, m2, hpt, hz⟩
        clear m1 m2 hpt hz hPa
        have HBb2 : Hid (Below wv9.drew.heap.size wv9.drew wgb) := HAb.out.trans (hBp.mono HAb.out.size)
        have HZb2 : Hid (Bl 26 wgb wfa.heap.size [.slice none 0 0, .slice none 0 0, .bool false]) := HZb.out.below hBp (HZb.out.lt)
        clear hBp
        try dsimp only
        refine hK.out _ _ ?hk13 ?_
        case hk13 => exact fun _ => ⟨(HD.out.below HBb2.out).cell 3 0 (Nat.le_of_ble_eq_true rfl) (Nat.le_of_ble_eq_true rfl), (HD.out.below HBb2.out).cell 3 1 (Nat.le_of_ble_eq_true rfl) (Nat.le_of_ble_eq_true rfl), (HD.out.below HBb2.out).cell 3 2 (Nat.le_of_ble_eq_true rfl) (Nat.le_of_ble_eq_true rfl)⟩
        have hHeld : ((fun (w' : World) => w'.cell? ⟨w.heap.size, 0, none⟩ = some (.slice x0 x1 x2) ∧ w'.cell? ⟨w.heap.size, 1, none⟩ = some (.slice y0 y1 y2) ∧ w'.cell? ⟨w.heap.size, 2, none⟩ = some (.bool inf))) _ := ⟨(HD.out.below HBb2.out).cell 3 0 (Nat.le_of_ble_eq_true rfl) (Nat.le_of_ble_eq_true rfl), (HD.out.below HBb2.out).cell 3 1 (Nat.le_of_ble_eq_true rfl) (Nat.le_of_ble_eq_true rfl), (HD.out.below HBb2.out).cell 3 2 (Nat.le_of_ble_eq_true rfl) (Nat.le_of_ble_eq_true rfl)⟩
        clear hK K
        try simp only [Act.put, List.setIfInBounds_toArray, List.set_cons_zero, List.set_cons_succ]
        refine wpAnyK_take0 6 (v := ?v14) rfl (by kernel_rfl) (fun _ _ _ h => h) (Or.inl ⟨by rfl, ?hy14⟩) (fun _ => hHeld) ?_
        case hy14 => (intro w hSw; go_simp; try with_reducible rfl)
        try simp only [Act.put, List.setIfInBounds_toArray, List.set_cons_zero, List.set_cons_succ]
        refine wpAnyK_take0 7 (v := ?v15) rfl (by kernel_rfl) (fun _ _ _ h => h) (Or.inl ⟨by rfl, ?hy15⟩) (fun _ => hHeld) ?_
        case hy15 => (intro w hSw; go_simp; try with_reducible rfl)
        try simp only [Act.put, List.setIfInBounds_toArray, List.set_cons_zero, List.set_cons_succ]
        refine wpAnyK_take0 8 (v := ?v16) rfl (by kernel_rfl) (fun _ _ _ h => h) (Or.inl ⟨by rfl, ?hy16⟩) (fun _ => hHeld) ?_
        case hy16 => (intro w hSw; go_simp; try with_reducible rfl)
        try simp only [Act.put, List.setIfInBounds_toArray, List.set_cons_zero, List.set_cons_succ]
        refine wpAnyK_step 10 rfl (by kernel_rfl) (fun K hK => ?_)
        rw [if_pos (by kernel_rfl)]
        refine wp_store_row 26 _ _ rfl (wfa.heap.size) #[.slice x4_0 x4_1 x4_2, .slice y4_0 y4_1 y4_2, .bool f4] rfl rfl 26 #[.slice none 0 0, .slice none 0 0, .bool false] (HZb2.out) (by kernel_rfl) rfl (by simp [Value.oneCell']) ?_
        refine hK.out _ _ ?hk17 ?_
        case hk17 => exact (fun h => nomatch (h.symm.trans (show _ = true by kernel_rfl)))
        clear hK K
        try simp only [Act.put]
        refine wpAnyK_take0 11 (v := ?v18) rfl (by kernel_rfl) (fun _ _ _ h => h) (Or.inl ⟨by rfl, ?hy18⟩) (fun h => nomatch (h.symm.trans (show _ = true by kernel_rfl))) ?_
        case hy18 => (intro w hSw; go_simp; try with_reducible rfl)
        try simp only [Act.put, List.setIfInBounds_toArray, List.set_cons_zero, List.set_cons_succ]
        refine wpAnyK_done (by kernel_rfl) ?_ _
        go_wp2_with fail
        go_meet
        have hb := But.setRow wgb (wfa.heap.size) #[.slice x4_0 x4_1 x4_2, .slice y4_0 y4_1 y4_2, .bool f4]
        have hbF : Below wv9.drew.heap.size wv9.drew _ := HBb2.out.trans (hb.below HBb2.out.size (show wv9.drew.heap.size ≤ wfa.heap.size from HBa1.out.size))
        exact ⟨_, wfa.heap.size, _, _, _, _, _, _, _, _, _, rfl, rfl, rfl, HMb.out.2.2, Lf.addb (((HD.out.below hbF).res ((HMb.out.1.but hb HZb.out.lt).base (Nat.zero_le _))).res ((HMb.out.2.1.but hb HZb.out.lt).base (Nat.zero_le _))) (setRow_heap _ _ _ _ _ _ HZb2.out)⟩
    · go_simp
      have hzc : Below wv9.drew.heap.size wv9.drew (wv9.drew.alloc (.cells #[.slice none 0 0, .slice none 0 0, .bool false] 26)) := alloc_below _ _
      have HAc : Hid (Below wv9.drew.heap.size wv9.drew (wv9.drew.alloc (.cells #[.slice none 0 0, .slice none 0 0, .bool false] 26))) := HBd.out.trans (hzc.mono HBd.out.size)
      have HZc : Hid (Bl 26 (wv9.drew.alloc (.cells #[.slice none 0 0, .slice none 0 0, .bool false] 26)) wv9.drew.heap.size [.slice none 0 0, .slice none 0 0, .bool false]) := alloc_bl wv9.drew [.slice none 0 0, .slice none 0 0, .bool false] 26
      try dsimp only
      refine hK.out _ _ ?hk20 ?_
      case hk20 => exact fun _ => ⟨(HD.out.below HAc.out).cell 3 0 (Nat.le_of_ble_eq_true rfl) (Nat.le_of_ble_eq_true rfl), (HD.out.below HAc.out).cell 3 1 (Nat.le_of_ble_eq_true rfl) (Nat.le_of_ble_eq_true rfl), (HD.out.below HAc.out).cell 3 2 (Nat.le_of_ble_eq_true rfl) (Nat.le_of_ble_eq_true rfl)⟩
      have hHeld : ((fun (w' : World) => w'.cell? ⟨w.heap.size, 0, none⟩ = some (.slice x0 x1 x2) ∧ w'.cell? ⟨w.heap.size, 1, none⟩ = some (.slice y0 y1 y2) ∧ w'.cell? ⟨w.heap.size, 2, none⟩ = some (.bool inf))) _ := ⟨(HD.out.below HAc.out).cell 3 0 (Nat.le_of_ble_eq_true rfl) (Nat.le_of_ble_eq_true rfl), (HD.out.below HAc.out).cell 3 1 (Nat.le_of_ble_eq_true rfl) (Nat.le_of_ble_eq_true rfl), (HD.out.below HAc.out).cell 3 2 (Nat.le_of_ble_eq_true rfl) (Nat.le_of_ble_eq_true rfl)⟩
      clear hK K
      try simp only [Act.put, List.setIfInBounds_toArray, List.set_cons_zero, List.set_cons_succ]
      refine wpAnyK_step 3 rfl (by kernel_rfl) (fun K hK => ?_)
      go_simp
      refine (vadd _ _ A B _ _ _ ((HD.out.below HAc.out).arg 0 (Nat.le_of_ble_eq_true rfl)) ((HD.out.below HAc.out).arg 1 (Nat.le_of_ble_eq_true rfl)) (by decide) (by decide)).mono ?_
      rintro e wfc ⟨rS, rfl, hN⟩
      have hBp := hN.2.2
      have HSc : Hid (Nu wfc rS (A + B)) := New.nu' HLS.out hN
      clear hN
      have HBc1 : Hid (Below wv9.drew.heap.size wv9.drew wfc) := HAc.out.trans (hBp.mono HAc.out.size)
      have HZc1 : Hid (Bl 26 wfc wv9.drew.heap.size [.slice none 0 0, .slice none 0 0, .bool false]) := HZc.out.below hBp HZc.out.lt
      clear hBp
      try dsimp only
      refine hK.out _ _ ?hk21 ?_
      case hk21 => exact fun _ => ⟨(HD.out.below HBc1.out).cell 3 0 (Nat.le_of_ble_eq_true rfl) (Nat.le_of_ble_eq_true rfl), (HD.out.below HBc1.out).cell 3 1 (Nat.le_of_ble_eq_true rfl) (Nat.le_of_ble_eq_true rfl), (HD.out.below HBc1.out).cell 3 2 (Nat.le_of_ble_eq_true rfl) (Nat.le_of_ble_eq_true rfl)⟩
      have hHeld : ((fun (w' : World) => w'.cell? ⟨w.heap.size, 0, none⟩ = some (.slice x0 x1 x2) ∧ w'.cell? ⟨w.heap.size, 1, none⟩ = some (.slice y0 y1 y2) ∧ w'.cell? ⟨w.heap.size, 2, none⟩ = some (.bool inf))) _ := ⟨(HD.out.below HBc1.out).cell 3 0 (Nat.le_of_ble_eq_true rfl) (Nat.le_of_ble_eq_true rfl), (HD.out.below HBc1.out).cell 3 1 (Nat.le_of_ble_eq_true rfl) (Nat.le_of_ble_eq_true rfl), (HD.out.below HBc1.out).cell 3 2 (Nat.le_of_ble_eq_true rfl) (Nat.le_of_ble_eq_true rfl)⟩
      clear hK K
      try simp only [Act.put, List.setIfInBounds_toArray, List.set_cons_zero, List.set_cons_succ]
      refine wpAnyK_step 5 rfl (by kernel_rfl) (fun K hK => ?_)
      go_simp
      refine (mul_ok hk _ _ _ (A + B) X Y inf _ HSc.out ((HD.out.below HBc1.out).arg 2 (Nat.le_of_ble_eq_true rfl)) ((HD.out.below HBc1.out).arg 3 (Nat.le_of_ble_eq_true rfl)) o1 hAB).mono ?_
      rintro e wgc ⟨r, rfl, hPa⟩
      rw [hk.mad oP] at hPa
      have hBp := hPa.bel
      obtain ⟨x4_0, y4_0, x4_1, x4_2, y4_1, y4_2, X4, Y4, f4, rfl, m1, m2, hpt, hz⟩ := hPa.open2
      have HMc : Hid (Mk wgc wfc.heap.size (.slice x4_0 x4_1 x4_2) X4 384 ∧ Mk wgc wfc.heap.size (.slice y4_0 y4_1 y4_2) Y4 384 ∧ (ptO X4 Y4 f4 = sm p (ml p (A % n) (ptO X Y inf)) (ml p (B % n) (ptO X Y inf)) ∧ (f4 = true → X4 = 0 ∧ Y4 = 0))) := ⟨m1, m2, hpt, hz⟩
      clear m1 m2 hpt hz hPa
      have HBc2 : Hid (Below wv9.drew.heap.size wv9.drew wgc) := HBc1.out.trans (hBp.mono HBc1.out.size)
      have HZc2 : Hid (Bl 26 wgc wv9.drew.heap.size [.slice none 0 0, .slice none 0 0, .bool false]) := HZc1.out.below hBp HZc1.out.lt
      clear hBp
      try dsimp only
      refine hK.out _ _ ?hk22 ?_
      case hk22 => exact fun _ => ⟨(HD.out.below HBc2.out).cell 3 0 (Nat.le_of_ble_eq_true rfl) (Nat.le_of_ble_eq_true rfl), (HD.out.below HBc2.out).cell 3 1 (Nat.le_of_ble_eq_true rfl) (Nat.le_of_ble_eq_true rfl), (HD.out.below HBc2.out).cell 3 2 (Nat.le_of_ble_eq_true rfl) (Nat.le_of_ble_eq_true rfl)⟩
      have hHeld : ((fun (w' : World) => w'.cell? ⟨w.heap.size, 0, none⟩ = some (.slice x0 x1 x2) ∧ w'.cell? ⟨w.heap.size, 1, none⟩ = some (.slice y0 y1 y2) ∧ w'.cell? ⟨w.heap.size, 2, none⟩ = some (.bool inf))) _ := ⟨(HD.out.below HBc2.out).cell 3 0 (Nat.le_of_ble_eq_true rfl) (Nat.le_of_ble_eq_true rfl), (HD.out.below HBc2.out).cell 3 1 (Nat.le_of_ble_eq_true rfl) (Nat.le_of_ble_eq_true rfl), (HD.out.below HBc2.out).cell 3 2 (Nat.le_of_ble_eq_true rfl) (Nat.le_of_ble_eq_true rfl)⟩
      clear hK K
      try simp only [Act.put, List.setIfInBounds_toArray, List.set_cons_zero, List.set_cons_succ]
      refine wpAnyK_take0 6 (v := ?v23) rfl (by kernel_rfl) (fun _ _ _ h => h) (Or.inl ⟨by rfl, ?hy23⟩) (fun _ => hHeld) ?_
      case hy23 => (intro w hSw; go_simp; try with_reducible rfl)
      try simp only [Act.put, List.setIfInBounds_toArray, List.set_cons_zero, List.set_cons_succ]
      refine wpAnyK_take0 7 (v := ?v24) rfl (by kernel_rfl) (fun _ _ _ h => h) (Or.inl ⟨by rfl, ?hy24⟩) (fun _ => hHeld) ?_
      case hy24 => (intro w hSw; go_simp; try with_reducible rfl)
      try simp only [Act.put, List.setIfInBounds_toArray, List.set_cons_zero, List.set_cons_succ]
      refine wpAnyK_take0 8 (v := ?v25) rfl (by kernel_rfl) (fun _ _ _ h => h) (Or.inl ⟨by rfl, ?hy25⟩) (fun _ => hHeld) ?_
      case hy25 => (intro w hSw; go_simp; try with_reducible rfl)
      try simp only [Act.put, List.setIfInBounds_toArray, List.set_cons_zero, List.set_cons_succ]
      refine wpAnyK_step 10 rfl (by kernel_rfl) (fun K hK => ?_)
      rw [if_pos (by kernel_rfl)]
      refine wp_store_row 26 _ _ rfl (wv9.drew.heap.size) #[.slice x4_0 x4_1 x4_2, .slice y4_0 y4_1 y4_2, .bool f4] rfl rfl 26 #[.slice none 0 0, .slice none 0 0, .bool false] (HZc2.out) (by kernel_rfl) rfl (by simp [Value.oneCell']) ?_
      refine hK.out _ _ ?hk26 ?_
      case hk26 => exact (fun h => nomatch (h.symm.trans (show _ = true by kernel_rfl)))
      clear hK K
      try simp only [Act.put]
      refine wpAnyK_take0 11 (v := ?v27) rfl (by kernel_rfl) (fun _ _ _ h => h) (Or.inl ⟨by rfl, ?hy27⟩) (fun h => nomatch (h.symm.trans (show _ = true by kernel_rfl))) ?_
      case hy27 => (intro w hSw; go_simp; try with_reducible rfl)
      try simp only [Act.put, List.setIfInBounds_toArray, List.set_cons_zero, List.set_cons_succ]
      refine wpAnyK_done (by kernel_rfl) ?_ _
      go_wp2_with fail
      go_meet
      have hb := But.setRow wgc (wv9.drew.heap.size) #[.slice x4_0 x4_1 x4_2, .slice y4_0 y4_1 y4_2, .bool f4]
      have hbF : Below wv9.drew.heap.size wv9.drew _ := HBc2.out.trans (hb.below HBc2.out.size (show wv9.drew.heap.size ≤ wv9.drew.heap.size from Nat.le_refl _))
      exact ⟨_, wv9.drew.heap.size, _, _, _, _, _, _, _, _, _, rfl, rfl, rfl, HMc.out.2.2, Lf.addb (((HD.out.below hbF).res ((HMc.out.1.but hb HZc1.out.lt).base (Nat.zero_le _))).res ((HMc.out.2.1.but hb HZc1.out.lt).base (Nat.zero_le _))) (setRow_heap _ _ _ _ _ _ HZc2.out)⟩
  obtain ⟨wg, g4, x4_0, y4_0, x4_1, x4_2, y4_1, y4_2, X4, Y4, f4, rfl, rfl, rfl, E4, HC4⟩ := hcut
  have k3_0 : wg.cell? ⟨we.heap.size, 0, none⟩ = some (.slice x3_0 x3_1 x3_2) := HC4.out.cell 1 0 (Nat.le_of_ble_eq_true rfl) (Nat.le_of_ble_eq_true rfl)
  have k3_1 : wg.cell? ⟨we.heap.size, 1, none⟩ = some (.slice y3_0 y3_1 y3_2) := HC4.out.cell 1 1 (Nat.le_of_ble_eq_true rfl) (Nat.le_of_ble_eq_true rfl)
  have k3_2 : wg.cell? ⟨we.heap.size, 2, none⟩ = some (.bool f3) := HC4.out.cell 1 2 (Nat.le_of_ble_eq_true rfl) (Nat.le_of_ble_eq_true rfl)
  have k4_0 : wg.cell? ⟨g4, 0, none⟩ = some (.slice x4_0 x4_1 x4_2) := HC4.out.cell 0 0 (Nat.le_of_ble_eq_true rfl) (Nat.le_of_ble_eq_true rfl)
  have k4_1 : wg.cell? ⟨g4, 1, none⟩ = some (.slice y4_0 y4_1 y4_2) := HC4.out.cell 0 1 (Nat.le_of_ble_eq_true rfl) (Nat.le_of_ble_eq_true rfl)
  have k4_2 : wg.cell? ⟨g4, 2, none⟩ = some (.bool f4) := HC4.out.cell 0 2 (Nat.le_of_ble_eq_true rfl) (Nat.le_of_ble_eq_true rfl)
  go_wp2_with fail
  clear k3_0 k3_1 k3_2 k4_0 k4_1 k4_2
  refine (same_pt _ _ _ _ X3 Y3 X4 Y4 f3 f4 _ _ (HC4.out.got 3 (Nat.le_of_ble_eq_true rfl)) (HC4.out.got 2 (Nat.le_of_ble_eq_true rfl)) (HC4.out.got 1 (Nat.le_of_ble_eq_true rfl)) (HC4.out.got 0 (Nat.le_of_ble_eq_true rfl)) E3.out E4.out).mono ?_
  rintro e wh ⟨rfl, hB⟩
  have Hwh : Hid (Lf w wh [(g4, [.slice x4_0 x4_1 x4_2, .slice y4_0 y4_1 y4_2, .bool f4]), (we.heap.size, [.slice x3_0 x3_1 x3_2, .slice y3_0 y3_1 y3_2, .bool f3]), (wd.heap.size, [.slice x2_0 x2_1 x2_2, .slice y2_0 y2_1 y2_2, .bool f2]), (wc.heap.size, [.slice x1_0 x1_1 x1_2, .slice y1_0 y1_1 y1_2, .bool f1]), (w.heap.size, [.slice x0 x1 x2, .slice y0 y1 y2, .bool inf])] [(.slice a0 a1 a2, A), (.slice d0 d1 d2, B), (.slice x0 x1 x2, X), (.slice y0 y1 y2, Y)] [(.slice y4_0 y4_1 y4_2, Y4), (.slice x4_0 x4_1 x4_2, X4), (.slice y3_0 y3_1 y3_2, Y3), (.slice x3_0 x3_1 x3_2, X3), (.slice y2_0 y2_1 y2_2, Y2), (.slice x2_0 x2_1 x2_2, X2), (.slice y1_0 y1_1 y1_2, Y1), (.slice x1_0 x1_1 x1_2, X1)]) := (HC4.out.below hB)
  clear hB
  have k0_0 : wh.cell? ⟨w.heap.size, 0, none⟩ = some (.slice x0 x1 x2) := Hwh.out.cell 4 0 (Nat.le_of_ble_eq_true rfl) (Nat.le_of_ble_eq_true rfl)
  have k0_1 : wh.cell? ⟨w.heap.size, 1, none⟩ = some (.slice y0 y1 y2) := Hwh.out.cell 4 1 (Nat.le_of_ble_eq_true rfl) (Nat.le_of_ble_eq_true rfl)
  have k0_2 : wh.cell? ⟨w.heap.size, 2, none⟩ = some (.bool inf) := Hwh.out.cell 4 2 (Nat.le_of_ble_eq_true rfl) (Nat.le_of_ble_eq_true rfl)
  go_wp2_with fail
  clear k0_0 k0_1 k0_2
  refine (mul_ok hk _ _ _ 0 X Y inf _ (Nk.none _ 384).1 (Hwh.out.arg 2 (Nat.le_of_ble_eq_true rfl)) (Hwh.out.arg 3 (Nat.le_of_ble_eq_true rfl)) o1 (by decide)).mono ?_
  rintro e wi ⟨r, rfl, hPa⟩
  rw [show ml p (0 % n) (ptO X Y inf) = .O by rw [Nat.zero_mod]; rfl] at hPa
  obtain ⟨rfl, hB⟩ := hPa
  have Hwi : Hid (Lf w wi [(g4, [.slice x4_0 x4_1 x4_2, .slice y4_0 y4_1 y4_2, .bool f4]), (we.heap.size, [.slice x3_0 x3_1 x3_2, .slice y3_0 y3_1 y3_2, .bool f3]), (wd.heap.size, [.slice x2_0 x2_1 x2_2, .slice y2_0 y2_1 y2_2, .bool f2]), (wc.heap.size, [.slice x1_0 x1_1 x1_2, .slice y1_0 y1_1 y1_2, .bool f1]), (w.heap.size, [.slice x0 x1 x2, .slice y0 y1 y2, .bool inf])] [(.slice a0 a1 a2, A), (.slice d0 d1 d2, B), (.slice x0 x1 x2, X), (.slice y0 y1 y2, Y)] [(.slice y4_0 y4_1 y4_2, Y4), (.slice x4_0 x4_1 x4_2, X4), (.slice y3_0 y3_1 y3_2, Y3), (.slice x3_0 x3_1 x3_2, X3), (.slice y2_0 y2_1 y2_2, Y2), (.slice x2_0 x2_1 x2_2, X2), (.slice y1_0 y1_1 y1_2, Y1), (.slice x1_0 x1_1 x1_2, X1)]) := (Hwh.out.below hB)
  clear hB
  have HB5 : Hid (Lf w (wi.alloc (.cells #[.slice none 0 0, .slice none 0 0, .bool true] 26)) [(wi.heap.size, [.slice none 0 0, .slice none 0 0, .bool true]), (g4, [.slice x4_0 x4_1 x4_2, .slice y4_0 y4_1 y4_2, .bool f4]), (we.heap.size, [.slice x3_0 x3_1 x3_2, .slice y3_0 y3_1 y3_2, .bool f3]), (wd.heap.size, [.slice x2_0 x2_1 x2_2, .slice y2_0 y2_1 y2_2, .bool f2]), (wc.heap.size, [.slice x1_0 x1_1 x1_2, .slice y1_0 y1_1 y1_2, .bool f1]), (w.heap.size, [.slice x0 x1 x2, .slice y0 y1 y2, .bool inf])] [(.slice a0 a1 a2, A), (.slice d0 d1 d2, B), (.slice x0 x1 x2, X), (.slice y0 y1 y2, Y)] [(.slice y4_0 y4_1 y4_2, Y4), (.slice x4_0 x4_1 x4_2, X4), (.slice y3_0 y3_1 y3_2, Y3), (.slice x3_0 x3_1 x3_2, X3), (.slice y2_0 y2_1 y2_2, Y2), (.slice x2_0 x2_1 x2_2, X2), (.slice y1_0 y1_1 y1_2, Y1), (.slice x1_0 x1_1 x1_2, X1)]) := Hwi.out.box [.slice none 0 0, .slice none 0 0, .bool true]
  have HR1 : Hid (Lf w ((wi.alloc (.cells #[.slice none 0 0, .slice none 0 0, .bool true] 26)).alloc (.cells #[.int .u32 1] 37)) [(wi.heap.size, [.slice none 0 0, .slice none 0 0, .bool true]), (g4, [.slice x4_0 x4_1 x4_2, .slice y4_0 y4_1 y4_2, .bool f4]), (we.heap.size, [.slice x3_0 x3_1 x3_2, .slice y3_0 y3_1 y3_2, .bool f3]), (wd.heap.size, [.slice x2_0 x2_1 x2_2, .slice y2_0 y2_1 y2_2, .bool f2]), (wc.heap.size, [.slice x1_0 x1_1 x1_2, .slice y1_0 y1_1 y1_2, .bool f1]), (w.heap.size, [.slice x0 x1 x2, .slice y0 y1 y2, .bool inf])] [(.slice a0 a1 a2, A), (.slice d0 d1 d2, B), (.slice x0 x1 x2, X), (.slice y0 y1 y2, Y)] [(.slice y4_0 y4_1 y4_2, Y4), (.slice x4_0 x4_1 x4_2, X4), (.slice y3_0 y3_1 y3_2, Y3), (.slice x3_0 x3_1 x3_2, X3), (.slice y2_0 y2_1 y2_2, Y2), (.slice x2_0 x2_1 x2_2, X2), (.slice y1_0 y1_1 y1_2, Y1), (.slice x1_0 x1_1 x1_2, X1)]) := HB5.out.below (alloc_below _ _)
  have HOn : Hid (Nu ((wi.alloc (.cells #[.slice none 0 0, .slice none 0 0, .bool true] 26)).alloc (.cells #[.int .u32 1] 37)) (.slice (some ⟨(wi.alloc (.cells #[.slice none 0 0, .slice none 0 0, .bool true] 26)).heap.size, 0, none⟩) 1 1) 1) := row_one (wi.alloc (.cells #[.slice none 0 0, .slice none 0 0, .bool true] 26)) 1 (by decide)
  rw [show (wi.alloc (.cells #[.slice none 0 0, .slice none 0 0, .bool true] 26)).heap.size = wi.heap.size + 1 from World.size_alloc _ _] at HOn
  have k0_0 : ((wi.alloc (.cells #[.slice none 0 0, .slice none 0 0, .bool true] 26)).alloc (.cells #[.int .u32 1] 37)).cell? ⟨w.heap.size, 0, none⟩ = some (.slice x0 x1 x2) := HR1.out.cell 5 0 (Nat.le_of_ble_eq_true rfl) (Nat.le_of_ble_eq_true rfl)
  have k0_1 : ((wi.alloc (.cells #[.slice none 0 0, .slice none 0 0, .bool true] 26)).alloc (.cells #[.int .u32 1] 37)).cell? ⟨w.heap.size, 1, none⟩ = some (.slice y0 y1 y2) := HR1.out.cell 5 1 (Nat.le_of_ble_eq_true rfl) (Nat.le_of_ble_eq_true rfl)
  have k0_2 : ((wi.alloc (.cells #[.slice none 0 0, .slice none 0 0, .bool true] 26)).alloc (.cells #[.int .u32 1] 37)).cell? ⟨w.heap.size, 2, none⟩ = some (.bool inf) := HR1.out.cell 5 2 (Nat.le_of_ble_eq_true rfl) (Nat.le_of_ble_eq_true rfl)
  go_wp2_with fail
  clear k0_0 k0_1 k0_2
  generalize ((wi.alloc (.cells #[.slice none 0 0, .slice none 0 0, .bool true] 26)).alloc (.cells #[.int .u32 1] 37)) = wv12 at *
  refine (mul_ok hk _ _ _ 1 X Y inf _ HOn.out (HR1.out.arg 2 (Nat.le_of_ble_eq_true rfl)) (HR1.out.arg 3 (Nat.le_of_ble_eq_true rfl)) o1 (by decide)).mono ?_
  rintro e wj ⟨r, rfl, hPa⟩
  rw [hk.m1 oP] at hPa
  have hB := hPa.bel
  obtain ⟨x6_0, y6_0, x6_1, x6_2, y6_1, y6_2, X6, Y6, f6, rfl, m1, m2, hpt, hz⟩ := hPa.open
  have E6 : Hid (ptO X6 Y6 f6 = (ptO X Y inf) ∧ (f6 = true → X6 = 0 ∧ Y6 = 0)) := ⟨hpt, hz⟩
  have Hwj : Hid (Lf w wj [(wi.heap.size, [.slice none 0 0, .slice none 0 0, .bool true]), (g4, [.slice x4_0 x4_1 x4_2, .slice y4_0 y4_1 y4_2, .bool f4]), (we.heap.size, [.slice x3_0 x3_1 x3_2, .slice y3_0 y3_1 y3_2, .bool f3]), (wd.heap.size, [.slice x2_0 x2_1 x2_2, .slice y2_0 y2_1 y2_2, .bool f2]), (wc.heap.size, [.slice x1_0 x1_1 x1_2, .slice y1_0 y1_1 y1_2, .bool f1]), (w.heap.size, [.slice x0 x1 x2, .slice y0 y1 y2, .bool inf])] [(.slice a0 a1 a2, A), (.slice d0 d1 d2, B), (.slice x0 x1 x2, X), (.slice y0 y1 y2, Y)] [(.slice y6_0 y6_1 y6_2, Y6), (.slice x6_0 x6_1 x6_2, X6), (.slice y4_0 y4_1 y4_2, Y4), (.slice x4_0 x4_1 x4_2, X4), (.slice y3_0 y3_1 y3_2, Y3), (.slice x3_0 x3_1 x3_2, X3), (.slice y2_0 y2_1 y2_2, Y2), (.slice x2_0 x2_1 x2_2, X2), (.slice y1_0 y1_1 y1_2, Y1), (.slice x1_0 x1_1 x1_2, X1)]) := (((HR1.out.below hB).res m1).res m2)
  clear hB m1 m2 hpt hz
  have HB6 : Hid (Lf w (wj.alloc (.cells #[.slice x6_0 x6_1 x6_2, .slice y6_0 y6_1 y6_2, .bool f6] 26)) [(wj.heap.size, [.slice x6_0 x6_1 x6_2, .slice y6_0 y6_1 y6_2, .bool f6]), (wi.heap.size, [.slice none 0 0, .slice none 0 0, .bool true]), (g4, [.slice x4_0 x4_1 x4_2, .slice y4_0 y4_1 y4_2, .bool f4]), (we.heap.size, [.slice x3_0 x3_1 x3_2, .slice y3_0 y3_1 y3_2, .bool f3]), (wd.heap.size, [.slice x2_0 x2_1 x2_2, .slice y2_0 y2_1 y2_2, .bool f2]), (wc.heap.size, [.slice x1_0 x1_1 x1_2, .slice y1_0 y1_1 y1_2, .bool f1]), (w.heap.size, [.slice x0 x1 x2, .slice y0 y1 y2, .bool inf])] [(.slice a0 a1 a2, A), (.slice d0 d1 d2, B), (.slice x0 x1 x2, X), (.slice y0 y1 y2, Y)] [(.slice y6_0 y6_1 y6_2, Y6), (.slice x6_0 x6_1 x6_2, X6), (.slice y4_0 y4_1 y4_2, Y4), (.slice x4_0 x4_1 x4_2, X4), (.slice y3_0 y3_1 y3_2, Y3), (.slice x3_0 x3_1 x3_2, X3), (.slice y2_0 y2_1 y2_2, Y2), (.slice x2_0 x2_1 x2_2, X2), (.slice y1_0 y1_1 y1_2, Y1), (.slice x1_0 x1_1 x1_2, X1)]) := Hwj.out.box [.slice x6_0 x6_1 x6_2, .slice y6_0 y6_1 y6_2, .bool f6]
  go_upto_region 21 with fail
  generalize (wj.alloc (.cells #[.slice x6_0 x6_1 x6_2, .slice y6_0 y6_1 y6_2, .bool f6] 26)) = wv14 at *
  go_cut [28, 29] from 158 to 165 (fun s1 s2 wx => ∃ (w' : World) (g : Nat), w' = wx ∧ s1 = .pointer (some ⟨g, 0, none⟩) ∧ s2 = .int .i64 0 ∧ Hid (Lf w w' [(g, [.slice none 0 0, .slice none 0 0, .bool true]), (wj.heap.size, [.slice x6_0 x6_1 x6_2, .slice y6_0 y6_1 y6_2, .bool f6]), (wi.heap.size, [.slice none 0 0, .slice none 0 0, .bool true]), (g4, [.slice x4_0 x4_1 x4_2, .slice y4_0 y4_1 y4_2, .bool f4]), (we.heap.size, [.slice x3_0 x3_1 x3_2, .slice y3_0 y3_1 y3_2, .bool f3]), (wd.heap.size, [.slice x2_0 x2_1 x2_2, .slice y2_0 y2_1 y2_2, .bool f2]), (wc.heap.size, [.slice x1_0 x1_1 x1_2, .slice y1_0 y1_1 y1_2, .bool f1]), (w.heap.size, [.slice x0 x1 x2, .slice y0 y1 y2, .bool inf])] [(.slice a0 a1 a2, A), (.slice d0 d1 d2, B), (.slice x0 x1 x2, X), (.slice y0 y1 y2, Y)] [(.slice y6_0 y6_1 y6_2, Y6), (.slice x6_0 x6_1 x6_2, X6), (.slice y4_0 y4_1 y4_2, Y4), (.slice x4_0 x4_1 x4_2, X4), (.slice y3_0 y3_1 y3_2, Y3), (.slice x3_0 x3_1 x3_2, X3), (.slice y2_0 y2_1 y2_2, Y2), (.slice x2_0 x2_1 x2_2, X2), (.slice y1_0 y1_1 y1_2, Y1), (.slice x1_0 x1_1 x1_2, X1)]))
  case first =>
    have HD : Hid (Lf w wv14.drew [(wj.heap.size, [.slice x6_0 x6_1 x6_2, .slice y6_0 y6_1 y6_2, .bool f6]), (wi.heap.size, [.slice none 0 0, .slice none 0 0, .bool true]), (g4, [.slice x4_0 x4_1 x4_2, .slice y4_0 y4_1 y4_2, .bool f4]), (we.heap.size, [.slice x3_0 x3_1 x3_2, .slice y3_0 y3_1 y3_2, .bool f3]), (wd.heap.size, [.slice x2_0 x2_1 x2_2, .slice y2_0 y2_1 y2_2, .bool f2]), (wc.heap.size, [.slice x1_0 x1_1 x1_2, .slice y1_0 y1_1 y1_2, .bool f1]), (w.heap.size, [.slice x0 x1 x2, .slice y0 y1 y2, .bool inf])] [(.slice a0 a1 a2, A), (.slice d0 d1 d2, B), (.slice x0 x1 x2, X), (.slice y0 y1 y2, Y)] [(.slice y6_0 y6_1 y6_2, Y6), (.slice x6_0 x6_1 x6_2, X6), (.slice y4_0 y4_1 y4_2, Y4), (.slice x4_0 x4_1 x4_2, X4), (.slice y3_0 y3_1 y3_2, Y3), (.slice x3_0 x3_1 x3_2, X3), (.slice y2_0 y2_1 y2_2, Y2), (.slice x2_0 x2_1 x2_2, X2), (.slice y1_0 y1_1 y1_2, Y1), (.slice x1_0 x1_1 x1_2, X1)]) := HB6.out.drew
    have HBd : Hid (Below wv14.drew.heap.size wv14.drew wv14.drew) := Below.refl _ _
    refine wp_region_K 4 (fun (w' : World) => w'.cell? ⟨w.heap.size, 0, none⟩ = some (.slice x0 x1 x2) ∧ w'.cell? ⟨w.heap.size, 1, none⟩ = some (.slice y0 y1 y2) ∧ w'.cell? ⟨w.heap.size, 2, none⟩ = some (.bool inf)) (by kernel_rfl) ?_
    have hHeld : ((fun (w' : World) => w'.cell? ⟨w.heap.size, 0, none⟩ = some (.slice x0 x1 x2) ∧ w'.cell? ⟨w.heap.size, 1, none⟩ = some (.slice y0 y1 y2) ∧ w'.cell? ⟨w.heap.size, 2, none⟩ = some (.bool inf))) (World.drew _) := ⟨HD.out.cell 6 0 (Nat.le_of_ble_eq_true rfl) (Nat.le_of_ble_eq_true rfl), HD.out.cell 6 1 (Nat.le_of_ble_eq_true rfl) (Nat.le_of_ble_eq_true rfl), HD.out.cell 6 2 (Nat.le_of_ble_eq_true rfl) (Nat.le_of_ble_eq_true rfl)⟩
    refine wpAnyK_take0 0 (v := ?v28) rfl (by kernel_rfl) (fun _ _ _ h => h) (Or.inl ⟨by rfl, ?hy28⟩) (fun _ => hHeld) ?_
    case hy28 => (intro w hSw; go_simp; try with_reducible rfl)
    try simp only [Act.put, List.setIfInBounds_toArray, List.set_cons_zero, List.set_cons_succ]
    refine wpAnyK_take0 1 (v := ?v29) rfl (by kernel_rfl) (fun _ _ _ h => h) (Or.inl ⟨by rfl, ?hy29⟩) (fun _ => hHeld) ?_
    case hy29 => (intro w hSw; go_simp; try with_reducible rfl)
    try simp only [Act.put, List.setIfInBounds_toArray, List.set_cons_zero, List.set_cons_succ]
    refine wpAnyK_take 3 [4] (v := ?v30) rfl (by kernel_rfl) (fun _ _ _ h => h) (Or.inl ⟨by rfl, ?hy30⟩) hHeld ?_
    case hy30 => (intro w hSw; (try dsimp only at hSw); go_simp; try with_reducible rfl)
    try simp only [Act.put, List.setIfInBounds_toArray, List.set_cons_zero, List.set_cons_succ]
    refine wpAnyK_two 2 8 rfl rfl (by kernel_rfl) (fun K hK => ?_) (fun K hK => ?_)
    · go_simp
      refine (order_v hk _).mono ?_
      rintro e wfa ⟨rS, rfl, mN, hBp⟩
      have HSa : Hid (Nu wfa rS n) := mN.nk.1
      clear mN
      have HBa1 : Hid (Below wv14.drew.heap.size wv14.drew wfa) := HBd.out.trans (hBp.mono HBd.out.size)
      clear hBp
      try dsimp only
      refine hK.out _ _ ?hk45 ?_
      case hk45 => exact fun _ => ⟨(HD.out.below HBa1.out).cell 6 0 (Nat.le_of_ble_eq_true rfl) (Nat.le_of_ble_eq_true rfl), (HD.out.below HBa1.out).cell 6 1 (Nat.le_of_ble_eq_true rfl) (Nat.le_of_ble_eq_true rfl), (HD.out.below HBa1.out).cell 6 2 (Nat.le_of_ble_eq_true rfl) (Nat.le_of_ble_eq_true rfl)⟩
      have hHeld : ((fun (w' : World) => w'.cell? ⟨w.heap.size, 0, none⟩ = some (.slice x0 x1 x2) ∧ w'.cell? ⟨w.heap.size, 1, none⟩ = some (.slice y0 y1 y2) ∧ w'.cell? ⟨w.heap.size, 2, none⟩ = some (.bool inf))) _ := ⟨(HD.out.below HBa1.out).cell 6 0 (Nat.le_of_ble_eq_true rfl) (Nat.le_of_ble_eq_true rfl), (HD.out.below HBa1.out).cell 6 1 (Nat.le_of_ble_eq_true rfl) (Nat.le_of_ble_eq_true rfl), (HD.out.below HBa1.out).cell 6 2 (Nat.le_of_ble_eq_true rfl) (Nat.le_of_ble_eq_true rfl)⟩
      clear hK K
      try simp only [Act.put, List.setIfInBounds_toArray, List.set_cons_zero, List.set_cons_succ]
      refine wpAnyK_two 4 8 rfl rfl (by kernel_rfl) (fun K hK => ?_) (fun K hK => ?_)
      · go_simp
        refine (mul_ok hk _ _ _ n X Y inf _ HSa.out ((HD.out.below HBa1.out).arg 2 (Nat.le_of_ble_eq_true rfl)) ((HD.out.below HBa1.out).arg 3 (Nat.le_of_ble_eq_true rfl)) o1 (bl_n hk)).mono ?_
        rintro e wga ⟨r, rfl, hPa⟩
        rw [hk.mn0] at hPa
        obtain ⟨rfl, hBp⟩ := hPa
        have HBa2 : Hid (Below wv14.drew.heap.size wv14.drew wga) := HBa1.out.trans (hBp.mono HBa1.out.size)
        clear hBp
        try dsimp only
        refine hK.out _ _ ?hk31 ?_
        case hk31 => exact fun _ => ⟨(HD.out.below HBa2.out).cell 6 0 (Nat.le_of_ble_eq_true rfl) (Nat.le_of_ble_eq_true rfl), (HD.out.below HBa2.out).cell 6 1 (Nat.le_of_ble_eq_true rfl) (Nat.le_of_ble_eq_true rfl), (HD.out.below HBa2.out).cell 6 2 (Nat.le_of_ble_eq_true rfl) (Nat.le_of_ble_eq_true rfl)⟩
        have hHeld : ((fun (w' : World) => w'.cell? ⟨w.heap.size, 0, none⟩ = some (.slice x0 x1 x2) ∧ w'.cell? ⟨w.heap.size, 1, none⟩ = some (.slice y0 y1 y2) ∧ w'.cell? ⟨w.heap.size, 2, none⟩ = some (.bool inf))) _ := ⟨(HD.out.below HBa2.out).cell 6 0 (Nat.le_of_ble_eq_true rfl) (Nat.le_of_ble_eq_true rfl), (HD.out.below HBa2.out).cell 6 1 (Nat.le_of_ble_eq_true rfl) (Nat.le_of_ble_eq_true rfl), (HD.out.below HBa2.out).cell 6 2 (Nat.le_of_ble_eq_true rfl) (Nat.le_of_ble_eq_true rfl)⟩
        clear hK K
        try simp only [Act.put, List.setIfInBounds_toArray, List.set_cons_zero, List.set_cons_succ]
        refine wpAnyK_take0 5 (v := ?v32) rfl (by kernel_rfl) (fun _ _ _ h => h) (Or.inl ⟨by rfl, ?hy32⟩) (fun _ => hHeld) ?_
        case hy32 => (intro w hSw; go_simp; try with_reducible rfl)
        try simp only [Act.put, List.setIfInBounds_toArray, List.set_cons_zero, List.set_cons_succ]
        refine wpAnyK_take0 6 (v := ?v33) rfl (by kernel_rfl) (fun _ _ _ h => h) (Or.inl ⟨by rfl, ?hy33⟩) (fun _ => hHeld) ?_
        case hy33 => (intro w hSw; go_simp; try with_reducible rfl)
        try simp only [Act.put, List.setIfInBounds_toArray, List.set_cons_zero, List.set_cons_succ]
        refine wpAnyK_take0 7 (v := ?v34) rfl (by kernel_rfl) (fun _ _ _ h => h) (Or.inl ⟨by rfl, ?hy34⟩) (fun _ => hHeld) ?_
        case hy34 => (intro w hSw; go_simp; try with_reducible rfl)
        try simp only [Act.put, List.setIfInBounds_toArray, List.set_cons_zero, List.set_cons_succ]
        refine wpAnyK_step 8 rfl (by kernel_rfl) (fun K hK => ?_)
        go_simp
        have hza : Below wga.heap.size wga (wga.alloc (.cells #[.slice none 0 0, .slice none 0 0, .bool false] 26)) := alloc_below _ _
        have HAa : Hid (Below wv14.drew.heap.size wv14.drew (wga.alloc (.cells #[.slice none 0 0, .slice none 0 0, .bool false] 26))) := HBa2.out.trans (hza.mono HBa2.out.size)
        have HZa : Hid (Bl 26 (wga.alloc (.cells #[.slice none 0 0, .slice none 0 0, .bool false] 26)) wga.heap.size [.slice none 0 0, .slice none 0 0, .bool false]) := alloc_bl wga [.slice none 0 0, .slice none 0 0, .bool false] 26
        try dsimp only
        refine hK.out _ _ ?hk35 ?_
        case hk35 => exact fun _ => ⟨(HD.out.below HAa.out).cell 6 0 (Nat.le_of_ble_eq_true rfl) (Nat.le_of_ble_eq_true rfl), (HD.out.below HAa.out).cell 6 1 (Nat.le_of_ble_eq_true rfl) (Nat.le_of_ble_eq_true rfl), (HD.out.below HAa.out).cell 6 2 (Nat.le_of_ble_eq_true rfl) (Nat.le_of_ble_eq_true rfl)⟩
        have hHeld : ((fun (w' : World) => w'.cell? ⟨w.heap.size, 0, none⟩ = some (.slice x0 x1 x2) ∧ w'.cell? ⟨w.heap.size, 1, none⟩ = some (.slice y0 y1 y2) ∧ w'.cell? ⟨w.heap.size, 2, none⟩ = some (.bool inf))) _ := ⟨(HD.out.below HAa.out).cell 6 0 (Nat.le_of_ble_eq_true rfl) (Nat.le_of_ble_eq_true rfl), (HD.out.below HAa.out).cell 6 1 (Nat.le_of_ble_eq_true rfl) (Nat.le_of_ble_eq_true rfl), (HD.out.below HAa.out).cell 6 2 (Nat.le_of_ble_eq_true rfl) (Nat.le_of_ble_eq_true rfl)⟩
        clear hK K
        try simp only [Act.put, List.setIfInBounds_toArray, List.set_cons_zero, List.set_cons_succ]
        refine wpAnyK_step 9 rfl (by kernel_rfl) (fun K hK => ?_)
        rw [if_pos (by kernel_rfl)]
        refine wp_store_row 26 _ _ rfl (wga.heap.size) #[.slice none 0 0, .slice none 0 0, .bool true] rfl rfl 26 #[.slice none 0 0, .slice none 0 0, .bool false] (HZa.out) (by kernel_rfl) rfl (by simp [Value.oneCell']) ?_
        refine hK.out _ _ ?hk36 ?_
        case hk36 => exact (fun h => nomatch (h.symm.trans (show _ = true by kernel_rfl)))
        clear hK K
        try simp only [Act.put]
        refine wpAnyK_take0 10 (v := ?v37) rfl (by kernel_rfl) (fun _ _ _ h => h) (Or.inl ⟨by rfl, ?hy37⟩) (fun h => nomatch (h.symm.trans (show _ = true by kernel_rfl))) ?_
        case hy37 => (intro w hSw; go_simp; try with_reducible rfl)
        try simp only [Act.put, List.setIfInBounds_toArray, List.set_cons_zero, List.set_cons_succ]
        refine wpAnyK_done (by kernel_rfl) ?_ _
        go_wp2_with fail
        go_meet
        have hR := Fm.row wga 26 [.slice none 0 0, .slice none 0 0, .bool false] [.slice none 0 0, .slice none 0 0, .bool true] rfl
        have hbF : Below wv14.drew.heap.size wv14.drew _ := HBa2.out.trans (hR.bel.mono HBa2.out.size)
        exact ⟨_, wga.heap.size, rfl, rfl, rfl, Lf.addb (HD.out.below hbF) (hR.bx 0 (by simp))⟩
      · go_simp
        have hzb : Below wfa.heap.size wfa (wfa.alloc (.cells #[.slice none 0 0, .slice none 0 0, .bool false] 26)) := alloc_below _ _
        have HAb : Hid (Below wv14.drew.heap.size wv14.drew (wfa.alloc (.cells #[.slice none 0 0, .slice none 0 0, .bool false] 26))) := HBa1.out.trans (hzb.mono HBa1.out.size)
        have HZb : Hid (Bl 26 (wfa.alloc (.cells #[.slice none 0 0, .slice none 0 0, .bool false] 26)) wfa.heap.size [.slice none 0 0, .slice none 0 0, .bool false]) := alloc_bl wfa [.slice none 0 0, .slice none 0 0, .bool false] 26
        have HSb : Hid (Nu (wfa.alloc (.cells #[.slice none 0 0, .slice none 0 0, .bool false] 26)) rS n) := HSa.out.below hzb (Nat.le_refl _)
        try dsimp only
        refine hK.out _ _ ?hk38 ?_
        case hk38 => exact fun _ => ⟨(HD.out.below HAb.out).cell 6 0 (Nat.le_of_ble_eq_true rfl) (Nat.le_of_ble_eq_true rfl), (HD.out.below HAb.out).cell 6 1 (Nat.le_of_ble_eq_true rfl) (Nat.le_of_ble_eq_true rfl), (HD.out.below HAb.out).cell 6 2 (Nat.le_of_ble_eq_true rfl) (Nat.le_of_ble_eq_true rfl)⟩
        have hHeld : ((fun (w' : World) => w'.cell? ⟨w.heap.size, 0, none⟩ = some (.slice x0 x1 x2) ∧ w'.cell? ⟨w.heap.size, 1, none⟩ = some (.slice y0 y1 y2) ∧ w'.cell? ⟨w.heap.size, 2, none⟩ = some (.bool inf))) _ := ⟨(HD.out.below HAb.out).cell 6 0 (Nat.le_of_ble_eq_true rfl) (Nat.le_of_ble_eq_true rfl), (HD.out.below HAb.out).cell 6 1 (Nat.le_of_ble_eq_true rfl) (Nat.le_of_ble_eq_true rfl), (HD.out.below HAb.out).cell 6 2 (Nat.le_of_ble_eq_true rfl) (Nat.le_of_ble_eq_true rfl)⟩
        clear hK K
        try simp only [Act.put, List.setIfInBounds_toArray, List.set_cons_zero, List.set_cons_succ]
        refine wpAnyK_step 4 rfl (by kernel_rfl) (fun K hK => ?_)
        go_simp
        refine (mul_ok hk _ _ _ n X Y inf _ HSb.out ((HD.out.below HAb.out).arg 2 (Nat.le_of_ble_eq_true rfl)) ((HD.out.below HAb.out).arg 3 (Nat.le_of_ble_eq_true rfl)) o1 (bl_n hk)).mono ?_
        rintro e wgb ⟨r, rfl, hPa⟩
        rw [hk.mn0] at hPa
        obtain ⟨rfl, hBp⟩ := hPa
        have HBb2 : Hid (Below wv14.drew.heap.size wv14.drew wgb) := HAb.out.trans (hBp.mono HAb.out.size)
        have HZb2 : Hid (Bl 26 wgb wfa.heap.size [.slice none 0 0, .slice none 0 0, .bool false]) := HZb.out.below hBp (HZb.out.lt)
        clear hBp
        try dsimp only
        refine hK.out _ _ ?hk39 ?_
        case hk39 => exact fun _ => ⟨(HD.out.below HBb2.out).cell 6 0 (Nat.le_of_ble_eq_true rfl) (Nat.le_of_ble_eq_true rfl), (HD.out.below HBb2.out).cell 6 1 (Nat.le_of_ble_eq_true rfl) (Nat.le_of_ble_eq_true rfl), (HD.out.below HBb2.out).cell 6 2 (Nat.le_of_ble_eq_true rfl) (Nat.le_of_ble_eq_true rfl)⟩
        have hHeld : ((fun (w' : World) => w'.cell? ⟨w.heap.size, 0, none⟩ = some (.slice x0 x1 x2) ∧ w'.cell? ⟨w.heap.size, 1, none⟩ = some (.slice y0 y1 y2) ∧ w'.cell? ⟨w.heap.size, 2, none⟩ = some (.bool inf))) _ := ⟨(HD.out.below HBb2.out).cell 6 0 (Nat.le_of_ble_eq_true rfl) (Nat.le_of_ble_eq_true rfl), (HD.out.below HBb2.out).cell 6 1 (Nat.le_of_ble_eq_true rfl) (Nat.le_of_ble_eq_true rfl), (HD.out.below HBb2.out).cell 6 2 (Nat.le_of_ble_eq_true rfl) (Nat.le_of_ble_eq_true rfl)⟩
        clear hK K
        try simp only [Act.put, List.setIfInBounds_toArray, List.set_cons_zero, List.set_cons_succ]
        refine wpAnyK_take0 5 (v := ?v40) rfl (by kernel_rfl) (fun _ _ _ h => h) (Or.inl ⟨by rfl, ?hy40⟩) (fun _ => hHeld) ?_
        case hy40 => (intro w hSw; go_simp; try with_reducible rfl)
        try simp only [Act.put, List.setIfInBounds_toArray, List.set_cons_zero, List.set_cons_succ]
        refine wpAnyK_take0 6 (v := ?v41) rfl (by kernel_rfl) (fun _ _ _ h => h) (Or.inl ⟨by rfl, ?hy41⟩) (fun _ => hHeld) ?_
        case hy41 => (intro w hSw; go_simp; try with_reducible rfl)
        try simp only [Act.put, List.setIfInBounds_toArray, List.set_cons_zero, List.set_cons_succ]
        refine wpAnyK_take0 7 (v := ?v42) rfl (by kernel_rfl) (fun _ _ _ h => h) (Or.inl ⟨by rfl, ?hy42⟩) (fun _ => hHeld) ?_
        case hy42 => (intro w hSw; go_simp; try with_reducible rfl)
        try simp only [Act.put, List.setIfInBounds_toArray, List.set_cons_zero, List.set_cons_succ]
        refine wpAnyK_step 9 rfl (by kernel_rfl) (fun K hK => ?_)
        rw [if_pos (by kernel_rfl)]
        refine wp_store_row 26 _ _ rfl (wfa.heap.size) #[.slice none 0 0, .slice none 0 0, .bool true] rfl rfl 26 #[.slice none 0 0, .slice none 0 0, .bool false] (HZb2.out) (by kernel_rfl) rfl (by simp [Value.oneCell']) ?_
        refine hK.out _ _ ?hk43 ?_
        case hk43 => exact (fun h => nomatch (h.symm.trans (show _ = true by kernel_rfl)))
        clear hK K
        try simp only [Act.put]
        refine wpAnyK_take0 10 (v := ?v44) rfl (by kernel_rfl) (fun _ _ _ h => h) (Or.inl ⟨by rfl, ?hy44⟩) (fun h => nomatch (h.symm.trans (show _ = true by kernel_rfl))) ?_
        case hy44 => (intro w hSw; go_simp; try with_reducible rfl)
        try simp only [Act.put, List.setIfInBounds_toArray, List.set_cons_zero, List.set_cons_succ]
        refine wpAnyK_done (by kernel_rfl) ?_ _
        go_wp2_with fail
        go_meet
        have hb := But.setRow wgb (wfa.heap.size) #[.slice none 0 0, .slice none 0 0, .bool true]
        have hbF : Below wv14.drew.heap.size wv14.drew _ := HBb2.out.trans (hb.below HBb2.out.size (show wv14.drew.heap.size ≤ wfa.heap.size from HBa1.out.size))
        exact ⟨_, wfa.heap.size, rfl, rfl, rfl, Lf.addb (HD.out.below hbF) (setRow_heap _ _ _ _ _ _ HZb2.out)⟩
    · go_simp
      have hzc : Below wv14.drew.heap.size wv14.drew (wv14.drew.alloc (.cells #[.slice none 0 0, .slice none 0 0, .bool false] 26)) := alloc_below _ _
      have HAc : Hid (Below wv14.drew.heap.size wv14.drew (wv14.drew.alloc (.cells #[.slice none 0 0, .slice none 0 0, .bool false] 26))) := HBd.out.trans (hzc.mono HBd.out.size)
      have HZc : Hid (Bl 26 (wv14.drew.alloc (.cells #[.slice none 0 0, .slice none 0 0, .bool false] 26)) wv14.drew.heap.size [.slice none 0 0, .slice none 0 0, .bool false]) := alloc_bl wv14.drew [.slice none 0 0, .slice none 0 0, .bool false] 26
      try dsimp only
      refine hK.out _ _ ?hk46 ?_
      case hk46 => exact fun _ => ⟨(HD.out.below HAc.out).cell 6 0 (Nat.le_of_ble_eq_true rfl) (Nat.le_of_ble_eq_true rfl), (HD.out.below HAc.out).cell 6 1 (Nat.le_of_ble_eq_true rfl) (Nat.le_of_ble_eq_true rfl), (HD.out.below HAc.out).cell 6 2 (Nat.le_of_ble_eq_true rfl) (Nat.le_of_ble_eq_true rfl)⟩
      have hHeld : ((fun (w' : World) => w'.cell? ⟨w.heap.size, 0, none⟩ = some (.slice x0 x1 x2) ∧ w'.cell? ⟨w.heap.size, 1, none⟩ = some (.slice y0 y1 y2) ∧ w'.cell? ⟨w.heap.size, 2, none⟩ = some (.bool inf))) _ := ⟨(HD.out.below HAc.out).cell 6 0 (Nat.le_of_ble_eq_true rfl) (Nat.le_of_ble_eq_true rfl), (HD.out.below HAc.out).cell 6 1 (Nat.le_of_ble_eq_true rfl) (Nat.le_of_ble_eq_true rfl), (HD.out.below HAc.out).cell 6 2 (Nat.le_of_ble_eq_true rfl) (Nat.le_of_ble_eq_true rfl)⟩
      clear hK K
      try simp only [Act.put, List.setIfInBounds_toArray, List.set_cons_zero, List.set_cons_succ]
      refine wpAnyK_step 2 rfl (by kernel_rfl) (fun K hK => ?_)
      go_simp
      refine (order_v hk _).mono ?_
      rintro e wfc ⟨rS, rfl, mN, hBp⟩
      have HSc : Hid (Nu wfc rS n) := mN.nk.1
      clear mN
      have HBc1 : Hid (Below wv14.drew.heap.size wv14.drew wfc) := HAc.out.trans (hBp.mono HAc.out.size)
      have HZc1 : Hid (Bl 26 wfc wv14.drew.heap.size [.slice none 0 0, .slice none 0 0, .bool false]) := HZc.out.below hBp HZc.out.lt
      clear hBp
      try dsimp only
      refine hK.out _ _ ?hk47 ?_
      case hk47 => exact fun _ => ⟨(HD.out.below HBc1.out).cell 6 0 (Nat.le_of_ble_eq_true rfl) (Nat.le_of_ble_eq_true rfl), (HD.out.below HBc1.out).cell 6 1 (Nat.le_of_ble_eq_true rfl) (Nat.le_of_ble_eq_true rfl), (HD.out.below HBc1.out).cell 6 2 (Nat.le_of_ble_eq_true rfl) (Nat.le_of_ble_eq_true rfl)⟩
      have hHeld : ((fun (w' : World) => w'.cell? ⟨w.heap.size, 0, none⟩ = some (.slice x0 x1 x2) ∧ w'.cell? ⟨w.heap.size, 1, none⟩ = some (.slice y0 y1 y2) ∧ w'.cell? ⟨w.heap.size, 2, none⟩ = some (.bool inf))) _ := ⟨(HD.out.below HBc1.out).cell 6 0 (Nat.le_of_ble_eq_true rfl) (Nat.le_of_ble_eq_true rfl), (HD.out.below HBc1.out).cell 6 1 (Nat.le_of_ble_eq_true rfl) (Nat.le_of_ble_eq_true rfl), (HD.out.below HBc1.out).cell 6 2 (Nat.le_of_ble_eq_true rfl) (Nat.le_of_ble_eq_true rfl)⟩
      clear hK K
      try simp only [Act.put, List.setIfInBounds_toArray, List.set_cons_zero, List.set_cons_succ]
      refine wpAnyK_step 4 rfl (by kernel_rfl) (fun K hK => ?_)
      go_simp
      refine (mul_ok hk _ _ _ n X Y inf _ HSc.out ((HD.out.below HBc1.out).arg 2 (Nat.le_of_ble_eq_true rfl)) ((HD.out.below HBc1.out).arg 3 (Nat.le_of_ble_eq_true rfl)) o1 (bl_n hk)).mono ?_
      rintro e wgc ⟨r, rfl, hPa⟩
      rw [hk.mn0] at hPa
      obtain ⟨rfl, hBp⟩ := hPa
      have HBc2 : Hid (Below wv14.drew.heap.size wv14.drew wgc) := HBc1.out.trans (hBp.mono HBc1.out.size)
      have HZc2 : Hid (Bl 26 wgc wv14.drew.heap.size [.slice none 0 0, .slice none 0 0, .bool false]) := HZc1.out.below hBp HZc1.out.lt
      clear hBp
      try dsimp only
      refine hK.out _ _ ?hk48 ?_
      case hk48 => exact fun _ => ⟨(HD.out.below HBc2.out).cell 6 0 (Nat.le_of_ble_eq_true rfl) (Nat.le_of_ble_eq_true rfl), (HD.out.below HBc2.out).cell 6 1 (Nat.le_of_ble_eq_true rfl) (Nat.le_of_ble_eq_true rfl), (HD.out.below HBc2.out).cell 6 2 (Nat.le_of_ble_eq_true rfl) (Nat.le_of_ble_eq_true rfl)⟩
      have hHeld : ((fun (w' : World) => w'.cell? ⟨w.heap.size, 0, none⟩ = some (.slice x0 x1 x2) ∧ w'.cell? ⟨w.heap.size, 1, none⟩ = some (.slice y0 y1 y2) ∧ w'.cell? ⟨w.heap.size, 2, none⟩ = some (.bool inf))) _ := ⟨(HD.out.below HBc2.out).cell 6 0 (Nat.le_of_ble_eq_true rfl) (Nat.le_of_ble_eq_true rfl), (HD.out.below HBc2.out).cell 6 1 (Nat.le_of_ble_eq_true rfl) (Nat.le_of_ble_eq_true rfl), (HD.out.below HBc2.out).cell 6 2 (Nat.le_of_ble_eq_true rfl) (Nat.le_of_ble_eq_true rfl)⟩
      clear hK K
      try simp only [Act.put, List.setIfInBounds_toArray, List.set_cons_zero, List.set_cons_succ]
      refine wpAnyK_take0 5 (v := ?v49) rfl (by kernel_rfl) (fun _ _ _ h => h) (Or.inl ⟨by rfl, ?hy49⟩) (fun _ => hHeld) ?_
      case hy49 => (intro w hSw; go_simp; try with_reducible rfl)
      try simp only [Act.put, List.setIfInBounds_toArray, List.set_cons_zero, List.set_cons_succ]
      refine wpAnyK_take0 6 (v := ?v50) rfl (by kernel_rfl) (fun _ _ _ h => h) (Or.inl ⟨by rfl, ?hy50⟩) (fun _ => hHeld) ?_
      case hy50 => (intro w hSw; go_simp; try with_reducible rfl)
      try simp only [Act.put, List.setIfInBounds_toArray, List.set_cons_zero, List.set_cons_succ]
      refine wpAnyK_take0 7 (v := ?v51) rfl (by kernel_rfl) (fun _ _ _ h => h) (Or.inl ⟨by rfl, ?hy51⟩) (fun _ => hHeld) ?_
      case hy51 => (intro w hSw; go_simp; try with_reducible rfl)
      try simp only [Act.put, List.setIfInBounds_toArray, List.set_cons_zero, List.set_cons_succ]
      refine wpAnyK_step 9 rfl (by kernel_rfl) (fun K hK => ?_)
      rw [if_pos (by kernel_rfl)]
      refine wp_store_row 26 _ _ rfl (wv14.drew.heap.size) #[.slice none 0 0, .slice none 0 0, .bool true] rfl rfl 26 #[.slice none 0 0, .slice none 0 0, .bool false] (HZc2.out) (by kernel_rfl) rfl (by simp [Value.oneCell']) ?_
      refine hK.out _ _ ?hk52 ?_
      case hk52 => exact (fun h => nomatch (h.symm.trans (show _ = true by kernel_rfl)))
      clear hK K
      try simp only [Act.put]
      refine wpAnyK_take0 10 (v := ?v53) rfl (by kernel_rfl) (fun _ _ _ h => h) (Or.inl ⟨by rfl, ?hy53⟩) (fun h => nomatch (h.symm.trans (show _ = true by kernel_rfl))) ?_
      case hy53 => (intro w hSw; go_simp; try with_reducible rfl)
      try simp only [Act.put, List.setIfInBounds_toArray, List.set_cons_zero, List.set_cons_succ]
      refine wpAnyK_done (by kernel_rfl) ?_ _
      go_wp2_with fail
      go_meet
      have hb := But.setRow wgc (wv14.drew.heap.size) #[.slice none 0 0, .slice none 0 0, .bool true]
      have hbF : Below wv14.drew.heap.size wv14.drew _ := HBc2.out.trans (hb.below HBc2.out.size (show wv14.drew.heap.size ≤ wv14.drew.heap.size from Nat.le_refl _))
      exact ⟨_, wv14.drew.heap.size, rfl, rfl, rfl, Lf.addb (HD.out.below hbF) (setRow_heap _ _ _ _ _ _ HZc2.out)⟩
  obtain ⟨wl, g7, rfl, rfl, rfl, HC7⟩ := hcut
  have k0_0 : wl.cell? ⟨w.heap.size, 0, none⟩ = some (.slice x0 x1 x2) := HC7.out.cell 7 0 (Nat.le_of_ble_eq_true rfl) (Nat.le_of_ble_eq_true rfl)
  have k0_1 : wl.cell? ⟨w.heap.size, 1, none⟩ = some (.slice y0 y1 y2) := HC7.out.cell 7 1 (Nat.le_of_ble_eq_true rfl) (Nat.le_of_ble_eq_true rfl)
  have k0_2 : wl.cell? ⟨w.heap.size, 2, none⟩ = some (.bool inf) := HC7.out.cell 7 2 (Nat.le_of_ble_eq_true rfl) (Nat.le_of_ble_eq_true rfl)
  have k5_0 : wl.cell? ⟨wi.heap.size, 0, none⟩ = some (.slice none 0 0) := HC7.out.cell 2 0 (Nat.le_of_ble_eq_true rfl) (Nat.le_of_ble_eq_true rfl)
  have k5_1 : wl.cell? ⟨wi.heap.size, 1, none⟩ = some (.slice none 0 0) := HC7.out.cell 2 1 (Nat.le_of_ble_eq_true rfl) (Nat.le_of_ble_eq_true rfl)
  have k5_2 : wl.cell? ⟨wi.heap.size, 2, none⟩ = some (.bool true) := HC7.out.cell 2 2 (Nat.le_of_ble_eq_true rfl) (Nat.le_of_ble_eq_true rfl)
  go_wp2_with fail
  clear k0_0 k0_1 k0_2 k5_0 k5_1 k5_2
  refine (add_ok hk _ _ _ _ X Y 0 0 inf true _ (HC7.out.arg 2 (Nat.le_of_ble_eq_true rfl)) (HC7.out.arg 3 (Nat.le_of_ble_eq_true rfl)) (Nk.none _ 384).1 (Nk.none _ 384).1 o1 (show onB p b 0 0 true = true from rfl)).mono ?_
  rintro e wm ⟨r, rfl, hPa⟩
  rw [show ptO 0 0 true = .O from rfl, C0.zr oP] at hPa
  have hB := hPa.bel
  obtain ⟨x8_0, y8_0, x8_1, x8_2, y8_1, y8_2, X8, Y8, f8, rfl, m1, m2, hpt, hz⟩ := hPa.open
  have E8 : Hid (ptO X8 Y8 f8 = (ptO X Y inf) ∧ (f8 = true → X8 = 0 ∧ Y8 = 0)) := ⟨hpt, hz⟩
  have Hwm : Hid (Lf w wm [(g7, [.slice none 0 0, .slice none 0 0, .bool true]), (wj.heap.size, [.slice x6_0 x6_1 x6_2, .slice y6_0 y6_1 y6_2, .bool f6]), (wi.heap.size, [.slice none 0 0, .slice none 0 0, .bool true]), (g4, [.slice x4_0 x4_1 x4_2, .slice y4_0 y4_1 y4_2, .bool f4]), (we.heap.size, [.slice x3_0 x3_1 x3_2, .slice y3_0 y3_1 y3_2, .bool f3]), (wd.heap.size, [.slice x2_0 x2_1 x2_2, .slice y2_0 y2_1 y2_2, .bool f2]), (wc.heap.size, [.slice x1_0 x1_1 x1_2, .slice y1_0 y1_1 y1_2, .bool f1]), (w.heap.size, [.slice x0 x1 x2, .slice y0 y1 y2, .bool inf])] [(.slice a0 a1 a2, A), (.slice d0 d1 d2, B), (.slice x0 x1 x2, X), (.slice y0 y1 y2, Y)] [(.slice y8_0 y8_1 y8_2, Y8), (.slice x8_0 x8_1 x8_2, X8), (.slice y6_0 y6_1 y6_2, Y6), (.slice x6_0 x6_1 x6_2, X6), (.slice y4_0 y4_1 y4_2, Y4), (.slice x4_0 x4_1 x4_2, X4), (.slice y3_0 y3_1 y3_2, Y3), (.slice x3_0 x3_1 x3_2, X3), (.slice y2_0 y2_1 y2_2, Y2), (.slice x2_0 x2_1 x2_2, X2), (.slice y1_0 y1_1 y1_2, Y1), (.slice x1_0 x1_1 x1_2, X1)]) := (((HC7.out.below hB).res m1).res m2)
  clear hB m1 m2 hpt hz
  have HB8 : Hid (Lf w (wm.alloc (.cells #[.slice x8_0 x8_1 x8_2, .slice y8_0 y8_1 y8_2, .bool f8] 26)) [(wm.heap.size, [.slice x8_0 x8_1 x8_2, .slice y8_0 y8_1 y8_2, .bool f8]), (g7, [.slice none 0 0, .slice none 0 0, .bool true]), (wj.heap.size, [.slice x6_0 x6_1 x6_2, .slice y6_0 y6_1 y6_2, .bool f6]), (wi.heap.size, [.slice none 0 0, .slice none 0 0, .bool true]), (g4, [.slice x4_0 x4_1 x4_2, .slice y4_0 y4_1 y4_2, .bool f4]), (we.heap.size, [.slice x3_0 x3_1 x3_2, .slice y3_0 y3_1 y3_2, .bool f3]), (wd.heap.size, [.slice x2_0 x2_1 x2_2, .slice y2_0 y2_1 y2_2, .bool f2]), (wc.heap.size, [.slice x1_0 x1_1 x1_2, .slice y1_0 y1_1 y1_2, .bool f1]), (w.heap.size, [.slice x0 x1 x2, .slice y0 y1 y2, .bool inf])] [(.slice a0 a1 a2, A), (.slice d0 d1 d2, B), (.slice x0 x1 x2, X), (.slice y0 y1 y2, Y)] [(.slice y8_0 y8_1 y8_2, Y8), (.slice x8_0 x8_1 x8_2, X8), (.slice y6_0 y6_1 y6_2, Y6), (.slice x6_0 x6_1 x6_2, X6), (.slice y4_0 y4_1 y4_2, Y4), (.slice x4_0 x4_1 x4_2, X4), (.slice y3_0 y3_1 y3_2, Y3), (.slice x3_0 x3_1 x3_2, X3), (.slice y2_0 y2_1 y2_2, Y2), (.slice x2_0 x2_1 x2_2, X2), (.slice y1_0 y1_1 y1_2, Y1), (.slice x1_0 x1_1 x1_2, X1)]) := Hwm.out.box [.slice x8_0 x8_1 x8_2, .slice y8_0 y8_1 y8_2, .bool f8]
  go_wp2_with fail
  generalize (wm.alloc (.cells #[.slice x8_0 x8_1 x8_2, .slice y8_0 y8_1 y8_2, .bool f8] 26)) = wv16 at *
  refine (base_v hk _).mono ?_
  rintro e wn ⟨r, rfl, hPa⟩
  obtain ⟨⟨gxv, gyv, rfl, m1, m2, _⟩, hB⟩ := hPa
  obtain ⟨gx0, gx1, gx2, rfl⟩ := m1.nk.sl
  obtain ⟨gy0, gy1, gy2, rfl⟩ := m2.nk.sl
  have Hwn : Hid (Lf w wn [(wm.heap.size, [.slice x8_0 x8_1 x8_2, .slice y8_0 y8_1 y8_2, .bool f8]), (g7, [.slice none 0 0, .slice none 0 0, .bool true]), (wj.heap.size, [.slice x6_0 x6_1 x6_2, .slice y6_0 y6_1 y6_2, .bool f6]), (wi.heap.size, [.slice none 0 0, .slice none 0 0, .bool true]), (g4, [.slice x4_0 x4_1 x4_2, .slice y4_0 y4_1 y4_2, .bool f4]), (we.heap.size, [.slice x3_0 x3_1 x3_2, .slice y3_0 y3_1 y3_2, .bool f3]), (wd.heap.size, [.slice x2_0 x2_1 x2_2, .slice y2_0 y2_1 y2_2, .bool f2]), (wc.heap.size, [.slice x1_0 x1_1 x1_2, .slice y1_0 y1_1 y1_2, .bool f1]), (w.heap.size, [.slice x0 x1 x2, .slice y0 y1 y2, .bool inf])] [(.slice a0 a1 a2, A), (.slice d0 d1 d2, B), (.slice x0 x1 x2, X), (.slice y0 y1 y2, Y)] [(.slice gy0 gy1 gy2, gy), (.slice gx0 gx1 gx2, gx), (.slice y8_0 y8_1 y8_2, Y8), (.slice x8_0 x8_1 x8_2, X8), (.slice y6_0 y6_1 y6_2, Y6), (.slice x6_0 x6_1 x6_2, X6), (.slice y4_0 y4_1 y4_2, Y4), (.slice x4_0 x4_1 x4_2, X4), (.slice y3_0 y3_1 y3_2, Y3), (.slice x3_0 x3_1 x3_2, X3), (.slice y2_0 y2_1 y2_2, Y2), (.slice x2_0 x2_1 x2_2, X2), (.slice y1_0 y1_1 y1_2, Y1), (.slice x1_0 x1_1 x1_2, X1)]) := (((HB8.out.below hB).res m1).res m2)
  clear hB m1 m2
  go_wp2_with fail
  have oG := hk.on
  refine (mul_ok hk _ _ _ A gx gy false _ (Hwn.out.arg 0 (Nat.le_of_ble_eq_true rfl)) (Hwn.out.got 1 (Nat.le_of_ble_eq_true rfl)).nk.1 (Hwn.out.got 0 (Nat.le_of_ble_eq_true rfl)).nk.1 hk.base_on hA).mono ?_
  rintro e wo ⟨r, rfl, hPa⟩
  have hB := hPa.bel
  obtain ⟨x9_0, y9_0, x9_1, x9_2, y9_1, y9_2, X9, Y9, f9, rfl, m1, m2, hpt, hz⟩ := hPa.open
  have E9 : Hid (ptO X9 Y9 f9 = ml p (A % n) (.A gx gy) ∧ (f9 = true → X9 = 0 ∧ Y9 = 0)) := ⟨hpt, hz⟩
  have Hwo : Hid (Lf w wo [(wm.heap.size, [.slice x8_0 x8_1 x8_2, .slice y8_0 y8_1 y8_2, .bool f8]), (g7, [.slice none 0 0, .slice none 0 0, .bool true]), (wj.heap.size, [.slice x6_0 x6_1 x6_2, .slice y6_0 y6_1 y6_2, .bool f6]), (wi.heap.size, [.slice none 0 0, .slice none 0 0, .bool true]), (g4, [.slice x4_0 x4_1 x4_2, .slice y4_0 y4_1 y4_2, .bool f4]), (we.heap.size, [.slice x3_0 x3_1 x3_2, .slice y3_0 y3_1 y3_2, .bool f3]), (wd.heap.size, [.slice x2_0 x2_1 x2_2, .slice y2_0 y2_1 y2_2, .bool f2]), (wc.heap.size, [.slice x1_0 x1_1 x1_2, .slice y1_0 y1_1 y1_2, .bool f1]), (w.heap.size, [.slice x0 x1 x2, .slice y0 y1 y2, .bool inf])] [(.slice a0 a1 a2, A), (.slice d0 d1 d2, B), (.slice x0 x1 x2, X), (.slice y0 y1 y2, Y)] [(.slice y9_0 y9_1 y9_2, Y9), (.slice x9_0 x9_1 x9_2, X9), (.slice gy0 gy1 gy2, gy), (.slice gx0 gx1 gx2, gx), (.slice y8_0 y8_1 y8_2, Y8), (.slice x8_0 x8_1 x8_2, X8), (.slice y6_0 y6_1 y6_2, Y6), (.slice x6_0 x6_1 x6_2, X6), (.slice y4_0 y4_1 y4_2, Y4), (.slice x4_0 x4_1 x4_2, X4), (.slice y3_0 y3_1 y3_2, Y3), (.slice x3_0 x3_1 x3_2, X3), (.slice y2_0 y2_1 y2_2, Y2), (.slice x2_0 x2_1 x2_2, X2), (.slice y1_0 y1_1 y1_2, Y1), (.slice x1_0 x1_1 x1_2, X1)]) := (((Hwn.out.below hB).res m1).res m2)
  clear hB m1 m2 hpt hz
  have HB9 : Hid (Lf w (wo.alloc (.cells #[.slice x9_0 x9_1 x9_2, .slice y9_0 y9_1 y9_2, .bool f9] 26)) [(wo.heap.size, [.slice x9_0 x9_1 x9_2, .slice y9_0 y9_1 y9_2, .bool f9]), (wm.heap.size, [.slice x8_0 x8_1 x8_2, .slice y8_0 y8_1 y8_2, .bool f8]), (g7, [.slice none 0 0, .slice none 0 0, .bool true]), (wj.heap.size, [.slice x6_0 x6_1 x6_2, .slice y6_0 y6_1 y6_2, .bool f6]), (wi.heap.size, [.slice none 0 0, .slice none 0 0, .bool true]), (g4, [.slice x4_0 x4_1 x4_2, .slice y4_0 y4_1 y4_2, .bool f4]), (we.heap.size, [.slice x3_0 x3_1 x3_2, .slice y3_0 y3_1 y3_2, .bool f3]), (wd.heap.size, [.slice x2_0 x2_1 x2_2, .slice y2_0 y2_1 y2_2, .bool f2]), (wc.heap.size, [.slice x1_0 x1_1 x1_2, .slice y1_0 y1_1 y1_2, .bool f1]), (w.heap.size, [.slice x0 x1 x2, .slice y0 y1 y2, .bool inf])] [(.slice a0 a1 a2, A), (.slice d0 d1 d2, B), (.slice x0 x1 x2, X), (.slice y0 y1 y2, Y)] [(.slice y9_0 y9_1 y9_2, Y9), (.slice x9_0 x9_1 x9_2, X9), (.slice gy0 gy1 gy2, gy), (.slice gx0 gx1 gx2, gx), (.slice y8_0 y8_1 y8_2, Y8), (.slice x8_0 x8_1 x8_2, X8), (.slice y6_0 y6_1 y6_2, Y6), (.slice x6_0 x6_1 x6_2, X6), (.slice y4_0 y4_1 y4_2, Y4), (.slice x4_0 x4_1 x4_2, X4), (.slice y3_0 y3_1 y3_2, Y3), (.slice x3_0 x3_1 x3_2, X3), (.slice y2_0 y2_1 y2_2, Y2), (.slice x2_0 x2_1 x2_2, X2), (.slice y1_0 y1_1 y1_2, Y1), (.slice x1_0 x1_1 x1_2, X1)]) := Hwo.out.box [.slice x9_0 x9_1 x9_2, .slice y9_0 y9_1 y9_2, .bool f9]
  have k2_0 : (wo.alloc (.cells #[.slice x9_0 x9_1 x9_2, .slice y9_0 y9_1 y9_2, .bool f9] 26)).cell? ⟨wd.heap.size, 0, none⟩ = some (.slice x2_0 x2_1 x2_2) := HB9.out.cell 7 0 (Nat.le_of_ble_eq_true rfl) (Nat.le_of_ble_eq_true rfl)
  have k2_1 : (wo.alloc (.cells #[.slice x9_0 x9_1 x9_2, .slice y9_0 y9_1 y9_2, .bool f9] 26)).cell? ⟨wd.heap.size, 1, none⟩ = some (.slice y2_0 y2_1 y2_2) := HB9.out.cell 7 1 (Nat.le_of_ble_eq_true rfl) (Nat.le_of_ble_eq_true rfl)
  have k2_2 : (wo.alloc (.cells #[.slice x9_0 x9_1 x9_2, .slice y9_0 y9_1 y9_2, .bool f9] 26)).cell? ⟨wd.heap.size, 2, none⟩ = some (.bool f2) := HB9.out.cell 7 2 (Nat.le_of_ble_eq_true rfl) (Nat.le_of_ble_eq_true rfl)
  have k9_0 : (wo.alloc (.cells #[.slice x9_0 x9_1 x9_2, .slice y9_0 y9_1 y9_2, .bool f9] 26)).cell? ⟨wo.heap.size, 0, none⟩ = some (.slice x9_0 x9_1 x9_2) := HB9.out.cell 0 0 (Nat.le_of_ble_eq_true rfl) (Nat.le_of_ble_eq_true rfl)
  have k9_1 : (wo.alloc (.cells #[.slice x9_0 x9_1 x9_2, .slice y9_0 y9_1 y9_2, .bool f9] 26)).cell? ⟨wo.heap.size, 1, none⟩ = some (.slice y9_0 y9_1 y9_2) := HB9.out.cell 0 1 (Nat.le_of_ble_eq_true rfl) (Nat.le_of_ble_eq_true rfl)
  have k9_2 : (wo.alloc (.cells #[.slice x9_0 x9_1 x9_2, .slice y9_0 y9_1 y9_2, .bool f9] 26)).cell? ⟨wo.heap.size, 2, none⟩ = some (.bool f9) := HB9.out.cell 0 2 (Nat.le_of_ble_eq_true rfl) (Nat.le_of_ble_eq_true rfl)
  go_wp2_with fail
  clear k2_0 k2_1 k2_2 k9_0 k9_1 k9_2
  generalize (wo.alloc (.cells #[.slice x9_0 x9_1 x9_2, .slice y9_0 y9_1 y9_2, .bool f9] 26)) = wv19 at *
  refine (add_ok hk _ _ _ _ X9 Y9 X2 Y2 f9 f2 _ (HB9.out.got 1 (Nat.le_of_ble_eq_true rfl)).nk.1 (HB9.out.got 0 (Nat.le_of_ble_eq_true rfl)).nk.1 (HB9.out.got 13 (Nat.le_of_ble_eq_true rfl)).nk.1 (HB9.out.got 12 (Nat.le_of_ble_eq_true rfl)).nk.1 (onB_of HPM.out E9.out (C0.mon oG _)) (onB_of HPM.out E2.out (C0.mon oP _))).mono ?_
  rintro e wp ⟨r, rfl, hPa⟩
  rw [E9.out.1, E2.out.1] at hPa
  have hB := hPa.bel
  obtain ⟨x10_0, y10_0, x10_1, x10_2, y10_1, y10_2, X10, Y10, f10, rfl, m1, m2, hpt, hz⟩ := hPa.open
  have E10 : Hid (ptO X10 Y10 f10 = sm p (ml p (A % n) (.A gx gy)) (ml p (B % n) (ptO X Y inf)) ∧ (f10 = true → X10 = 0 ∧ Y10 = 0)) := ⟨hpt, hz⟩
  have Hwp : Hid (Lf w wp [(wo.heap.size, [.slice x9_0 x9_1 x9_2, .slice y9_0 y9_1 y9_2, .bool f9]), (wm.heap.size, [.slice x8_0 x8_1 x8_2, .slice y8_0 y8_1 y8_2, .bool f8]), (g7, [.slice none 0 0, .slice none 0 0, .bool true]), (wj.heap.size, [.slice x6_0 x6_1 x6_2, .slice y6_0 y6_1 y6_2, .bool f6]), (wi.heap.size, [.slice none 0 0, .slice none 0 0, .bool true]), (g4, [.slice x4_0 x4_1 x4_2, .slice y4_0 y4_1 y4_2, .bool f4]), (we.heap.size, [.slice x3_0 x3_1 x3_2, .slice y3_0 y3_1 y3_2, .bool f3]), (wd.heap.size, [.slice x2_0 x2_1 x2_2, .slice y2_0 y2_1 y2_2, .bool f2]), (wc.heap.size, [.slice x1_0 x1_1 x1_2, .slice y1_0 y1_1 y1_2, .bool f1]), (w.heap.size, [.slice x0 x1 x2, .slice y0 y1 y2, .bool inf])] [(.slice a0 a1 a2, A), (.slice d0 d1 d2, B), (.slice x0 x1 x2, X), (.slice y0 y1 y2, Y)] [(.slice y10_0 y10_1 y10_2, Y10), (.slice x10_0 x10_1 x10_2, X10), (.slice y9_0 y9_1 y9_2, Y9), (.slice x9_0 x9_1 x9_2, X9), (.slice gy0 gy1 gy2, gy), (.slice gx0 gx1 gx2, gx), (.slice y8_0 y8_1 y8_2, Y8), (.slice x8_0 x8_1 x8_2, X8), (.slice y6_0 y6_1 y6_2, Y6), (.slice x6_0 x6_1 x6_2, X6), (.slice y4_0 y4_1 y4_2, Y4), (.slice x4_0 x4_1 x4_2, X4), (.slice y3_0 y3_1 y3_2, Y3), (.slice x3_0 x3_1 x3_2, X3), (.slice y2_0 y2_1 y2_2, Y2), (.slice x2_0 x2_1 x2_2, X2), (.slice y1_0 y1_1 y1_2, Y1), (.slice x1_0 x1_1 x1_2, X1)]) := (((HB9.out.below hB).res m1).res m2)
  clear hB m1 m2 hpt hz
  have HB10 : Hid (Lf w (wp.alloc (.cells #[.slice x10_0 x10_1 x10_2, .slice y10_0 y10_1 y10_2, .bool f10] 26)) [(wp.heap.size, [.slice x10_0 x10_1 x10_2, .slice y10_0 y10_1 y10_2, .bool f10]), (wo.heap.size, [.slice x9_0 x9_1 x9_2, .slice y9_0 y9_1 y9_2, .bool f9]), (wm.heap.size, [.slice x8_0 x8_1 x8_2, .slice y8_0 y8_1 y8_2, .bool f8]), (g7, [.slice none 0 0, .slice none 0 0, .bool true]), (wj.heap.size, [.slice x6_0 x6_1 x6_2, .slice y6_0 y6_1 y6_2, .bool f6]), (wi.heap.size, [.slice none 0 0, .slice none 0 0, .bool true]), (g4, [.slice x4_0 x4_1 x4_2, .slice y4_0 y4_1 y4_2, .bool f4]), (we.heap.size, [.slice x3_0 x3_1 x3_2, .slice y3_0 y3_1 y3_2, .bool f3]), (wd.heap.size, [.slice x2_0 x2_1 x2_2, .slice y2_0 y2_1 y2_2, .bool f2]), (wc.heap.size, [.slice x1_0 x1_1 x1_2, .slice y1_0 y1_1 y1_2, .bool f1]), (w.heap.size, [.slice x0 x1 x2, .slice y0 y1 y2, .bool inf])] [(.slice a0 a1 a2, A), (.slice d0 d1 d2, B), (.slice x0 x1 x2, X), (.slice y0 y1 y2, Y)] [(.slice y10_0 y10_1 y10_2, Y10), (.slice x10_0 x10_1 x10_2, X10), (.slice y9_0 y9_1 y9_2, Y9), (.slice x9_0 x9_1 x9_2, X9), (.slice gy0 gy1 gy2, gy), (.slice gx0 gx1 gx2, gx), (.slice y8_0 y8_1 y8_2, Y8), (.slice x8_0 x8_1 x8_2, X8), (.slice y6_0 y6_1 y6_2, Y6), (.slice x6_0 x6_1 x6_2, X6), (.slice y4_0 y4_1 y4_2, Y4), (.slice x4_0 x4_1 x4_2, X4), (.slice y3_0 y3_1 y3_2, Y3), (.slice x3_0 x3_1 x3_2, X3), (.slice y2_0 y2_1 y2_2, Y2), (.slice x2_0 x2_1 x2_2, X2), (.slice y1_0 y1_1 y1_2, Y1), (.slice x1_0 x1_1 x1_2, X1)]) := Hwp.out.box [.slice x10_0 x10_1 x10_2, .slice y10_0 y10_1 y10_2, .bool f10]
  have k0_0 : (wp.alloc (.cells #[.slice x10_0 x10_1 x10_2, .slice y10_0 y10_1 y10_2, .bool f10] 26)).cell? ⟨w.heap.size, 0, none⟩ = some (.slice x0 x1 x2) := HB10.out.cell 10 0 (Nat.le_of_ble_eq_true rfl) (Nat.le_of_ble_eq_true rfl)
  have k0_1 : (wp.alloc (.cells #[.slice x10_0 x10_1 x10_2, .slice y10_0 y10_1 y10_2, .bool f10] 26)).cell? ⟨w.heap.size, 1, none⟩ = some (.slice y0 y1 y2) := HB10.out.cell 10 1 (Nat.le_of_ble_eq_true rfl) (Nat.le_of_ble_eq_true rfl)
  have k0_2 : (wp.alloc (.cells #[.slice x10_0 x10_1 x10_2, .slice y10_0 y10_1 y10_2, .bool f10] 26)).cell? ⟨w.heap.size, 2, none⟩ = some (.bool inf) := HB10.out.cell 10 2 (Nat.le_of_ble_eq_true rfl) (Nat.le_of_ble_eq_true rfl)
  go_wp2_with fail
  clear k0_0 k0_1 k0_2
  generalize (wp.alloc (.cells #[.slice x10_0 x10_1 x10_2, .slice y10_0 y10_1 y10_2, .bool f10] 26)) = wv21 at *
  refine (joint_ok hk _ _ _ _ A B X Y inf _ (HB10.out.arg 0 (Nat.le_of_ble_eq_true rfl)) (HB10.out.arg 1 (Nat.le_of_ble_eq_true rfl)) (HB10.out.arg 2 (Nat.le_of_ble_eq_true rfl)) (HB10.out.arg 3 (Nat.le_of_ble_eq_true rfl)) o1 hA hBl).mono ?_
  rintro e wq ⟨r, rfl, hPa⟩
  have hB := hPa.bel
  obtain ⟨x11_0, y11_0, x11_1, x11_2, y11_1, y11_2, X11, Y11, f11, rfl, m1, m2, hpt, hz⟩ := hPa.open
  have E11 : Hid (ptO X11 Y11 f11 = sm p (ml p (A % n) (.A gx gy)) (ml p (B % n) (ptO X Y inf)) ∧ (f11 = true → X11 = 0 ∧ Y11 = 0)) := ⟨hpt, hz⟩
  have Hwq : Hid (Lf w wq [(wp.heap.size, [.slice x10_0 x10_1 x10_2, .slice y10_0 y10_1 y10_2, .bool f10]), (wo.heap.size, [.slice x9_0 x9_1 x9_2, .slice y9_0 y9_1 y9_2, .bool f9]), (wm.heap.size, [.slice x8_0 x8_1 x8_2, .slice y8_0 y8_1 y8_2, .bool f8]), (g7, [.slice none 0 0, .slice none 0 0, .bool true]), (wj.heap.size, [.slice x6_0 x6_1 x6_2, .slice y6_0 y6_1 y6_2, .bool f6]), (wi.heap.size, [.slice none 0 0, .slice none 0 0, .bool true]), (g4, [.slice x4_0 x4_1 x4_2, .slice y4_0 y4_1 y4_2, .bool f4]), (we.heap.size, [.slice x3_0 x3_1 x3_2, .slice y3_0 y3_1 y3_2, .bool f3]), (wd.heap.size, [.slice x2_0 x2_1 x2_2, .slice y2_0 y2_1 y2_2, .bool f2]), (wc.heap.size, [.slice x1_0 x1_1 x1_2, .slice y1_0 y1_1 y1_2, .bool f1]), (w.heap.size, [.slice x0 x1 x2, .slice y0 y1 y2, .bool inf])] [(.slice a0 a1 a2, A), (.slice d0 d1 d2, B), (.slice x0 x1 x2, X), (.slice y0 y1 y2, Y)] [(.slice y11_0 y11_1 y11_2, Y11), (.slice x11_0 x11_1 x11_2, X11), (.slice y10_0 y10_1 y10_2, Y10), (.slice x10_0 x10_1 x10_2, X10), (.slice y9_0 y9_1 y9_2, Y9), (.slice x9_0 x9_1 x9_2, X9), (.slice gy0 gy1 gy2, gy), (.slice gx0 gx1 gx2, gx), (.slice y8_0 y8_1 y8_2, Y8), (.slice x8_0 x8_1 x8_2, X8), (.slice y6_0 y6_1 y6_2, Y6), (.slice x6_0 x6_1 x6_2, X6), (.slice y4_0 y4_1 y4_2, Y4), (.slice x4_0 x4_1 x4_2, X4), (.slice y3_0 y3_1 y3_2, Y3), (.slice x3_0 x3_1 x3_2, X3), (.slice y2_0 y2_1 y2_2, Y2), (.slice x2_0 x2_1 x2_2, X2), (.slice y1_0 y1_1 y1_2, Y1), (.slice x1_0 x1_1 x1_2, X1)]) := (((HB10.out.below hB).res m1).res m2)
  clear hB m1 m2 hpt hz
  have HB11 : Hid (Lf w (wq.alloc (.cells #[.slice x11_0 x11_1 x11_2, .slice y11_0 y11_1 y11_2, .bool f11] 26)) [(wq.heap.size, [.slice x11_0 x11_1 x11_2, .slice y11_0 y11_1 y11_2, .bool f11]), (wp.heap.size, [.slice x10_0 x10_1 x10_2, .slice y10_0 y10_1 y10_2, .bool f10]), (wo.heap.size, [.slice x9_0 x9_1 x9_2, .slice y9_0 y9_1 y9_2, .bool f9]), (wm.heap.size, [.slice x8_0 x8_1 x8_2, .slice y8_0 y8_1 y8_2, .bool f8]), (g7, [.slice none 0 0, .slice none 0 0, .bool true]), (wj.heap.size, [.slice x6_0 x6_1 x6_2, .slice y6_0 y6_1 y6_2, .bool f6]), (wi.heap.size, [.slice none 0 0, .slice none 0 0, .bool true]), (g4, [.slice x4_0 x4_1 x4_2, .slice y4_0 y4_1 y4_2, .bool f4]), (we.heap.size, [.slice x3_0 x3_1 x3_2, .slice y3_0 y3_1 y3_2, .bool f3]), (wd.heap.size, [.slice x2_0 x2_1 x2_2, .slice y2_0 y2_1 y2_2, .bool f2]), (wc.heap.size, [.slice x1_0 x1_1 x1_2, .slice y1_0 y1_1 y1_2, .bool f1]), (w.heap.size, [.slice x0 x1 x2, .slice y0 y1 y2, .bool inf])] [(.slice a0 a1 a2, A), (.slice d0 d1 d2, B), (.slice x0 x1 x2, X), (.slice y0 y1 y2, Y)] [(.slice y11_0 y11_1 y11_2, Y11), (.slice x11_0 x11_1 x11_2, X11), (.slice y10_0 y10_1 y10_2, Y10), (.slice x10_0 x10_1 x10_2, X10), (.slice y9_0 y9_1 y9_2, Y9), (.slice x9_0 x9_1 x9_2, X9), (.slice gy0 gy1 gy2, gy), (.slice gx0 gx1 gx2, gx), (.slice y8_0 y8_1 y8_2, Y8), (.slice x8_0 x8_1 x8_2, X8), (.slice y6_0 y6_1 y6_2, Y6), (.slice x6_0 x6_1 x6_2, X6), (.slice y4_0 y4_1 y4_2, Y4), (.slice x4_0 x4_1 x4_2, X4), (.slice y3_0 y3_1 y3_2, Y3), (.slice x3_0 x3_1 x3_2, X3), (.slice y2_0 y2_1 y2_2, Y2), (.slice x2_0 x2_1 x2_2, X2), (.slice y1_0 y1_1 y1_2, Y1), (.slice x1_0 x1_1 x1_2, X1)]) := Hwq.out.box [.slice x11_0 x11_1 x11_2, .slice y11_0 y11_1 y11_2, .bool f11]
  have k5_0 : (wq.alloc (.cells #[.slice x11_0 x11_1 x11_2, .slice y11_0 y11_1 y11_2, .bool f11] 26)).cell? ⟨wi.heap.size, 0, none⟩ = some (.slice none 0 0) := HB11.out.cell 6 0 (Nat.le_of_ble_eq_true rfl) (Nat.le_of_ble_eq_true rfl)
  have k5_1 : (wq.alloc (.cells #[.slice x11_0 x11_1 x11_2, .slice y11_0 y11_1 y11_2, .bool f11] 26)).cell? ⟨wi.heap.size, 1, none⟩ = some (.slice none 0 0) := HB11.out.cell 6 1 (Nat.le_of_ble_eq_true rfl) (Nat.le_of_ble_eq_true rfl)
  have k5_2 : (wq.alloc (.cells #[.slice x11_0 x11_1 x11_2, .slice y11_0 y11_1 y11_2, .bool f11] 26)).cell? ⟨wi.heap.size, 2, none⟩ = some (.bool true) := HB11.out.cell 6 2 (Nat.le_of_ble_eq_true rfl) (Nat.le_of_ble_eq_true rfl)
  have k6_0 : (wq.alloc (.cells #[.slice x11_0 x11_1 x11_2, .slice y11_0 y11_1 y11_2, .bool f11] 26)).cell? ⟨wj.heap.size, 0, none⟩ = some (.slice x6_0 x6_1 x6_2) := HB11.out.cell 5 0 (Nat.le_of_ble_eq_true rfl) (Nat.le_of_ble_eq_true rfl)
  have k6_1 : (wq.alloc (.cells #[.slice x11_0 x11_1 x11_2, .slice y11_0 y11_1 y11_2, .bool f11] 26)).cell? ⟨wj.heap.size, 1, none⟩ = some (.slice y6_0 y6_1 y6_2) := HB11.out.cell 5 1 (Nat.le_of_ble_eq_true rfl) (Nat.le_of_ble_eq_true rfl)
  have k6_2 : (wq.alloc (.cells #[.slice x11_0 x11_1 x11_2, .slice y11_0 y11_1 y11_2, .bool f11] 26)).cell? ⟨wj.heap.size, 2, none⟩ = some (.bool f6) := HB11.out.cell 5 2 (Nat.le_of_ble_eq_true rfl) (Nat.le_of_ble_eq_true rfl)
  have k7_0 : (wq.alloc (.cells #[.slice x11_0 x11_1 x11_2, .slice y11_0 y11_1 y11_2, .bool f11] 26)).cell? ⟨g7, 0, none⟩ = some (.slice none 0 0) := HB11.out.cell 4 0 (Nat.le_of_ble_eq_true rfl) (Nat.le_of_ble_eq_true rfl)
  have k7_1 : (wq.alloc (.cells #[.slice x11_0 x11_1 x11_2, .slice y11_0 y11_1 y11_2, .bool f11] 26)).cell? ⟨g7, 1, none⟩ = some (.slice none 0 0) := HB11.out.cell 4 1 (Nat.le_of_ble_eq_true rfl) (Nat.le_of_ble_eq_true rfl)
  have k7_2 : (wq.alloc (.cells #[.slice x11_0 x11_1 x11_2, .slice y11_0 y11_1 y11_2, .bool f11] 26)).cell? ⟨g7, 2, none⟩ = some (.bool true) := HB11.out.cell 4 2 (Nat.le_of_ble_eq_true rfl) (Nat.le_of_ble_eq_true rfl)
  have k8_0 : (wq.alloc (.cells #[.slice x11_0 x11_1 x11_2, .slice y11_0 y11_1 y11_2, .bool f11] 26)).cell? ⟨wm.heap.size, 0, none⟩ = some (.slice x8_0 x8_1 x8_2) := HB11.out.cell 3 0 (Nat.le_of_ble_eq_true rfl) (Nat.le_of_ble_eq_true rfl)
  have k8_1 : (wq.alloc (.cells #[.slice x11_0 x11_1 x11_2, .slice y11_0 y11_1 y11_2, .bool f11] 26)).cell? ⟨wm.heap.size, 1, none⟩ = some (.slice y8_0 y8_1 y8_2) := HB11.out.cell 3 1 (Nat.le_of_ble_eq_true rfl) (Nat.le_of_ble_eq_true rfl)
  have k8_2 : (wq.alloc (.cells #[.slice x11_0 x11_1 x11_2, .slice y11_0 y11_1 y11_2, .bool f11] 26)).cell? ⟨wm.heap.size, 2, none⟩ = some (.bool f8) := HB11.out.cell 3 2 (Nat.le_of_ble_eq_true rfl) (Nat.le_of_ble_eq_true rfl)
  go_wp2_with fail
  clear k5_0 k5_1 k5_2 k6_0 k6_1 k6_2 k7_0 k7_1 k7_2 k8_0 k8_1 k8_2
  generalize (wq.alloc (.cells #[.slice x11_0 x11_1 x11_2, .slice y11_0 y11_1 y11_2, .bool f11] 26)) = wv23 at *
  refine (same_pt _ _ _ _ X6 Y6 X8 Y8 f6 f8 _ _ (HB11.out.got 11 (Nat.le_of_ble_eq_true rfl)) (HB11.out.got 10 (Nat.le_of_ble_eq_true rfl)) (HB11.out.got 9 (Nat.le_of_ble_eq_true rfl)) (HB11.out.got 8 (Nat.le_of_ble_eq_true rfl)) E6.out E8.out).mono ?_
  rintro e wr ⟨rfl, hB⟩
  have Hwr : Hid (Lf w wr [(wq.heap.size, [.slice x11_0 x11_1 x11_2, .slice y11_0 y11_1 y11_2, .bool f11]), (wp.heap.size, [.slice x10_0 x10_1 x10_2, .slice y10_0 y10_1 y10_2, .bool f10]), (wo.heap.size, [.slice x9_0 x9_1 x9_2, .slice y9_0 y9_1 y9_2, .bool f9]), (wm.heap.size, [.slice x8_0 x8_1 x8_2, .slice y8_0 y8_1 y8_2, .bool f8]), (g7, [.slice none 0 0, .slice none 0 0, .bool true]), (wj.heap.size, [.slice x6_0 x6_1 x6_2, .slice y6_0 y6_1 y6_2, .bool f6]), (wi.heap.size, [.slice none 0 0, .slice none 0 0, .bool true]), (g4, [.slice x4_0 x4_1 x4_2, .slice y4_0 y4_1 y4_2, .bool f4]), (we.heap.size, [.slice x3_0 x3_1 x3_2, .slice y3_0 y3_1 y3_2, .bool f3]), (wd.heap.size, [.slice x2_0 x2_1 x2_2, .slice y2_0 y2_1 y2_2, .bool f2]), (wc.heap.size, [.slice x1_0 x1_1 x1_2, .slice y1_0 y1_1 y1_2, .bool f1]), (w.heap.size, [.slice x0 x1 x2, .slice y0 y1 y2, .bool inf])] [(.slice a0 a1 a2, A), (.slice d0 d1 d2, B), (.slice x0 x1 x2, X), (.slice y0 y1 y2, Y)] [(.slice y11_0 y11_1 y11_2, Y11), (.slice x11_0 x11_1 x11_2, X11), (.slice y10_0 y10_1 y10_2, Y10), (.slice x10_0 x10_1 x10_2, X10), (.slice y9_0 y9_1 y9_2, Y9), (.slice x9_0 x9_1 x9_2, X9), (.slice gy0 gy1 gy2, gy), (.slice gx0 gx1 gx2, gx), (.slice y8_0 y8_1 y8_2, Y8), (.slice x8_0 x8_1 x8_2, X8), (.slice y6_0 y6_1 y6_2, Y6), (.slice x6_0 x6_1 x6_2, X6), (.slice y4_0 y4_1 y4_2, Y4), (.slice x4_0 x4_1 x4_2, X4), (.slice y3_0 y3_1 y3_2, Y3), (.slice x3_0 x3_1 x3_2, X3), (.slice y2_0 y2_1 y2_2, Y2), (.slice x2_0 x2_1 x2_2, X2), (.slice y1_0 y1_1 y1_2, Y1), (.slice x1_0 x1_1 x1_2, X1)]) := (HB11.out.below hB)
  clear hB
  have k10_0 : wr.cell? ⟨wp.heap.size, 0, none⟩ = some (.slice x10_0 x10_1 x10_2) := Hwr.out.cell 1 0 (Nat.le_of_ble_eq_true rfl) (Nat.le_of_ble_eq_true rfl)
  have k10_1 : wr.cell? ⟨wp.heap.size, 1, none⟩ = some (.slice y10_0 y10_1 y10_2) := Hwr.out.cell 1 1 (Nat.le_of_ble_eq_true rfl) (Nat.le_of_ble_eq_true rfl)
  have k10_2 : wr.cell? ⟨wp.heap.size, 2, none⟩ = some (.bool f10) := Hwr.out.cell 1 2 (Nat.le_of_ble_eq_true rfl) (Nat.le_of_ble_eq_true rfl)
  have k11_0 : wr.cell? ⟨wq.heap.size, 0, none⟩ = some (.slice x11_0 x11_1 x11_2) := Hwr.out.cell 0 0 (Nat.le_of_ble_eq_true rfl) (Nat.le_of_ble_eq_true rfl)
  have k11_1 : wr.cell? ⟨wq.heap.size, 1, none⟩ = some (.slice y11_0 y11_1 y11_2) := Hwr.out.cell 0 1 (Nat.le_of_ble_eq_true rfl) (Nat.le_of_ble_eq_true rfl)
  have k11_2 : wr.cell? ⟨wq.heap.size, 2, none⟩ = some (.bool f11) := Hwr.out.cell 0 2 (Nat.le_of_ble_eq_true rfl) (Nat.le_of_ble_eq_true rfl)
  go_wp2_with fail
  clear k10_0 k10_1 k10_2 k11_0 k11_1 k11_2
  refine (same_pt _ _ _ _ X11 Y11 X10 Y10 f11 f10 _ _ (Hwr.out.got 1 (Nat.le_of_ble_eq_true rfl)) (Hwr.out.got 0 (Nat.le_of_ble_eq_true rfl)) (Hwr.out.got 3 (Nat.le_of_ble_eq_true rfl)) (Hwr.out.got 2 (Nat.le_of_ble_eq_true rfl)) E11.out E10.out).mono ?_
  rintro e ws ⟨rfl, hB⟩
  have Hws : Hid (Lf w ws [(wq.heap.size, [.slice x11_0 x11_1 x11_2, .slice y11_0 y11_1 y11_2, .bool f11]), (wp.heap.size, [.slice x10_0 x10_1 x10_2, .slice y10_0 y10_1 y10_2, .bool f10]), (wo.heap.size, [.slice x9_0 x9_1 x9_2, .slice y9_0 y9_1 y9_2, .bool f9]), (wm.heap.size, [.slice x8_0 x8_1 x8_2, .slice y8_0 y8_1 y8_2, .bool f8]), (g7, [.slice none 0 0, .slice none 0 0, .bool true]), (wj.heap.size, [.slice x6_0 x6_1 x6_2, .slice y6_0 y6_1 y6_2, .bool f6]), (wi.heap.size, [.slice none 0 0, .slice none 0 0, .bool true]), (g4, [.slice x4_0 x4_1 x4_2, .slice y4_0 y4_1 y4_2, .bool f4]), (we.heap.size, [.slice x3_0 x3_1 x3_2, .slice y3_0 y3_1 y3_2, .bool f3]), (wd.heap.size, [.slice x2_0 x2_1 x2_2, .slice y2_0 y2_1 y2_2, .bool f2]), (wc.heap.size, [.slice x1_0 x1_1 x1_2, .slice y1_0 y1_1 y1_2, .bool f1]), (w.heap.size, [.slice x0 x1 x2, .slice y0 y1 y2, .bool inf])] [(.slice a0 a1 a2, A), (.slice d0 d1 d2, B), (.slice x0 x1 x2, X), (.slice y0 y1 y2, Y)] [(.slice y11_0 y11_1 y11_2, Y11), (.slice x11_0 x11_1 x11_2, X11), (.slice y10_0 y10_1 y10_2, Y10), (.slice x10_0 x10_1 x10_2, X10), (.slice y9_0 y9_1 y9_2, Y9), (.slice x9_0 x9_1 x9_2, X9), (.slice gy0 gy1 gy2, gy), (.slice gx0 gx1 gx2, gx), (.slice y8_0 y8_1 y8_2, Y8), (.slice x8_0 x8_1 x8_2, X8), (.slice y6_0 y6_1 y6_2, Y6), (.slice x6_0 x6_1 x6_2, X6), (.slice y4_0 y4_1 y4_2, Y4), (.slice x4_0 x4_1 x4_2, X4), (.slice y3_0 y3_1 y3_2, Y3), (.slice x3_0 x3_1 x3_2, X3), (.slice y2_0 y2_1 y2_2, Y2), (.slice x2_0 x2_1 x2_2, X2), (.slice y1_0 y1_1 y1_2, Y1), (.slice x1_0 x1_1 x1_2, X1)]) := (Hwr.out.below hB)
  clear hB
  go_wp2
  go_ret
  exact ⟨rfl, Hws.out.bel⟩
set_option maxHeartbeats 40000000 in
theorem mult_s {c s' : Int} {p b n gx gy : Nat} (hk : Kv c p b n gx gy s') (a d x y : Value) (A B X Y : Nat) (inf : Bool) (w : World) (ha : Nu w a A) (hd : Nu w d B) (hx : Nu w x X) (hy : Nu w y Y) (o1 : onB p b X Y inf = true) (hA : ¬ 1024 < bl A) (hBl : ¬ 1024 < bl B) (hAB : 1024 < bl (A + B)) :
    Calls Tryd.prog 3 #[.int .i64 c, a, d, .agg #[x, y, .bool inf]] w fun e w' => e = .returned (.bool true) ∧ Below w.heap.size w w' := by
  obtain ⟨a0, a1, a2, rfl⟩ := ha.shape
  obtain ⟨d0, d1, d2, rfl⟩ := hd.shape
  obtain ⟨x0, x1, x2, rfl⟩ := hx.shape
  obtain ⟨y0, y1, y2, rfl⟩ := hy.shape
  have H0 : Hid (Lf w (w.alloc (.cells #[.slice x0 x1 x2, .slice y0 y1 y2, .bool inf] 26)) [(w.heap.size, [.slice x0 x1 x2, .slice y0 y1 y2, .bool inf])] [(.slice a0 a1 a2, A), (.slice d0 d1 d2, B), (.slice x0 x1 x2, X), (.slice y0 y1 y2, Y)] []) := Lf.of1 ((Fm.nil (w := w) (A := []) ar_nil).push (by simp) 26 [.slice x0 x1 x2, .slice y0 y1 y2, .bool inf]) (fun q hq => by simp only [List.mem_cons, List.not_mem_nil, or_false] at hq; rcases hq with rfl | rfl | rfl | rfl <;> assumption)
  clear ha hd hx hy
  go_enter Tryd.func3, Tryd.ntmps3
  go_wp2_with fail
  generalize (w.alloc (.cells #[.slice x0 x1 x2, .slice y0 y1 y2, .bool inf] 26)) = wv1 at *
  refine (started_v _).mono ?_
  rintro e wa ⟨rfl, hB⟩
  have Hwa : Hid (Lf w wa [(w.heap.size, [.slice x0 x1 x2, .slice y0 y1 y2, .bool inf])] [(.slice a0 a1 a2, A), (.slice d0 d1 d2, B), (.slice x0 x1 x2, X), (.slice y0 y1 y2, Y)] []) := (H0.out.below hB)
  clear hB
  have k0_0 : wa.cell? ⟨w.heap.size, 0, none⟩ = some (.slice x0 x1 x2) := Hwa.out.cell 0 0 (Nat.le_of_ble_eq_true rfl) (Nat.le_of_ble_eq_true rfl)
  have k0_1 : wa.cell? ⟨w.heap.size, 1, none⟩ = some (.slice y0 y1 y2) := Hwa.out.cell 0 1 (Nat.le_of_ble_eq_true rfl) (Nat.le_of_ble_eq_true rfl)
  have k0_2 : wa.cell? ⟨w.heap.size, 2, none⟩ = some (.bool inf) := Hwa.out.cell 0 2 (Nat.le_of_ble_eq_true rfl) (Nat.le_of_ble_eq_true rfl)
  go_wp2_with fail
  clear k0_0 k0_1 k0_2
  have C := on_v hk _ _ X Y inf _ (Hwa.out.arg 2 (Nat.le_of_ble_eq_true rfl)) (Hwa.out.arg 3 (Nat.le_of_ble_eq_true rfl))
  rw [o1] at C
  refine C.mono ?_
  clear C
  rintro e wb ⟨rfl, hB⟩
  have Hwb : Hid (Lf w wb [(w.heap.size, [.slice x0 x1 x2, .slice y0 y1 y2, .bool inf])] [(.slice a0 a1 a2, A), (.slice d0 d1 d2, B), (.slice x0 x1 x2, X), (.slice y0 y1 y2, Y)] []) := (Hwa.out.below hB)
  clear hB
  have hpm := hk.pm
  have C0 := hk.cv
  have oP := ((onB_iff hpm).1 o1).1
  have HPM : Hid (Pm p) := hpm
  clear hpm
  have k0_0 : wb.cell? ⟨w.heap.size, 0, none⟩ = some (.slice x0 x1 x2) := Hwb.out.cell 0 0 (Nat.le_of_ble_eq_true rfl) (Nat.le_of_ble_eq_true rfl)
  have k0_1 : wb.cell? ⟨w.heap.size, 1, none⟩ = some (.slice y0 y1 y2) := Hwb.out.cell 0 1 (Nat.le_of_ble_eq_true rfl) (Nat.le_of_ble_eq_true rfl)
  have k0_2 : wb.cell? ⟨w.heap.size, 2, none⟩ = some (.bool inf) := Hwb.out.cell 0 2 (Nat.le_of_ble_eq_true rfl) (Nat.le_of_ble_eq_true rfl)
  go_wp2_with fail
  clear k0_0 k0_1 k0_2
  refine (mul_ok hk _ _ _ A X Y inf _ (Hwb.out.arg 0 (Nat.le_of_ble_eq_true rfl)) (Hwb.out.arg 2 (Nat.le_of_ble_eq_true rfl)) (Hwb.out.arg 3 (Nat.le_of_ble_eq_true rfl)) o1 hA).mono ?_
  rintro e wc ⟨r, rfl, hPa⟩
  have hB := hPa.bel
  obtain ⟨x1_0, y1_0, x1_1, x1_2, y1_1, y1_2, X1, Y1, f1, rfl, m1, m2, hpt, hz⟩ := hPa.open
  have E1 : Hid (ptO X1 Y1 f1 = ml p (A % n) (ptO X Y inf) ∧ (f1 = true → X1 = 0 ∧ Y1 = 0)) := ⟨hpt, hz⟩
  have Hwc : Hid (Lf w wc [(w.heap.size, [.slice x0 x1 x2, .slice y0 y1 y2, .bool inf])] [(.slice a0 a1 a2, A), (.slice d0 d1 d2, B), (.slice x0 x1 x2, X), (.slice y0 y1 y2, Y)] [(.slice y1_0 y1_1 y1_2, Y1), (.slice x1_0 x1_1 x1_2, X1)]) := (((Hwb.out.below hB).res m1).res m2)
  clear hB m1 m2 hpt hz
  have HB1 : Hid (Lf w (wc.alloc (.cells #[.slice x1_0 x1_1 x1_2, .slice y1_0 y1_1 y1_2, .bool f1] 26)) [(wc.heap.size, [.slice x1_0 x1_1 x1_2, .slice y1_0 y1_1 y1_2, .bool f1]), (w.heap.size, [.slice x0 x1 x2, .slice y0 y1 y2, .bool inf])] [(.slice a0 a1 a2, A), (.slice d0 d1 d2, B), (.slice x0 x1 x2, X), (.slice y0 y1 y2, Y)] [(.slice y1_0 y1_1 y1_2, Y1), (.slice x1_0 x1_1 x1_2, X1)]) := Hwc.out.box [.slice x1_0 x1_1 x1_2, .slice y1_0 y1_1 y1_2, .bool f1]
  have k0_0 : (wc.alloc (.cells #[.slice x1_0 x1_1 x1_2, .slice y1_0 y1_1 y1_2, .bool f1] 26)).cell? ⟨w.heap.size, 0, none⟩ = some (.slice x0 x1 x2) := HB1.out.cell 1 0 (Nat.le_of_ble_eq_true rfl) (Nat.le_of_ble_eq_true rfl)
  have k0_1 : (wc.alloc (.cells #[.slice x1_0 x1_1 x1_2, .slice y1_0 y1_1 y1_2, .bool f1] 26)).cell? ⟨w.heap.size, 1, none⟩ = some (.slice y0 y1 y2) := HB1.out.cell 1 1 (Nat.le_of_ble_eq_true rfl) (Nat.le_of_ble_eq_true rfl)
  have k0_2 : (wc.alloc (.cells #[.slice x1_0 x1_1 x1_2, .slice y1_0 y1_1 y1_2, .bool f1] 26)).cell? ⟨w.heap.size, 2, none⟩ = some (.bool inf) := HB1.out.cell 1 2 (Nat.le_of_ble_eq_true rfl) (Nat.le_of_ble_eq_true rfl)
  go_wp2_with fail
  clear k0_0 k0_1 k0_2
  generalize (wc.alloc (.cells #[.slice x1_0 x1_1 x1_2, .slice y1_0 y1_1 y1_2, .bool f1] 26)) = wv5 at *
  refine (mul_ok hk _ _ _ B X Y inf _ (HB1.out.arg 1 (Nat.le_of_ble_eq_true rfl)) (HB1.out.arg 2 (Nat.le_of_ble_eq_true rfl)) (HB1.out.arg 3 (Nat.le_of_ble_eq_true rfl)) o1 hBl).mono ?_
  rintro e wd ⟨r, rfl, hPa⟩
  have hB := hPa.bel
  obtain ⟨x2_0, y2_0, x2_1, x2_2, y2_1, y2_2, X2, Y2, f2, rfl, m1, m2, hpt, hz⟩ := hPa.open
  have E2 : Hid (ptO X2 Y2 f2 = ml p (B % n) (ptO X Y inf) ∧ (f2 = true → X2 = 0 ∧ Y2 = 0)) := ⟨hpt, hz⟩
  have Hwd : Hid (Lf w wd [(wc.heap.size, [.slice x1_0 x1_1 x1_2, .slice y1_0 y1_1 y1_2, .bool f1]), (w.heap.size, [.slice x0 x1 x2, .slice y0 y1 y2, .bool inf])] [(.slice a0 a1 a2, A), (.slice d0 d1 d2, B), (.slice x0 x1 x2, X), (.slice y0 y1 y2, Y)] [(.slice y2_0 y2_1 y2_2, Y2), (.slice x2_0 x2_1 x2_2, X2), (.slice y1_0 y1_1 y1_2, Y1), (.slice x1_0 x1_1 x1_2, X1)]) := (((HB1.out.below hB).res m1).res m2)
  clear hB m1 m2 hpt hz
  have HB2 : Hid (Lf w (wd.alloc (.cells #[.slice x2_0 x2_1 x2_2, .slice y2_0 y2_1 y2_2, .bool f2] 26)) [(wd.heap.size, [.slice x2_0 x2_1 x2_2, .slice y2_0 y2_1 y2_2, .bool f2]), (wc.heap.size, [.slice x1_0 x1_1 x1_2, .slice y1_0 y1_1 y1_2, .bool f1]), (w.heap.size, [.slice x0 x1 x2, .slice y0 y1 y2, .bool inf])] [(.slice a0 a1 a2, A), (.slice d0 d1 d2, B), (.slice x0 x1 x2, X), (.slice y0 y1 y2, Y)] [(.slice y2_0 y2_1 y2_2, Y2), (.slice x2_0 x2_1 x2_2, X2), (.slice y1_0 y1_1 y1_2, Y1), (.slice x1_0 x1_1 x1_2, X1)]) := Hwd.out.box [.slice x2_0 x2_1 x2_2, .slice y2_0 y2_1 y2_2, .bool f2]
  go_wp2_with fail
  generalize (wd.alloc (.cells #[.slice x2_0 x2_1 x2_2, .slice y2_0 y2_1 y2_2, .bool f2] 26)) = wv7 at *
  have CA := vbits _ A _ wv7 (HB2.out.arg 0 (Nat.le_of_ble_eq_true rfl)) (by decide)
  have CB := vbits _ B _ wv7 (HB2.out.arg 1 (Nat.le_of_ble_eq_true rfl)) (by decide)
  have zA : ∃ z : Int, z = ((bl A : Nat) : Int) := ⟨_, rfl⟩
  obtain ⟨zA, hzA⟩ := zA
  have zB : ∃ z : Int, z = ((bl B : Nat) : Int) := ⟨_, rfl⟩
  obtain ⟨zB, hzB⟩ := zB
  rw [← hzA] at CA
  rw [← hzB] at CB
  have gtA : decide (zA > 1024) = false := decide_eq_false (by omega)
  have glA : decide (1024 < zA) = false := decide_eq_false (by omega)
  have gpA : ¬ (1024 < zA) := by omega
  have gtB : decide (zB > 1024) = false := decide_eq_false (by omega)
  have glB : decide (1024 < zB) = false := decide_eq_false (by omega)
  have gpB : ¬ (1024 < zB) := by omega
  clear hzA hzB
  refine CA.mono ?_
  rintro e w_ ⟨rfl, rfl⟩
  clear CA
  go_wp2_with fail
  refine CB.mono ?_
  rintro e w_ ⟨rfl, rfl⟩
  clear CB
  have k1_0 : w_.cell? ⟨wc.heap.size, 0, none⟩ = some (.slice x1_0 x1_1 x1_2) := HB2.out.cell 1 0 (Nat.le_of_ble_eq_true rfl) (Nat.le_of_ble_eq_true rfl)
  have k1_1 : w_.cell? ⟨wc.heap.size, 1, none⟩ = some (.slice y1_0 y1_1 y1_2) := HB2.out.cell 1 1 (Nat.le_of_ble_eq_true rfl) (Nat.le_of_ble_eq_true rfl)
  have k1_2 : w_.cell? ⟨wc.heap.size, 2, none⟩ = some (.bool f1) := HB2.out.cell 1 2 (Nat.le_of_ble_eq_true rfl) (Nat.le_of_ble_eq_true rfl)
  have k2_0 : w_.cell? ⟨wd.heap.size, 0, none⟩ = some (.slice x2_0 x2_1 x2_2) := HB2.out.cell 0 0 (Nat.le_of_ble_eq_true rfl) (Nat.le_of_ble_eq_true rfl)
  have k2_1 : w_.cell? ⟨wd.heap.size, 1, none⟩ = some (.slice y2_0 y2_1 y2_2) := HB2.out.cell 0 1 (Nat.le_of_ble_eq_true rfl) (Nat.le_of_ble_eq_true rfl)
  have k2_2 : w_.cell? ⟨wd.heap.size, 2, none⟩ = some (.bool f2) := HB2.out.cell 0 2 (Nat.le_of_ble_eq_true rfl) (Nat.le_of_ble_eq_true rfl)
  go_wp2_with fail
  clear k1_0 k1_1 k1_2 k2_0 k2_1 k2_2
  refine (add_ok hk _ _ _ _ X1 Y1 X2 Y2 f1 f2 _ (HB2.out.got 3 (Nat.le_of_ble_eq_true rfl)).nk.1 (HB2.out.got 2 (Nat.le_of_ble_eq_true rfl)).nk.1 (HB2.out.got 1 (Nat.le_of_ble_eq_true rfl)).nk.1 (HB2.out.got 0 (Nat.le_of_ble_eq_true rfl)).nk.1 (onB_of HPM.out E1.out (C0.mon oP _)) (onB_of HPM.out E2.out (C0.mon oP _))).mono ?_
  rintro e we ⟨r, rfl, hPa⟩
  rw [E1.out.1, E2.out.1] at hPa
  have hB := hPa.bel
  obtain ⟨x3_0, y3_0, x3_1, x3_2, y3_1, y3_2, X3, Y3, f3, rfl, m1, m2, hpt, hz⟩ := hPa.open
  have E3 : Hid (ptO X3 Y3 f3 = sm p (ml p (A % n) (ptO X Y inf)) (ml p (B % n) (ptO X Y inf)) ∧ (f3 = true → X3 = 0 ∧ Y3 = 0)) := ⟨hpt, hz⟩
  have Hwe : Hid (Lf w we [(wd.heap.size, [.slice x2_0 x2_1 x2_2, .slice y2_0 y2_1 y2_2, .bool f2]), (wc.heap.size, [.slice x1_0 x1_1 x1_2, .slice y1_0 y1_1 y1_2, .bool f1]), (w.heap.size, [.slice x0 x1 x2, .slice y0 y1 y2, .bool inf])] [(.slice a0 a1 a2, A), (.slice d0 d1 d2, B), (.slice x0 x1 x2, X), (.slice y0 y1 y2, Y)] [(.slice y3_0 y3_1 y3_2, Y3), (.slice x3_0 x3_1 x3_2, X3), (.slice y2_0 y2_1 y2_2, Y2), (.slice x2_0 x2_1 x2_2, X2), (.slice y1_0 y1_1 y1_2, Y1), (.slice x1_0 x1_1 x1_2, X1)]) := (((HB2.out.below hB).res m1).res m2)
  clear hB m1 m2 hpt hz
  have HB3 : Hid (Lf w (we.alloc (.cells #[.slice x3_0 x3_1 x3_2, .slice y3_0 y3_1 y3_2, .bool f3] 26)) [(we.heap.size, [.slice x3_0 x3_1 x3_2, .slice y3_0 y3_1 y3_2, .bool f3]), (wd.heap.size, [.slice x2_0 x2_1 x2_2, .slice y2_0 y2_1 y2_2, .bool f2]), (wc.heap.size, [.slice x1_0 x1_1 x1_2, .slice y1_0 y1_1 y1_2, .bool f1]), (w.heap.size, [.slice x0 x1 x2, .slice y0 y1 y2, .bool inf])] [(.slice a0 a1 a2, A), (.slice d0 d1 d2, B), (.slice x0 x1 x2, X), (.slice y0 y1 y2, Y)] [(.slice y3_0 y3_1 y3_2, Y3), (.slice x3_0 x3_1 x3_2, X3), (.slice y2_0 y2_1 y2_2, Y2), (.slice x2_0 x2_1 x2_2, X2), (.slice y1_0 y1_1 y1_2, Y1), (.slice x1_0 x1_1 x1_2, X1)]) := Hwe.out.box [.slice x3_0 x3_1 x3_2, .slice y3_0 y3_1 y3_2, .bool f3]
  have HLS : Hid ((dg Bs (A + B)).length ≤ 3000000) := sum_len hA hBl
  go_upto_region 16 with fail
  generalize (we.alloc (.cells #[.slice x3_0 x3_1 x3_2, .slice y3_0 y3_1 y3_2, .bool f3] 26)) = wv9 at *
  go_cut [22, 23] from 117 to 125 (fun s1 s2 wx => ∃ (w' : World) (g : Nat), w' = wx ∧ s1 = .pointer (some ⟨g, 0, none⟩) ∧ s2 = .int .i64 10 ∧ Hid (Lf w w' [(g, [.slice none 0 0, .slice none 0 0, .bool false]), (we.heap.size, [.slice x3_0 x3_1 x3_2, .slice y3_0 y3_1 y3_2, .bool f3]), (wd.heap.size, [.slice x2_0 x2_1 x2_2, .slice y2_0 y2_1 y2_2, .bool f2]), (wc.heap.size, [.slice x1_0 x1_1 x1_2, .slice y1_0 y1_1 y1_2, .bool f1]), (w.heap.size, [.slice x0 x1 x2, .slice y0 y1 y2, .bool inf])] [(.slice a0 a1 a2, A), (.slice d0 d1 d2, B), (.slice x0 x1 x2, X), (.slice y0 y1 y2, Y)] [(.slice y3_0 y3_1 y3_2, Y3), (.slice x3_0 x3_1 x3_2, X3), (.slice y2_0 y2_1 y2_2, Y2), (.slice x2_0 x2_1 x2_2, X2), (.slice y1_0 y1_1 y1_2, Y1), (.slice x1_0 x1_1 x1_2, X1)]))
  case first =>
    have HD : Hid (Lf w wv9.drew [(we.heap.size, [.slice x3_0 x3_1 x3_2, .slice y3_0 y3_1 y3_2, .bool f3]), (wd.heap.size, [.slice x2_0 x2_1 x2_2, .slice y2_0 y2_1 y2_2, .bool f2]), (wc.heap.size, [.slice x1_0 x1_1 x1_2, .slice y1_0 y1_1 y1_2, .bool f1]), (w.heap.size, [.slice x0 x1 x2, .slice y0 y1 y2, .bool inf])] [(.slice a0 a1 a2, A), (.slice d0 d1 d2, B), (.slice x0 x1 x2, X), (.slice y0 y1 y2, Y)] [(.slice y3_0 y3_1 y3_2, Y3), (.slice x3_0 x3_1 x3_2, X3), (.slice y2_0 y2_1 y2_2, Y2), (.slice x2_0 x2_1 x2_2, X2), (.slice y1_0 y1_1 y1_2, Y1), (.slice x1_0 x1_1 x1_2, X1)]) := HB3.out.drew
    have HBd : Hid (Below wv9.drew.heap.size wv9.drew wv9.drew) := Below.refl _ _
    refine wp_region_K 5 (fun (w' : World) => w'.cell? ⟨w.heap.size, 0, none⟩ = some (.slice x0 x1 x2) ∧ w'.cell? ⟨w.heap.size, 1, none⟩ = some (.slice y0 y1 y2) ∧ w'.cell? ⟨w.heap.size, 2, none⟩ = some (.bool inf)) (by kernel_rfl) ?_
    have hHeld : ((fun (w' : World) => w'.cell? ⟨w.heap.size, 0, none⟩ = some (.slice x0 x1 x2) ∧ w'.cell? ⟨w.heap.size, 1, none⟩ = some (.slice y0 y1 y2) ∧ w'.cell? ⟨w.heap.size, 2, none⟩ = some (.bool inf))) (World.drew _) := ⟨HD.out.cell 3 0 (Nat.le_of_ble_eq_true rfl) (Nat.le_of_ble_eq_true rfl), HD.out.cell 3 1 (Nat.le_of_ble_eq_true rfl) (Nat.le_of_ble_eq_true rfl), HD.out.cell 3 2 (Nat.le_of_ble_eq_true rfl) (Nat.le_of_ble_eq_true rfl)⟩
    refine wpAnyK_take0 0 (v := ?v54) rfl (by kernel_rfl) (fun _ _ _ h => h) (Or.inl ⟨by rfl, ?hy54⟩) (fun _ => hHeld) ?_
    case hy54 => (intro w hSw; go_simp; try with_reducible rfl)
    try simp only [Act.put, List.setIfInBounds_toArray, List.set_cons_zero, List.set_cons_succ]
    refine wpAnyK_take0 1 (v := ?v55) rfl (by kernel_rfl) (fun _ _ _ h => h) (Or.inl ⟨by rfl, ?hy55⟩) (fun _ => hHeld) ?_
    case hy55 => (intro w hSw; go_simp; try with_reducible rfl)
    try simp only [Act.put, List.setIfInBounds_toArray, List.set_cons_zero, List.set_cons_succ]
    refine wpAnyK_take0 2 (v := ?v56) rfl (by kernel_rfl) (fun _ _ _ h => h) (Or.inl ⟨by rfl, ?hy56⟩) (fun _ => hHeld) ?_
    case hy56 => (intro w hSw; go_simp; try with_reducible rfl)
    try simp only [Act.put, List.setIfInBounds_toArray, List.set_cons_zero, List.set_cons_succ]
    refine wpAnyK_take 4 [5] (v := ?v57) rfl (by kernel_rfl) (fun _ _ _ h => h) (Or.inl ⟨by rfl, ?hy57⟩) hHeld ?_
    case hy57 => (intro w hSw; (try dsimp only at hSw); go_simp; try with_reducible rfl)
    try simp only [Act.put, List.setIfInBounds_toArray, List.set_cons_zero, List.set_cons_succ]
    refine wpAnyK_two 3 9 rfl rfl (by kernel_rfl) (fun K hK => ?_) (fun K hK => ?_)
    · go_simp
      refine (vadd _ _ A B _ _ _ ((HD.out.below HBd.out).arg 0 (Nat.le_of_ble_eq_true rfl)) ((HD.out.below HBd.out).arg 1 (Nat.le_of_ble_eq_true rfl)) (by decide) (by decide)).mono ?_
      rintro e wfa ⟨rS, rfl, hN⟩
      have hBp := hN.2.2
      have HSa : Hid (Nu wfa rS (A + B)) := New.nu' HLS.out hN
      clear hN
      have HBa1 : Hid (Below wv9.drew.heap.size wv9.drew wfa) := HBd.out.trans (hBp.mono HBd.out.size)
      clear hBp
      try dsimp only
      refine hK.out _ _ ?hk72 ?_
      case hk72 => exact fun _ => ⟨(HD.out.below HBa1.out).cell 3 0 (Nat.le_of_ble_eq_true rfl) (Nat.le_of_ble_eq_true rfl), (HD.out.below HBa1.out).cell 3 1 (Nat.le_of_ble_eq_true rfl) (Nat.le_of_ble_eq_true rfl), (HD.out.below HBa1.out).cell 3 2 (Nat.le_of_ble_eq_true rfl) (Nat.le_of_ble_eq_true rfl)⟩
      have hHeld : ((fun (w' : World) => w'.cell? ⟨w.heap.size, 0, none⟩ = some (.slice x0 x1 x2) ∧ w'.cell? ⟨w.heap.size, 1, none⟩ = some (.slice y0 y1 y2) ∧ w'.cell? ⟨w.heap.size, 2, none⟩ = some (.bool inf))) _ := ⟨(HD.out.below HBa1.out).cell 3 0 (Nat.le_of_ble_eq_true rfl) (Nat.le_of_ble_eq_true rfl), (HD.out.below HBa1.out).cell 3 1 (Nat.le_of_ble_eq_true rfl) (Nat.le_of_ble_eq_true rfl), (HD.out.below HBa1.out).cell 3 2 (Nat.le_of_ble_eq_true rfl) (Nat.le_of_ble_eq_true rfl)⟩
      clear hK K
      try simp only [Act.put, List.setIfInBounds_toArray, List.set_cons_zero, List.set_cons_succ]
      refine wpAnyK_two 5 9 rfl rfl (by kernel_rfl) (fun K hK => ?_) (fun K hK => ?_)
      · go_simp
        refine (mul_large hk _ _ _ (A + B) X Y inf _ HSa.out ((HD.out.below HBa1.out).arg 2 (Nat.le_of_ble_eq_true rfl)) ((HD.out.below HBa1.out).arg 3 (Nat.le_of_ble_eq_true rfl)) o1 hAB).mono ?_
        rintro e wga ⟨rfl, hBp⟩
        have HBa2 : Hid (Below wv9.drew.heap.size wv9.drew wga) := HBa1.out.trans (hBp.mono HBa1.out.size)
        clear hBp
        try dsimp only
        refine hK.out _ _ ?hk58 ?_
        case hk58 => exact fun _ => ⟨(HD.out.below HBa2.out).cell 3 0 (Nat.le_of_ble_eq_true rfl) (Nat.le_of_ble_eq_true rfl), (HD.out.below HBa2.out).cell 3 1 (Nat.le_of_ble_eq_true rfl) (Nat.le_of_ble_eq_true rfl), (HD.out.below HBa2.out).cell 3 2 (Nat.le_of_ble_eq_true rfl) (Nat.le_of_ble_eq_true rfl)⟩
        have hHeld : ((fun (w' : World) => w'.cell? ⟨w.heap.size, 0, none⟩ = some (.slice x0 x1 x2) ∧ w'.cell? ⟨w.heap.size, 1, none⟩ = some (.slice y0 y1 y2) ∧ w'.cell? ⟨w.heap.size, 2, none⟩ = some (.bool inf))) _ := ⟨(HD.out.below HBa2.out).cell 3 0 (Nat.le_of_ble_eq_true rfl) (Nat.le_of_ble_eq_true rfl), (HD.out.below HBa2.out).cell 3 1 (Nat.le_of_ble_eq_true rfl) (Nat.le_of_ble_eq_true rfl), (HD.out.below HBa2.out).cell 3 2 (Nat.le_of_ble_eq_true rfl) (Nat.le_of_ble_eq_true rfl)⟩
        clear hK K
        try simp only [Act.put, List.setIfInBounds_toArray, List.set_cons_zero, List.set_cons_succ]
        refine wpAnyK_take0 6 (v := ?v59) rfl (by kernel_rfl) (fun _ _ _ h => h) (Or.inl ⟨by rfl, ?hy59⟩) (fun _ => hHeld) ?_
        case hy59 => (intro w hSw; go_simp; try with_reducible rfl)
        try simp only [Act.put, List.setIfInBounds_toArray, List.set_cons_zero, List.set_cons_succ]
        refine wpAnyK_take0 7 (v := ?v60) rfl (by kernel_rfl) (fun _ _ _ h => h) (Or.inl ⟨by rfl, ?hy60⟩) (fun _ => hHeld) ?_
        case hy60 => (intro w hSw; go_simp; try with_reducible rfl)
        try simp only [Act.put, List.setIfInBounds_toArray, List.set_cons_zero, List.set_cons_succ]
        refine wpAnyK_take0 8 (v := ?v61) rfl (by kernel_rfl) (fun _ _ _ h => h) (Or.inl ⟨by rfl, ?hy61⟩) (fun _ => hHeld) ?_
        case hy61 => (intro w hSw; go_simp; try with_reducible rfl)
        try simp only [Act.put, List.setIfInBounds_toArray, List.set_cons_zero, List.set_cons_succ]
        refine wpAnyK_step 9 rfl (by kernel_rfl) (fun K hK => ?_)
        go_simp
        have hza : Below wga.heap.size wga (wga.alloc (.cells #[.slice none 0 0, .slice none 0 0, .bool false] 26)) := alloc_below _ _
        have HAa : Hid (Below wv9.drew.heap.size wv9.drew (wga.alloc (.cells #[.slice none 0 0, .slice none 0 0, .bool false] 26))) := HBa2.out.trans (hza.mono HBa2.out.size)
        have HZa : Hid (Bl 26 (wga.alloc (.cells #[.slice none 0 0, .slice none 0 0, .bool false] 26)) wga.heap.size [.slice none 0 0, .slice none 0 0, .bool false]) := alloc_bl wga [.slice none 0 0, .slice none 0 0, .bool false] 26
        try dsimp only
        refine hK.out _ _ ?hk62 ?_
        case hk62 => exact fun _ => ⟨(HD.out.below HAa.out).cell 3 0 (Nat.le_of_ble_eq_true rfl) (Nat.le_of_ble_eq_true rfl), (HD.out.below HAa.out).cell 3 1 (Nat.le_of_ble_eq_true rfl) (Nat.le_of_ble_eq_true rfl), (HD.out.below HAa.out).cell 3 2 (Nat.le_of_ble_eq_true rfl) (Nat.le_of_ble_eq_true rfl)⟩
        have hHeld : ((fun (w' : World) => w'.cell? ⟨w.heap.size, 0, none⟩ = some (.slice x0 x1 x2) ∧ w'.cell? ⟨w.heap.size, 1, none⟩ = some (.slice y0 y1 y2) ∧ w'.cell? ⟨w.heap.size, 2, none⟩ = some (.bool inf))) _ := ⟨(HD.out.below HAa.out).cell 3 0 (Nat.le_of_ble_eq_true rfl) (Nat.le_of_ble_eq_true rfl), (HD.out.below HAa.out).cell 3 1 (Nat.le_of_ble_eq_true rfl) (Nat.le_of_ble_eq_true rfl), (HD.out.below HAa.out).cell 3 2 (Nat.le_of_ble_eq_true rfl) (Nat.le_of_ble_eq_true rfl)⟩
        clear hK K
        try simp only [Act.put, List.setIfInBounds_toArray, List.set_cons_zero, List.set_cons_succ]
        refine wpAnyK_step 10 rfl (by kernel_rfl) (fun K hK => ?_)
        rw [if_pos (by kernel_rfl)]
        refine wp_store_row 26 _ _ rfl (wga.heap.size) #[.slice none 0 0, .slice none 0 0, .bool false] rfl rfl 26 #[.slice none 0 0, .slice none 0 0, .bool false] (HZa.out) (by kernel_rfl) rfl (by simp [Value.oneCell']) ?_
        refine hK.out _ _ ?hk63 ?_
        case hk63 => exact (fun h => nomatch (h.symm.trans (show _ = true by kernel_rfl)))
        clear hK K
        try simp only [Act.put]
        refine wpAnyK_take0 11 (v := ?v64) rfl (by kernel_rfl) (fun _ _ _ h => h) (Or.inl ⟨by rfl, ?hy64⟩) (fun h => nomatch (h.symm.trans (show _ = true by kernel_rfl))) ?_
        case hy64 => (intro w hSw; go_simp; try with_reducible rfl)
        try simp only [Act.put, List.setIfInBounds_toArray, List.set_cons_zero, List.set_cons_succ]
        refine wpAnyK_done (by kernel_rfl) ?_ _
        go_wp2_with fail
        go_meet
        have hR := Fm.row wga 26 [.slice none 0 0, .slice none 0 0, .bool false] [.slice none 0 0, .slice none 0 0, .bool false] rfl
        have hbF : Below wv9.drew.heap.size wv9.drew _ := HBa2.out.trans (hR.bel.mono HBa2.out.size)
        exact ⟨_, wga.heap.size, rfl, rfl, rfl, Lf.addb (HD.out.below hbF) (hR.bx 0 (by simp))⟩
      · go_simp
        have hzb : Below wfa.heap.size wfa (wfa.alloc (.cells #[.slice none 0 0, .slice none 0 0, .bool false] 26)) := alloc_below _ _
        have HAb : Hid (Below wv9.drew.heap.size wv9.drew (wfa.alloc (.cells #[.slice none 0 0, .slice none 0 0, .bool false] 26))) := HBa1.out.trans (hzb.mono HBa1.out.size)
        have HZb : Hid (Bl 26 (wfa.alloc (.cells #[.slice none 0 0, .slice none 0 0, .bool false] 26)) wfa.heap.size [.slice none 0 0, .slice none 0 0, .bool false]) := alloc_bl wfa [.slice none 0 0, .slice none 0 0, .bool false] 26
        have HSb : Hid (Nu (wfa.alloc (.cells #[.slice none 0 0, .slice none 0 0, .bool false] 26)) rS (A + B)) := HSa.out.below hzb (Nat.le_refl _)
        try dsimp only
        refine hK.out _ _ ?hk65 ?_
        case hk65 => exact fun _ => ⟨(HD.out.below HAb.out).cell 3 0 (Nat.le_of_ble_eq_true rfl) (Nat.le_of_ble_eq_true rfl), (HD.out.below HAb.out).cell 3 1 (Nat.le_of_ble_eq_true rfl) (Nat.le_of_ble_eq_true rfl), (HD.out.below HAb.out).cell 3 2 (Nat.le_of_ble_eq_true rfl) (Nat.le_of_ble_eq_true rfl)⟩
        have hHeld : ((fun (w' : World) => w'.cell? ⟨w.heap.size, 0, none⟩ = some (.slice x0 x1 x2) ∧ w'.cell? ⟨w.heap.size, 1, none⟩ = some (.slice y0 y1 y2) ∧ w'.cell? ⟨w.heap.size, 2, none⟩ = some (.bool inf))) _ := ⟨(HD.out.below HAb.out).cell 3 0 (Nat.le_of_ble_eq_true rfl) (Nat.le_of_ble_eq_true rfl), (HD.out.below HAb.out).cell 3 1 (Nat.le_of_ble_eq_true rfl) (Nat.le_of_ble_eq_true rfl), (HD.out.below HAb.out).cell 3 2 (Nat.le_of_ble_eq_true rfl) (Nat.le_of_ble_eq_true rfl)⟩
        clear hK K
        try simp only [Act.put, List.setIfInBounds_toArray, List.set_cons_zero, List.set_cons_succ]
        refine wpAnyK_step 5 rfl (by kernel_rfl) (fun K hK => ?_)
        go_simp
        refine (mul_large hk _ _ _ (A + B) X Y inf _ HSb.out ((HD.out.below HAb.out).arg 2 (Nat.le_of_ble_eq_true rfl)) ((HD.out.below HAb.out).arg 3 (Nat.le_of_ble_eq_true rfl)) o1 hAB).mono ?_
        rintro e wgb ⟨rfl, hBp⟩
        have HBb2 : Hid (Below wv9.drew.heap.size wv9.drew wgb) := HAb.out.trans (hBp.mono HAb.out.size)
        have HZb2 : Hid (Bl 26 wgb wfa.heap.size [.slice none 0 0, .slice none 0 0, .bool false]) := HZb.out.below hBp (HZb.out.lt)
        clear hBp
        try dsimp only
        refine hK.out _ _ ?hk66 ?_
        case hk66 => exact fun _ => ⟨(HD.out.below HBb2.out).cell 3 0 (Nat.le_of_ble_eq_true rfl) (Nat.le_of_ble_eq_true rfl), (HD.out.below HBb2.out).cell 3 1 (Nat.le_of_ble_eq_true rfl) (Nat.le_of_ble_eq_true rfl), (HD.out.below HBb2.out).cell 3 2 (Nat.le_of_ble_eq_true rfl) (Nat.le_of_ble_eq_true rfl)⟩
        have hHeld : ((fun (w' : World) => w'.cell? ⟨w.heap.size, 0, none⟩ = some (.slice x0 x1 x2) ∧ w'.cell? ⟨w.heap.size, 1, none⟩ = some (.slice y0 y1 y2) ∧ w'.cell? ⟨w.heap.size, 2, none⟩ = some (.bool inf))) _ := ⟨(HD.out.below HBb2.out).cell 3 0 (Nat.le_of_ble_eq_true rfl) (Nat.le_of_ble_eq_true rfl), (HD.out.below HBb2.out).cell 3 1 (Nat.le_of_ble_eq_true rfl) (Nat.le_of_ble_eq_true rfl), (HD.out.below HBb2.out).cell 3 2 (Nat.le_of_ble_eq_true rfl) (Nat.le_of_ble_eq_true rfl)⟩
        clear hK K
        try simp only [Act.put, List.setIfInBounds_toArray, List.set_cons_zero, List.set_cons_succ]
        refine wpAnyK_take0 6 (v := ?v67) rfl (by kernel_rfl) (fun _ _ _ h => h) (Or.inl ⟨by rfl, ?hy67⟩) (fun _ => hHeld) ?_
        case hy67 => (intro w hSw; go_simp; try with_reducible rfl)
        try simp only [Act.put, List.setIfInBounds_toArray, List.set_cons_zero, List.set_cons_succ]
        refine wpAnyK_take0 7 (v := ?v68) rfl (by kernel_rfl) (fun _ _ _ h => h) (Or.inl ⟨by rfl, ?hy68⟩) (fun _ => hHeld) ?_
        case hy68 => (intro w hSw; go_simp; try with_reducible rfl)
        try simp only [Act.put, List.setIfInBounds_toArray, List.set_cons_zero, List.set_cons_succ]
        refine wpAnyK_take0 8 (v := ?v69) rfl (by kernel_rfl) (fun _ _ _ h => h) (Or.inl ⟨by rfl, ?hy69⟩) (fun _ => hHeld) ?_
        case hy69 => (intro w hSw; go_simp; try with_reducible rfl)
        try simp only [Act.put, List.setIfInBounds_toArray, List.set_cons_zero, List.set_cons_succ]
        refine wpAnyK_step 10 rfl (by kernel_rfl) (fun K hK => ?_)
        rw [if_pos (by kernel_rfl)]
        refine wp_store_row 26 _ _ rfl (wfa.heap.size) #[.slice none 0 0, .slice none 0 0, .bool false] rfl rfl 26 #[.slice none 0 0, .slice none 0 0, .bool false] (HZb2.out) (by kernel_rfl) rfl (by simp [Value.oneCell']) ?_
        refine hK.out _ _ ?hk70 ?_
        case hk70 => exact (fun h => nomatch (h.symm.trans (show _ = true by kernel_rfl)))
        clear hK K
        try simp only [Act.put]
        refine wpAnyK_take0 11 (v := ?v71) rfl (by kernel_rfl) (fun _ _ _ h => h) (Or.inl ⟨by rfl, ?hy71⟩) (fun h => nomatch (h.symm.trans (show _ = true by kernel_rfl))) ?_
        case hy71 => (intro w hSw; go_simp; try with_reducible rfl)
        try simp only [Act.put, List.setIfInBounds_toArray, List.set_cons_zero, List.set_cons_succ]
        refine wpAnyK_done (by kernel_rfl) ?_ _
        go_wp2_with fail
        go_meet
        have hb := But.setRow wgb (wfa.heap.size) #[.slice none 0 0, .slice none 0 0, .bool false]
        have hbF : Below wv9.drew.heap.size wv9.drew _ := HBb2.out.trans (hb.below HBb2.out.size (show wv9.drew.heap.size ≤ wfa.heap.size from HBa1.out.size))
        exact ⟨_, wfa.heap.size, rfl, rfl, rfl, Lf.addb (HD.out.below hbF) (setRow_heap _ _ _ _ _ _ HZb2.out)⟩
    · go_simp
      have hzc : Below wv9.drew.heap.size wv9.drew (wv9.drew.alloc (.cells #[.slice none 0 0, .slice none 0 0, .bool false] 26)) := alloc_below _ _
      have HAc : Hid (Below wv9.drew.heap.size wv9.drew (wv9.drew.alloc (.cells #[.slice none 0 0, .slice none 0 0, .bool false] 26))) := HBd.out.trans (hzc.mono HBd.out.size)
      have HZc : Hid (Bl 26 (wv9.drew.alloc (.cells #[.slice none 0 0, .slice none 0 0, .bool false] 26)) wv9.drew.heap.size [.slice none 0 0, .slice none 0 0, .bool false]) := alloc_bl wv9.drew [.slice none 0 0, .slice none 0 0, .bool false] 26
      try dsimp only
      refine hK.out _ _ ?hk73 ?_
      case hk73 => exact fun _ => ⟨(HD.out.below HAc.out).cell 3 0 (Nat.le_of_ble_eq_true rfl) (Nat.le_of_ble_eq_true rfl), (HD.out.below HAc.out).cell 3 1 (Nat.le_of_ble_eq_true rfl) (Nat.le_of_ble_eq_true rfl), (HD.out.below HAc.out).cell 3 2 (Nat.le_of_ble_eq_true rfl) (Nat.le_of_ble_eq_true rfl)⟩
      have hHeld : ((fun (w' : World) => w'.cell? ⟨w.heap.size, 0, none⟩ = some (.slice x0 x1 x2) ∧ w'.cell? ⟨w.heap.size, 1, none⟩ = some (.slice y0 y1 y2) ∧ w'.cell? ⟨w.heap.size, 2, none⟩ = some (.bool inf))) _ := ⟨(HD.out.below HAc.out).cell 3 0 (Nat.le_of_ble_eq_true rfl) (Nat.le_of_ble_eq_true rfl), (HD.out.below HAc.out).cell 3 1 (Nat.le_of_ble_eq_true rfl) (Nat.le_of_ble_eq_true rfl), (HD.out.below HAc.out).cell 3 2 (Nat.le_of_ble_eq_true rfl) (Nat.le_of_ble_eq_true rfl)⟩
      clear hK K
      try simp only [Act.put, List.setIfInBounds_toArray, List.set_cons_zero, List.set_cons_succ]
      refine wpAnyK_step 3 rfl (by kernel_rfl) (fun K hK => ?_)
      go_simp
      refine (vadd _ _ A B _ _ _ ((HD.out.below HAc.out).arg 0 (Nat.le_of_ble_eq_true rfl)) ((HD.out.below HAc.out).arg 1 (Nat.le_of_ble_eq_true rfl)) (by decide) (by decide)).mono ?_
      rintro e wfc ⟨rS, rfl, hN⟩
      have hBp := hN.2.2
      have HSc : Hid (Nu wfc rS (A + B)) := New.nu' HLS.out hN
      clear hN
      have HBc1 : Hid (Below wv9.drew.heap.size wv9.drew wfc) := HAc.out.trans (hBp.mono HAc.out.size)
      have HZc1 : Hid (Bl 26 wfc wv9.drew.heap.size [.slice none 0 0, .slice none 0 0, .bool false]) := HZc.out.below hBp HZc.out.lt
      clear hBp
      try dsimp only
      refine hK.out _ _ ?hk74 ?_
      case hk74 => exact fun _ => ⟨(HD.out.below HBc1.out).cell 3 0 (Nat.le_of_ble_eq_true rfl) (Nat.le_of_ble_eq_true rfl), (HD.out.below HBc1.out).cell 3 1 (Nat.le_of_ble_eq_true rfl) (Nat.le_of_ble_eq_true rfl), (HD.out.below HBc1.out).cell 3 2 (Nat.le_of_ble_eq_true rfl) (Nat.le_of_ble_eq_true rfl)⟩
      have hHeld : ((fun (w' : World) => w'.cell? ⟨w.heap.size, 0, none⟩ = some (.slice x0 x1 x2) ∧ w'.cell? ⟨w.heap.size, 1, none⟩ = some (.slice y0 y1 y2) ∧ w'.cell? ⟨w.heap.size, 2, none⟩ = some (.bool inf))) _ := ⟨(HD.out.below HBc1.out).cell 3 0 (Nat.le_of_ble_eq_true rfl) (Nat.le_of_ble_eq_true rfl), (HD.out.below HBc1.out).cell 3 1 (Nat.le_of_ble_eq_true rfl) (Nat.le_of_ble_eq_true rfl), (HD.out.below HBc1.out).cell 3 2 (Nat.le_of_ble_eq_true rfl) (Nat.le_of_ble_eq_true rfl)⟩
      clear hK K
      try simp only [Act.put, List.setIfInBounds_toArray, List.set_cons_zero, List.set_cons_succ]
      refine wpAnyK_step 5 rfl (by kernel_rfl) (fun K hK => ?_)
      go_simp
      refine (mul_large hk _ _ _ (A + B) X Y inf _ HSc.out ((HD.out.below HBc1.out).arg 2 (Nat.le_of_ble_eq_true rfl)) ((HD.out.below HBc1.out).arg 3 (Nat.le_of_ble_eq_true rfl)) o1 hAB).mono ?_
      rintro e wgc ⟨rfl, hBp⟩
      have HBc2 : Hid (Below wv9.drew.heap.size wv9.drew wgc) := HBc1.out.trans (hBp.mono HBc1.out.size)
      have HZc2 : Hid (Bl 26 wgc wv9.drew.heap.size [.slice none 0 0, .slice none 0 0, .bool false]) := HZc1.out.below hBp HZc1.out.lt
      clear hBp
      try dsimp only
      refine hK.out _ _ ?hk75 ?_
      case hk75 => exact fun _ => ⟨(HD.out.below HBc2.out).cell 3 0 (Nat.le_of_ble_eq_true rfl) (Nat.le_of_ble_eq_true rfl), (HD.out.below HBc2.out).cell 3 1 (Nat.le_of_ble_eq_true rfl) (Nat.le_of_ble_eq_true rfl), (HD.out.below HBc2.out).cell 3 2 (Nat.le_of_ble_eq_true rfl) (Nat.le_of_ble_eq_true rfl)⟩
      have hHeld : ((fun (w' : World) => w'.cell? ⟨w.heap.size, 0, none⟩ = some (.slice x0 x1 x2) ∧ w'.cell? ⟨w.heap.size, 1, none⟩ = some (.slice y0 y1 y2) ∧ w'.cell? ⟨w.heap.size, 2, none⟩ = some (.bool inf))) _ := ⟨(HD.out.below HBc2.out).cell 3 0 (Nat.le_of_ble_eq_true rfl) (Nat.le_of_ble_eq_true rfl), (HD.out.below HBc2.out).cell 3 1 (Nat.le_of_ble_eq_true rfl) (Nat.le_of_ble_eq_true rfl), (HD.out.below HBc2.out).cell 3 2 (Nat.le_of_ble_eq_true rfl) (Nat.le_of_ble_eq_true rfl)⟩
      clear hK K
      try simp only [Act.put, List.setIfInBounds_toArray, List.set_cons_zero, List.set_cons_succ]
      refine wpAnyK_take0 6 (v := ?v76) rfl (by kernel_rfl) (fun _ _ _ h => h) (Or.inl ⟨by rfl, ?hy76⟩) (fun _ => hHeld) ?_
      case hy76 => (intro w hSw; go_simp; try with_reducible rfl)
      try simp only [Act.put, List.setIfInBounds_toArray, List.set_cons_zero, List.set_cons_succ]
      refine wpAnyK_take0 7 (v := ?v77) rfl (by kernel_rfl) (fun _ _ _ h => h) (Or.inl ⟨by rfl, ?hy77⟩) (fun _ => hHeld) ?_
      case hy77 => (intro w hSw; go_simp; try with_reducible rfl)
      try simp only [Act.put, List.setIfInBounds_toArray, List.set_cons_zero, List.set_cons_succ]
      refine wpAnyK_take0 8 (v := ?v78) rfl (by kernel_rfl) (fun _ _ _ h => h) (Or.inl ⟨by rfl, ?hy78⟩) (fun _ => hHeld) ?_
      case hy78 => (intro w hSw; go_simp; try with_reducible rfl)
      try simp only [Act.put, List.setIfInBounds_toArray, List.set_cons_zero, List.set_cons_succ]
      refine wpAnyK_step 10 rfl (by kernel_rfl) (fun K hK => ?_)
      rw [if_pos (by kernel_rfl)]
      refine wp_store_row 26 _ _ rfl (wv9.drew.heap.size) #[.slice none 0 0, .slice none 0 0, .bool false] rfl rfl 26 #[.slice none 0 0, .slice none 0 0, .bool false] (HZc2.out) (by kernel_rfl) rfl (by simp [Value.oneCell']) ?_
      refine hK.out _ _ ?hk79 ?_
      case hk79 => exact (fun h => nomatch (h.symm.trans (show _ = true by kernel_rfl)))
      clear hK K
      try simp only [Act.put]
      refine wpAnyK_take0 11 (v := ?v80) rfl (by kernel_rfl) (fun _ _ _ h => h) (Or.inl ⟨by rfl, ?hy80⟩) (fun h => nomatch (h.symm.trans (show _ = true by kernel_rfl))) ?_
      case hy80 => (intro w hSw; go_simp; try with_reducible rfl)
      try simp only [Act.put, List.setIfInBounds_toArray, List.set_cons_zero, List.set_cons_succ]
      refine wpAnyK_done (by kernel_rfl) ?_ _
      go_wp2_with fail
      go_meet
      have hb := But.setRow wgc (wv9.drew.heap.size) #[.slice none 0 0, .slice none 0 0, .bool false]
      have hbF : Below wv9.drew.heap.size wv9.drew _ := HBc2.out.trans (hb.below HBc2.out.size (show wv9.drew.heap.size ≤ wv9.drew.heap.size from Nat.le_refl _))
      exact ⟨_, wv9.drew.heap.size, rfl, rfl, rfl, Lf.addb (HD.out.below hbF) (setRow_heap _ _ _ _ _ _ HZc2.out)⟩
  obtain ⟨wg, g4, rfl, rfl, rfl, HC4⟩ := hcut
  have k0_0 : wg.cell? ⟨w.heap.size, 0, none⟩ = some (.slice x0 x1 x2) := HC4.out.cell 4 0 (Nat.le_of_ble_eq_true rfl) (Nat.le_of_ble_eq_true rfl)
  have k0_1 : wg.cell? ⟨w.heap.size, 1, none⟩ = some (.slice y0 y1 y2) := HC4.out.cell 4 1 (Nat.le_of_ble_eq_true rfl) (Nat.le_of_ble_eq_true rfl)
  have k0_2 : wg.cell? ⟨w.heap.size, 2, none⟩ = some (.bool inf) := HC4.out.cell 4 2 (Nat.le_of_ble_eq_true rfl) (Nat.le_of_ble_eq_true rfl)
  go_wp2_with fail
  clear k0_0 k0_1 k0_2
  refine (vadd _ _ A B _ _ _ (HC4.out.arg 0 (Nat.le_of_ble_eq_true rfl)) (HC4.out.arg 1 (Nat.le_of_ble_eq_true rfl)) (by decide) (by decide)).mono ?_
  rintro e wh ⟨rHT, rfl, hN⟩
  have hB := hN.2.2
  have Hwh : Hid (Lf w wh [(g4, [.slice none 0 0, .slice none 0 0, .bool false]), (we.heap.size, [.slice x3_0 x3_1 x3_2, .slice y3_0 y3_1 y3_2, .bool f3]), (wd.heap.size, [.slice x2_0 x2_1 x2_2, .slice y2_0 y2_1 y2_2, .bool f2]), (wc.heap.size, [.slice x1_0 x1_1 x1_2, .slice y1_0 y1_1 y1_2, .bool f1]), (w.heap.size, [.slice x0 x1 x2, .slice y0 y1 y2, .bool inf])] [(.slice a0 a1 a2, A), (.slice d0 d1 d2, B), (.slice x0 x1 x2, X), (.slice y0 y1 y2, Y)] [(.slice y3_0 y3_1 y3_2, Y3), (.slice x3_0 x3_1 x3_2, X3), (.slice y2_0 y2_1 y2_2, Y2), (.slice x2_0 x2_1 x2_2, X2), (.slice y1_0 y1_1 y1_2, Y1), (.slice x1_0 x1_1 x1_2, X1)]) := (HC4.out.below hB)
  obtain ⟨sHT0, sHT1, sHT2, rfl⟩ := (New.vl hN).shape
  have HT : Hid (Nu wh (.slice sHT0 sHT1 sHT2) (A + B)) := New.nu' HLS.out hN
  clear hN hB
  go_wp2_with fail
  have CS := vbits _ (A + B) _ wh HT.out (by decide)
  have zS : ∃ z : Int, z = ((bl (A + B) : Nat) : Int) := ⟨_, rfl⟩
  obtain ⟨zS, hzS⟩ := zS
  rw [← hzS] at CS
  have gtS : decide (zS ≤ 1024) = false := decide_eq_false (by omega)
  have glS : ¬ (zS ≤ 1024) := by omega
  clear hzS
  refine CS.mono ?_
  rintro e w_ ⟨rfl, rfl⟩
  clear CS
  have k0_0 : w_.cell? ⟨w.heap.size, 0, none⟩ = some (.slice x0 x1 x2) := Hwh.out.cell 4 0 (Nat.le_of_ble_eq_true rfl) (Nat.le_of_ble_eq_true rfl)
  have k0_1 : w_.cell? ⟨w.heap.size, 1, none⟩ = some (.slice y0 y1 y2) := Hwh.out.cell 4 1 (Nat.le_of_ble_eq_true rfl) (Nat.le_of_ble_eq_true rfl)
  have k0_2 : w_.cell? ⟨w.heap.size, 2, none⟩ = some (.bool inf) := Hwh.out.cell 4 2 (Nat.le_of_ble_eq_true rfl) (Nat.le_of_ble_eq_true rfl)
  go_wp2_with fail
  clear k0_0 k0_1 k0_2
  refine (mul_ok hk _ _ _ 0 X Y inf _ (Nk.none _ 384).1 (Hwh.out.arg 2 (Nat.le_of_ble_eq_true rfl)) (Hwh.out.arg 3 (Nat.le_of_ble_eq_true rfl)) o1 (by decide)).mono ?_
  rintro e wi ⟨r, rfl, hPa⟩
  rw [show ml p (0 % n) (ptO X Y inf) = .O by rw [Nat.zero_mod]; rfl] at hPa
  obtain ⟨rfl, hB⟩ := hPa
  have Hwi : Hid (Lf w wi [(g4, [.slice none 0 0, .slice none 0 0, .bool false]), (we.heap.size, [.slice x3_0 x3_1 x3_2, .slice y3_0 y3_1 y3_2, .bool f3]), (wd.heap.size, [.slice x2_0 x2_1 x2_2, .slice y2_0 y2_1 y2_2, .bool f2]), (wc.heap.size, [.slice x1_0 x1_1 x1_2, .slice y1_0 y1_1 y1_2, .bool f1]), (w.heap.size, [.slice x0 x1 x2, .slice y0 y1 y2, .bool inf])] [(.slice a0 a1 a2, A), (.slice d0 d1 d2, B), (.slice x0 x1 x2, X), (.slice y0 y1 y2, Y)] [(.slice y3_0 y3_1 y3_2, Y3), (.slice x3_0 x3_1 x3_2, X3), (.slice y2_0 y2_1 y2_2, Y2), (.slice x2_0 x2_1 x2_2, X2), (.slice y1_0 y1_1 y1_2, Y1), (.slice x1_0 x1_1 x1_2, X1)]) := (Hwh.out.below hB)
  clear hB
  have HB5 : Hid (Lf w (wi.alloc (.cells #[.slice none 0 0, .slice none 0 0, .bool true] 26)) [(wi.heap.size, [.slice none 0 0, .slice none 0 0, .bool true]), (g4, [.slice none 0 0, .slice none 0 0, .bool false]), (we.heap.size, [.slice x3_0 x3_1 x3_2, .slice y3_0 y3_1 y3_2, .bool f3]), (wd.heap.size, [.slice x2_0 x2_1 x2_2, .slice y2_0 y2_1 y2_2, .bool f2]), (wc.heap.size, [.slice x1_0 x1_1 x1_2, .slice y1_0 y1_1 y1_2, .bool f1]), (w.heap.size, [.slice x0 x1 x2, .slice y0 y1 y2, .bool inf])] [(.slice a0 a1 a2, A), (.slice d0 d1 d2, B), (.slice x0 x1 x2, X), (.slice y0 y1 y2, Y)] [(.slice y3_0 y3_1 y3_2, Y3), (.slice x3_0 x3_1 x3_2, X3), (.slice y2_0 y2_1 y2_2, Y2), (.slice x2_0 x2_1 x2_2, X2), (.slice y1_0 y1_1 y1_2, Y1), (.slice x1_0 x1_1 x1_2, X1)]) := Hwi.out.box [.slice none 0 0, .slice none 0 0, .bool true]
  have HR1 : Hid (Lf w ((wi.alloc (.cells #[.slice none 0 0, .slice none 0 0, .bool true] 26)).alloc (.cells #[.int .u32 1] 37)) [(wi.heap.size, [.slice none 0 0, .slice none 0 0, .bool true]), (g4, [.slice none 0 0, .slice none 0 0, .bool false]), (we.heap.size, [.slice x3_0 x3_1 x3_2, .slice y3_0 y3_1 y3_2, .bool f3]), (wd.heap.size, [.slice x2_0 x2_1 x2_2, .slice y2_0 y2_1 y2_2, .bool f2]), (wc.heap.size, [.slice x1_0 x1_1 x1_2, .slice y1_0 y1_1 y1_2, .bool f1]), (w.heap.size, [.slice x0 x1 x2, .slice y0 y1 y2, .bool inf])] [(.slice a0 a1 a2, A), (.slice d0 d1 d2, B), (.slice x0 x1 x2, X), (.slice y0 y1 y2, Y)] [(.slice y3_0 y3_1 y3_2, Y3), (.slice x3_0 x3_1 x3_2, X3), (.slice y2_0 y2_1 y2_2, Y2), (.slice x2_0 x2_1 x2_2, X2), (.slice y1_0 y1_1 y1_2, Y1), (.slice x1_0 x1_1 x1_2, X1)]) := HB5.out.below (alloc_below _ _)
  have HOn : Hid (Nu ((wi.alloc (.cells #[.slice none 0 0, .slice none 0 0, .bool true] 26)).alloc (.cells #[.int .u32 1] 37)) (.slice (some ⟨(wi.alloc (.cells #[.slice none 0 0, .slice none 0 0, .bool true] 26)).heap.size, 0, none⟩) 1 1) 1) := row_one (wi.alloc (.cells #[.slice none 0 0, .slice none 0 0, .bool true] 26)) 1 (by decide)
  rw [show (wi.alloc (.cells #[.slice none 0 0, .slice none 0 0, .bool true] 26)).heap.size = wi.heap.size + 1 from World.size_alloc _ _] at HOn
  have k0_0 : ((wi.alloc (.cells #[.slice none 0 0, .slice none 0 0, .bool true] 26)).alloc (.cells #[.int .u32 1] 37)).cell? ⟨w.heap.size, 0, none⟩ = some (.slice x0 x1 x2) := HR1.out.cell 5 0 (Nat.le_of_ble_eq_true rfl) (Nat.le_of_ble_eq_true rfl)
  have k0_1 : ((wi.alloc (.cells #[.slice none 0 0, .slice none 0 0, .bool true] 26)).alloc (.cells #[.int .u32 1] 37)).cell? ⟨w.heap.size, 1, none⟩ = some (.slice y0 y1 y2) := HR1.out.cell 5 1 (Nat.le_of_ble_eq_true rfl) (Nat.le_of_ble_eq_true rfl)
  have k0_2 : ((wi.alloc (.cells #[.slice none 0 0, .slice none 0 0, .bool true] 26)).alloc (.cells #[.int .u32 1] 37)).cell? ⟨w.heap.size, 2, none⟩ = some (.bool inf) := HR1.out.cell 5 2 (Nat.le_of_ble_eq_true rfl) (Nat.le_of_ble_eq_true rfl)
  go_wp2_with fail
  clear k0_0 k0_1 k0_2
  generalize ((wi.alloc (.cells #[.slice none 0 0, .slice none 0 0, .bool true] 26)).alloc (.cells #[.int .u32 1] 37)) = wv12 at *
  refine (mul_ok hk _ _ _ 1 X Y inf _ HOn.out (HR1.out.arg 2 (Nat.le_of_ble_eq_true rfl)) (HR1.out.arg 3 (Nat.le_of_ble_eq_true rfl)) o1 (by decide)).mono ?_
  rintro e wj ⟨r, rfl, hPa⟩
  rw [hk.m1 oP] at hPa
  have hB := hPa.bel
  obtain ⟨x6_0, y6_0, x6_1, x6_2, y6_1, y6_2, X6, Y6, f6, rfl, m1, m2, hpt, hz⟩ := hPa.open
  have E6 : Hid (ptO X6 Y6 f6 = (ptO X Y inf) ∧ (f6 = true → X6 = 0 ∧ Y6 = 0)) := ⟨hpt, hz⟩
  have Hwj : Hid (Lf w wj [(wi.heap.size, [.slice none 0 0, .slice none 0 0, .bool true]), (g4, [.slice none 0 0, .slice none 0 0, .bool false]), (we.heap.size, [.slice x3_0 x3_1 x3_2, .slice y3_0 y3_1 y3_2, .bool f3]), (wd.heap.size, [.slice x2_0 x2_1 x2_2, .slice y2_0 y2_1 y2_2, .bool f2]), (wc.heap.size, [.slice x1_0 x1_1 x1_2, .slice y1_0 y1_1 y1_2, .bool f1]), (w.heap.size, [.slice x0 x1 x2, .slice y0 y1 y2, .bool inf])] [(.slice a0 a1 a2, A), (.slice d0 d1 d2, B), (.slice x0 x1 x2, X), (.slice y0 y1 y2, Y)] [(.slice y6_0 y6_1 y6_2, Y6), (.slice x6_0 x6_1 x6_2, X6), (.slice y3_0 y3_1 y3_2, Y3), (.slice x3_0 x3_1 x3_2, X3), (.slice y2_0 y2_1 y2_2, Y2), (.slice x2_0 x2_1 x2_2, X2), (.slice y1_0 y1_1 y1_2, Y1), (.slice x1_0 x1_1 x1_2, X1)]) := (((HR1.out.below hB).res m1).res m2)
  clear hB m1 m2 hpt hz
  have HB6 : Hid (Lf w (wj.alloc (.cells #[.slice x6_0 x6_1 x6_2, .slice y6_0 y6_1 y6_2, .bool f6] 26)) [(wj.heap.size, [.slice x6_0 x6_1 x6_2, .slice y6_0 y6_1 y6_2, .bool f6]), (wi.heap.size, [.slice none 0 0, .slice none 0 0, .bool true]), (g4, [.slice none 0 0, .slice none 0 0, .bool false]), (we.heap.size, [.slice x3_0 x3_1 x3_2, .slice y3_0 y3_1 y3_2, .bool f3]), (wd.heap.size, [.slice x2_0 x2_1 x2_2, .slice y2_0 y2_1 y2_2, .bool f2]), (wc.heap.size, [.slice x1_0 x1_1 x1_2, .slice y1_0 y1_1 y1_2, .bool f1]), (w.heap.size, [.slice x0 x1 x2, .slice y0 y1 y2, .bool inf])] [(.slice a0 a1 a2, A), (.slice d0 d1 d2, B), (.slice x0 x1 x2, X), (.slice y0 y1 y2, Y)] [(.slice y6_0 y6_1 y6_2, Y6), (.slice x6_0 x6_1 x6_2, X6), (.slice y3_0 y3_1 y3_2, Y3), (.slice x3_0 x3_1 x3_2, X3), (.slice y2_0 y2_1 y2_2, Y2), (.slice x2_0 x2_1 x2_2, X2), (.slice y1_0 y1_1 y1_2, Y1), (.slice x1_0 x1_1 x1_2, X1)]) := Hwj.out.box [.slice x6_0 x6_1 x6_2, .slice y6_0 y6_1 y6_2, .bool f6]
  go_upto_region 21 with fail
  generalize (wj.alloc (.cells #[.slice x6_0 x6_1 x6_2, .slice y6_0 y6_1 y6_2, .bool f6] 26)) = wv14 at *
  go_cut [28, 29] from 158 to 165 (fun s1 s2 wx => ∃ (w' : World) (g : Nat), w' = wx ∧ s1 = .pointer (some ⟨g, 0, none⟩) ∧ s2 = .int .i64 0 ∧ Hid (Lf w w' [(g, [.slice none 0 0, .slice none 0 0, .bool true]), (wj.heap.size, [.slice x6_0 x6_1 x6_2, .slice y6_0 y6_1 y6_2, .bool f6]), (wi.heap.size, [.slice none 0 0, .slice none 0 0, .bool true]), (g4, [.slice none 0 0, .slice none 0 0, .bool false]), (we.heap.size, [.slice x3_0 x3_1 x3_2, .slice y3_0 y3_1 y3_2, .bool f3]), (wd.heap.size, [.slice x2_0 x2_1 x2_2, .slice y2_0 y2_1 y2_2, .bool f2]), (wc.heap.size, [.slice x1_0 x1_1 x1_2, .slice y1_0 y1_1 y1_2, .bool f1]), (w.heap.size, [.slice x0 x1 x2, .slice y0 y1 y2, .bool inf])] [(.slice a0 a1 a2, A), (.slice d0 d1 d2, B), (.slice x0 x1 x2, X), (.slice y0 y1 y2, Y)] [(.slice y6_0 y6_1 y6_2, Y6), (.slice x6_0 x6_1 x6_2, X6), (.slice y3_0 y3_1 y3_2, Y3), (.slice x3_0 x3_1 x3_2, X3), (.slice y2_0 y2_1 y2_2, Y2), (.slice x2_0 x2_1 x2_2, X2), (.slice y1_0 y1_1 y1_2, Y1), (.slice x1_0 x1_1 x1_2, X1)]))
  case first =>
    have HD : Hid (Lf w wv14.drew [(wj.heap.size, [.slice x6_0 x6_1 x6_2, .slice y6_0 y6_1 y6_2, .bool f6]), (wi.heap.size, [.slice none 0 0, .slice none 0 0, .bool true]), (g4, [.slice none 0 0, .slice none 0 0, .bool false]), (we.heap.size, [.slice x3_0 x3_1 x3_2, .slice y3_0 y3_1 y3_2, .bool f3]), (wd.heap.size, [.slice x2_0 x2_1 x2_2, .slice y2_0 y2_1 y2_2, .bool f2]), (wc.heap.size, [.slice x1_0 x1_1 x1_2, .slice y1_0 y1_1 y1_2, .bool f1]), (w.heap.size, [.slice x0 x1 x2, .slice y0 y1 y2, .bool inf])] [(.slice a0 a1 a2, A), (.slice d0 d1 d2, B), (.slice x0 x1 x2, X), (.slice y0 y1 y2, Y)] [(.slice y6_0 y6_1 y6_2, Y6), (.slice x6_0 x6_1 x6_2, X6), (.slice y3_0 y3_1 y3_2, Y3), (.slice x3_0 x3_1 x3_2, X3), (.slice y2_0 y2_1 y2_2, Y2), (.slice x2_0 x2_1 x2_2, X2), (.slice y1_0 y1_1 y1_2, Y1), (.slice x1_0 x1_1 x1_2, X1)]) := HB6.out.drew
    have HBd : Hid (Below wv14.drew.heap.size wv14.drew wv14.drew) := Below.refl _ _
    refine wp_region_K 4 (fun (w' : World) => w'.cell? ⟨w.heap.size, 0, none⟩ = some (.slice x0 x1 x2) ∧ w'.cell? ⟨w.heap.size, 1, none⟩ = some (.slice y0 y1 y2) ∧ w'.cell? ⟨w.heap.size, 2, none⟩ = some (.bool inf)) (by kernel_rfl) ?_
    have hHeld : ((fun (w' : World) => w'.cell? ⟨w.heap.size, 0, none⟩ = some (.slice x0 x1 x2) ∧ w'.cell? ⟨w.heap.size, 1, none⟩ = some (.slice y0 y1 y2) ∧ w'.cell? ⟨w.heap.size, 2, none⟩ = some (.bool inf))) (World.drew _) := ⟨HD.out.cell 6 0 (Nat.le_of_ble_eq_true rfl) (Nat.le_of_ble_eq_true rfl), HD.out.cell 6 1 (Nat.le_of_ble_eq_true rfl) (Nat.le_of_ble_eq_true rfl), HD.out.cell 6 2 (Nat.le_of_ble_eq_true rfl) (Nat.le_of_ble_eq_true rfl)⟩
    refine wpAnyK_take0 0 (v := ?v81) rfl (by kernel_rfl) (fun _ _ _ h => h) (Or.inl ⟨by rfl, ?hy81⟩) (fun _ => hHeld) ?_
    case hy81 => (intro w hSw; go_simp; try with_reducible rfl)
    try simp only [Act.put, List.setIfInBounds_toArray, List.set_cons_zero, List.set_cons_succ]
    refine wpAnyK_take0 1 (v := ?v82) rfl (by kernel_rfl) (fun _ _ _ h => h) (Or.inl ⟨by rfl, ?hy82⟩) (fun _ => hHeld) ?_
    case hy82 => (intro w hSw; go_simp; try with_reducible rfl)
    try simp only [Act.put, List.setIfInBounds_toArray, List.set_cons_zero, List.set_cons_succ]
    refine wpAnyK_take 3 [4] (v := ?v83) rfl (by kernel_rfl) (fun _ _ _ h => h) (Or.inl ⟨by rfl, ?hy83⟩) hHeld ?_
    case hy83 => (intro w hSw; (try dsimp only at hSw); go_simp; try with_reducible rfl)
    try simp only [Act.put, List.setIfInBounds_toArray, List.set_cons_zero, List.set_cons_succ]
    refine wpAnyK_two 2 8 rfl rfl (by kernel_rfl) (fun K hK => ?_) (fun K hK => ?_)
    · go_simp
      refine (order_v hk _).mono ?_
      rintro e wfa ⟨rS, rfl, mN, hBp⟩
      have HSa : Hid (Nu wfa rS n) := mN.nk.1
      clear mN
      have HBa1 : Hid (Below wv14.drew.heap.size wv14.drew wfa) := HBd.out.trans (hBp.mono HBd.out.size)
      clear hBp
      try dsimp only
      refine hK.out _ _ ?hk98 ?_
      case hk98 => exact fun _ => ⟨(HD.out.below HBa1.out).cell 6 0 (Nat.le_of_ble_eq_true rfl) (Nat.le_of_ble_eq_true rfl), (HD.out.below HBa1.out).cell 6 1 (Nat.le_of_ble_eq_true rfl) (Nat.le_of_ble_eq_true rfl), (HD.out.below HBa1.out).cell 6 2 (Nat.le_of_ble_eq_true rfl) (Nat.le_of_ble_eq_true rfl)⟩
      have hHeld : ((fun (w' : World) => w'.cell? ⟨w.heap.size, 0, none⟩ = some (.slice x0 x1 x2) ∧ w'.cell? ⟨w.heap.size, 1, none⟩ = some (.slice y0 y1 y2) ∧ w'.cell? ⟨w.heap.size, 2, none⟩ = some (.bool inf))) _ := ⟨(HD.out.below HBa1.out).cell 6 0 (Nat.le_of_ble_eq_true rfl) (Nat.le_of_ble_eq_true rfl), (HD.out.below HBa1.out).cell 6 1 (Nat.le_of_ble_eq_true rfl) (Nat.le_of_ble_eq_true rfl), (HD.out.below HBa1.out).cell 6 2 (Nat.le_of_ble_eq_true rfl) (Nat.le_of_ble_eq_true rfl)⟩
      clear hK K
      try simp only [Act.put, List.setIfInBounds_toArray, List.set_cons_zero, List.set_cons_succ]
      refine wpAnyK_two 4 8 rfl rfl (by kernel_rfl) (fun K hK => ?_) (fun K hK => ?_)
      · go_simp
        refine (mul_ok hk _ _ _ n X Y inf _ HSa.out ((HD.out.below HBa1.out).arg 2 (Nat.le_of_ble_eq_true rfl)) ((HD.out.below HBa1.out).arg 3 (Nat.le_of_ble_eq_true rfl)) o1 (bl_n hk)).mono ?_
        rintro e wga ⟨r, rfl, hPa⟩
        rw [hk.mn0] at hPa
        obtain ⟨rfl, hBp⟩ := hPa
        have HBa2 : Hid (Below wv14.drew.heap.size wv14.drew wga) := HBa1.out.trans (hBp.mono HBa1.out.size)
        clear hBp
        try dsimp only
        refine hK.out _ _ ?hk84 ?_
        case hk84 => exact fun _ => ⟨(HD.out.below HBa2.out).cell 6 0 (Nat.le_of_ble_eq_true rfl) (Nat.le_of_ble_eq_true rfl), (HD.out.below HBa2.out).cell 6 1 (Nat.le_of_ble_eq_true rfl) (Nat.le_of_ble_eq_true rfl), (HD.out.below HBa2.out).cell 6 2 (Nat.le_of_ble_eq_true rfl) (Nat.le_of_ble_eq_true rfl)⟩
        have hHeld : ((fun (w' : World) => w'.cell? ⟨w.heap.size, 0, none⟩ = some (.slice x0 x1 x2) ∧ w'.cell? ⟨w.heap.size, 1, none⟩ = some (.slice y0 y1 y2) ∧ w'.cell? ⟨w.heap.size, 2, none⟩ = some (.bool inf))) _ := ⟨(HD.out.below HBa2.out).cell 6 0 (Nat.le_of_ble_eq_true rfl) (Nat.le_of_ble_eq_true rfl), (HD.out.below HBa2.out).cell 6 1 (Nat.le_of_ble_eq_true rfl) (Nat.le_of_ble_eq_true rfl), (HD.out.below HBa2.out).cell 6 2 (Nat.le_of_ble_eq_true rfl) (Nat.le_of_ble_eq_true rfl)⟩
        clear hK K
        try simp only [Act.put, List.setIfInBounds_toArray, List.set_cons_zero, List.set_cons_succ]
        refine wpAnyK_take0 5 (v := ?v85) rfl (by kernel_rfl) (fun _ _ _ h => h) (Or.inl ⟨by rfl, ?hy85⟩) (fun _ => hHeld) ?_
        case hy85 => (intro w hSw; go_simp; try with_reducible rfl)
        try simp only [Act.put, List.setIfInBounds_toArray, List.set_cons_zero, List.set_cons_succ]
        refine wpAnyK_take0 6 (v := ?v86) rfl (by kernel_rfl) (fun _ _ _ h => h) (Or.inl ⟨by rfl, ?hy86⟩) (fun _ => hHeld) ?_
        case hy86 => (intro w hSw; go_simp; try with_reducible rfl)
        try simp only [Act.put, List.setIfInBounds_toArray, List.set_cons_zero, List.set_cons_succ]
        refine wpAnyK_take0 7 (v := ?v87) rfl (by kernel_rfl) (fun _ _ _ h => h) (Or.inl ⟨by rfl, ?hy87⟩) (fun _ => hHeld) ?_
        case hy87 => (intro w hSw; go_simp; try with_reducible rfl)
        try simp only [Act.put, List.setIfInBounds_toArray, List.set_cons_zero, List.set_cons_succ]
        refine wpAnyK_step 8 rfl (by kernel_rfl) (fun K hK => ?_)
        go_simp
        have hza : Below wga.heap.size wga (wga.alloc (.cells #[.slice none 0 0, .slice none 0 0, .bool false] 26)) := alloc_below _ _
        have HAa : Hid (Below wv14.drew.heap.size wv14.drew (wga.alloc (.cells #[.slice none 0 0, .slice none 0 0, .bool false] 26))) := HBa2.out.trans (hza.mono HBa2.out.size)
        have HZa : Hid (Bl 26 (wga.alloc (.cells #[.slice none 0 0, .slice none 0 0, .bool false] 26)) wga.heap.size [.slice none 0 0, .slice none 0 0, .bool false]) := alloc_bl wga [.slice none 0 0, .slice none 0 0, .bool false] 26
        try dsimp only
        refine hK.out _ _ ?hk88 ?_
        case hk88 => exact fun _ => ⟨(HD.out.below HAa.out).cell 6 0 (Nat.le_of_ble_eq_true rfl) (Nat.le_of_ble_eq_true rfl), (HD.out.below HAa.out).cell 6 1 (Nat.le_of_ble_eq_true rfl) (Nat.le_of_ble_eq_true rfl), (HD.out.below HAa.out).cell 6 2 (Nat.le_of_ble_eq_true rfl) (Nat.le_of_ble_eq_true rfl)⟩
        have hHeld : ((fun (w' : World) => w'.cell? ⟨w.heap.size, 0, none⟩ = some (.slice x0 x1 x2) ∧ w'.cell? ⟨w.heap.size, 1, none⟩ = some (.slice y0 y1 y2) ∧ w'.cell? ⟨w.heap.size, 2, none⟩ = some (.bool inf))) _ := ⟨(HD.out.below HAa.out).cell 6 0 (Nat.le_of_ble_eq_true rfl) (Nat.le_of_ble_eq_true rfl), (HD.out.below HAa.out).cell 6 1 (Nat.le_of_ble_eq_true rfl) (Nat.le_of_ble_eq_true rfl), (HD.out.below HAa.out).cell 6 2 (Nat.le_of_ble_eq_true rfl) (Nat.le_of_ble_eq_true rfl)⟩
        clear hK K
        try simp only [Act.put, List.setIfInBounds_toArray, List.set_cons_zero, List.set_cons_succ]
        refine wpAnyK_step 9 rfl (by kernel_rfl) (fun K hK => ?_)
        rw [if_pos (by kernel_rfl)]
        refine wp_store_row 26 _ _ rfl (wga.heap.size) #[.slice none 0 0, .slice none 0 0, .bool true] rfl rfl 26 #[.slice none 0 0, .slice none 0 0, .bool false] (HZa.out) (by kernel_rfl) rfl (by simp [Value.oneCell']) ?_
        refine hK.out _ _ ?hk89 ?_
        case hk89 => exact (fun h => nomatch (h.symm.trans (show _ = true by kernel_rfl)))
        clear hK K
        try simp only [Act.put]
        refine wpAnyK_take0 10 (v := ?v90) rfl (by kernel_rfl) (fun _ _ _ h => h) (Or.inl ⟨by rfl, ?hy90⟩) (fun h => nomatch (h.symm.trans (show _ = true by kernel_rfl))) ?_
        case hy90 => (intro w hSw; go_simp; try with_reducible rfl)
        try simp only [Act.put, List.setIfInBounds_toArray, List.set_cons_zero, List.set_cons_succ]
        refine wpAnyK_done (by kernel_rfl) ?_ _
        go_wp2_with fail
        go_meet
        have hR := Fm.row wga 26 [.slice none 0 0, .slice none 0 0, .bool false] [.slice none 0 0, .slice none 0 0, .bool true] rfl
        have hbF : Below wv14.drew.heap.size wv14.drew _ := HBa2.out.trans (hR.bel.mono HBa2.out.size)
        exact ⟨_, wga.heap.size, rfl, rfl, rfl, Lf.addb (HD.out.below hbF) (hR.bx 0 (by simp))⟩
      · go_simp
        have hzb : Below wfa.heap.size wfa (wfa.alloc (.cells #[.slice none 0 0, .slice none 0 0, .bool false] 26)) := alloc_below _ _
        have HAb : Hid (Below wv14.drew.heap.size wv14.drew (wfa.alloc (.cells #[.slice none 0 0, .slice none 0 0, .bool false] 26))) := HBa1.out.trans (hzb.mono HBa1.out.size)
        have HZb : Hid (Bl 26 (wfa.alloc (.cells #[.slice none 0 0, .slice none 0 0, .bool false] 26)) wfa.heap.size [.slice none 0 0, .slice none 0 0, .bool false]) := alloc_bl wfa [.slice none 0 0, .slice none 0 0, .bool false] 26
        have HSb : Hid (Nu (wfa.alloc (.cells #[.slice none 0 0, .slice none 0 0, .bool false] 26)) rS n) := HSa.out.below hzb (Nat.le_refl _)
        try dsimp only
        refine hK.out _ _ ?hk91 ?_
        case hk91 => exact fun _ => ⟨(HD.out.below HAb.out).cell 6 0 (Nat.le_of_ble_eq_true rfl) (Nat.le_of_ble_eq_true rfl), (HD.out.below HAb.out).cell 6 1 (Nat.le_of_ble_eq_true rfl) (Nat.le_of_ble_eq_true rfl), (HD.out.below HAb.out).cell 6 2 (Nat.le_of_ble_eq_true rfl) (Nat.le_of_ble_eq_true rfl)⟩
        have hHeld : ((fun (w' : World) => w'.cell? ⟨w.heap.size, 0, none⟩ = some (.slice x0 x1 x2) ∧ w'.cell? ⟨w.heap.size, 1, none⟩ = some (.slice y0 y1 y2) ∧ w'.cell? ⟨w.heap.size, 2, none⟩ = some (.bool inf))) _ := ⟨(HD.out.below HAb.out).cell 6 0 (Nat.le_of_ble_eq_true rfl) (Nat.le_of_ble_eq_true rfl), (HD.out.below HAb.out).cell 6 1 (Nat.le_of_ble_eq_true rfl) (Nat.le_of_ble_eq_true rfl), (HD.out.below HAb.out).cell 6 2 (Nat.le_of_ble_eq_true rfl) (Nat.le_of_ble_eq_true rfl)⟩
        clear hK K
        try simp only [Act.put, List.setIfInBounds_toArray, List.set_cons_zero, List.set_cons_succ]
        refine wpAnyK_step 4 rfl (by kernel_rfl) (fun K hK => ?_)
        go_simp
        refine (mul_ok hk _ _ _ n X Y inf _ HSb.out ((HD.out.below HAb.out).arg 2 (Nat.le_of_ble_eq_true rfl)) ((HD.out.below HAb.out).arg 3 (Nat.le_of_ble_eq_true rfl)) o1 (bl_n hk)).mono ?_
        rintro e wgb ⟨r, rfl, hPa⟩
        rw [hk.mn0] at hPa
        obtain ⟨rfl, hBp⟩ := hPa
        have HBb2 : Hid (Below wv14.drew.heap.size wv14.drew wgb) := HAb.out.trans (hBp.mono HAb.out.size)
        have HZb2 : Hid (Bl 26 wgb wfa.heap.size [.slice none 0 0, .slice none 0 0, .bool false]) := HZb.out.below hBp (HZb.out.lt)
        clear hBp
        try dsimp only
        refine hK.out _ _ ?hk92 ?_
        case hk92 => exact fun _ => ⟨(HD.out.below HBb2.out).cell 6 0 (Nat.le_of_ble_eq_true rfl) (Nat.le_of_ble_eq_true rfl), (HD.out.below HBb2.out).cell 6 1 (Nat.le_of_ble_eq_true rfl) (Nat.le_of_ble_eq_true rfl), (HD.out.below HBb2.out).cell 6 2 (Nat.le_of_ble_eq_true rfl) (Nat.le_of_ble_eq_true rfl)⟩
        have hHeld : ((fun (w' : World) => w'.cell? ⟨w.heap.size, 0, none⟩ = some (.slice x0 x1 x2) ∧ w'.cell? ⟨w.heap.size, 1, none⟩ = some (.slice y0 y1 y2) ∧ w'.cell? ⟨w.heap.size, 2, none⟩ = some (.bool inf))) _ := ⟨(HD.out.below HBb2.out).cell 6 0 (Nat.le_of_ble_eq_true rfl) (Nat.le_of_ble_eq_true rfl), (HD.out.below HBb2.out).cell 6 1 (Nat.le_of_ble_eq_true rfl) (Nat.le_of_ble_eq_true rfl), (HD.out.below HBb2.out).cell 6 2 (Nat.le_of_ble_eq_true rfl) (Nat.le_of_ble_eq_true rfl)⟩
        clear hK K
        try simp only [Act.put, List.setIfInBounds_toArray, List.set_cons_zero, List.set_cons_succ]
        refine wpAnyK_take0 5 (v := ?v93) rfl (by kernel_rfl) (fun _ _ _ h => h) (Or.inl ⟨by rfl, ?hy93⟩) (fun _ => hHeld) ?_
        case hy93 => (intro w hSw; go_simp; try with_reducible rfl)
        try simp only [Act.put, List.setIfInBounds_toArray, List.set_cons_zero, List.set_cons_succ]
        refine wpAnyK_take0 6 (v := ?v94) rfl (by kernel_rfl) (fun _ _ _ h => h) (Or.inl ⟨by rfl, ?hy94⟩) (fun _ => hHeld) ?_
        case hy94 => (intro w hSw; go_simp; try with_reducible rfl)
        try simp only [Act.put, List.setIfInBounds_toArray, List.set_cons_zero, List.set_cons_succ]
        refine wpAnyK_take0 7 (v := ?v95) rfl (by kernel_rfl) (fun _ _ _ h => h) (Or.inl ⟨by rfl, ?hy95⟩) (fun _ => hHeld) ?_
        case hy95 => (intro w hSw; go_simp; try with_reducible rfl)
        try simp only [Act.put, List.setIfInBounds_toArray, List.set_cons_zero, List.set_cons_succ]
        refine wpAnyK_step 9 rfl (by kernel_rfl) (fun K hK => ?_)
        rw [if_pos (by kernel_rfl)]
        refine wp_store_row 26 _ _ rfl (wfa.heap.size) #[.slice none 0 0, .slice none 0 0, .bool true] rfl rfl 26 #[.slice none 0 0, .slice none 0 0, .bool false] (HZb2.out) (by kernel_rfl) rfl (by simp [Value.oneCell']) ?_
        refine hK.out _ _ ?hk96 ?_
        case hk96 => exact (fun h => nomatch (h.symm.trans (show _ = true by kernel_rfl)))
        clear hK K
        try simp only [Act.put]
        refine wpAnyK_take0 10 (v := ?v97) rfl (by kernel_rfl) (fun _ _ _ h => h) (Or.inl ⟨by rfl, ?hy97⟩) (fun h => nomatch (h.symm.trans (show _ = true by kernel_rfl))) ?_
        case hy97 => (intro w hSw; go_simp; try with_reducible rfl)
        try simp only [Act.put, List.setIfInBounds_toArray, List.set_cons_zero, List.set_cons_succ]
        refine wpAnyK_done (by kernel_rfl) ?_ _
        go_wp2_with fail
        go_meet
        have hb := But.setRow wgb (wfa.heap.size) #[.slice none 0 0, .slice none 0 0, .bool true]
        have hbF : Below wv14.drew.heap.size wv14.drew _ := HBb2.out.trans (hb.below HBb2.out.size (show wv14.drew.heap.size ≤ wfa.heap.size from HBa1.out.size))
        exact ⟨_, wfa.heap.size, rfl, rfl, rfl, Lf.addb (HD.out.below hbF) (setRow_heap _ _ _ _ _ _ HZb2.out)⟩
    · go_simp
      have hzc : Below wv14.drew.heap.size wv14.drew (wv14.drew.alloc (.cells #[.slice none 0 0, .slice none 0 0, .bool false] 26)) := alloc_below _ _
      have HAc : Hid (Below wv14.drew.heap.size wv14.drew (wv14.drew.alloc (.cells #[.slice none 0 0, .slice none 0 0, .bool false] 26))) := HBd.out.trans (hzc.mono HBd.out.size)
      have HZc : Hid (Bl 26 (wv14.drew.alloc (.cells #[.slice none 0 0, .slice none 0 0, .bool false] 26)) wv14.drew.heap.size [.slice none 0 0, .slice none 0 0, .bool false]) := alloc_bl wv14.drew [.slice none 0 0, .slice none 0 0, .bool false] 26
      try dsimp only
      refine hK.out _ _ ?hk99 ?_
      case hk99 => exact fun _ => ⟨(HD.out.below HAc.out).cell 6 0 (Nat.le_of_ble_eq_true rfl) (Nat.le_of_ble_eq_true rfl), (HD.out.below HAc.out).cell 6 1 (Nat.le_of_ble_eq_true rfl) (Nat.le_of_ble_eq_true rfl), (HD.out.below HAc.out).cell 6 2 (Nat.le_of_ble_eq_true rfl) (Nat.le_of_ble_eq_true rfl)⟩
      have hHeld : ((fun (w' : World) => w'.cell? ⟨w.heap.size, 0, none⟩ = some (.slice x0 x1 x2) ∧ w'.cell? ⟨w.heap.size, 1, none⟩ = some (.slice y0 y1 y2) ∧ w'.cell? ⟨w.heap.size, 2, none⟩ = some (.bool inf))) _ := ⟨(HD.out.below HAc.out).cell 6 0 (Nat.le_of_ble_eq_true rfl) (Nat.le_of_ble_eq_true rfl), (HD.out.below HAc.out).cell 6 1 (Nat.le_of_ble_eq_true rfl) (Nat.le_of_ble_eq_true rfl), (HD.out.below HAc.out).cell 6 2 (Nat.le_of_ble_eq_true rfl) (Nat.le_of_ble_eq_true rfl)⟩
      clear hK K
      try simp only [Act.put, List.setIfInBounds_toArray, List.set_cons_zero, List.set_cons_succ]
      refine wpAnyK_step 2 rfl (by kernel_rfl) (fun K hK => ?_)
      go_simp
      refine (order_v hk _).mono ?_
      rintro e wfc ⟨rS, rfl, mN, hBp⟩
      have HSc : Hid (Nu wfc rS n) := mN.nk.1
      clear mN
      have HBc1 : Hid (Below wv14.drew.heap.size wv14.drew wfc) := HAc.out.trans (hBp.mono HAc.out.size)
      have HZc1 : Hid (Bl 26 wfc wv14.drew.heap.size [.slice none 0 0, .slice none 0 0, .bool false]) := HZc.out.below hBp HZc.out.lt
      clear hBp
      try dsimp only
      refine hK.out _ _ ?hk100 ?_
      case hk100 => exact fun _ => ⟨(HD.out.below HBc1.out).cell 6 0 (Nat.le_of_ble_eq_true rfl) (Nat.le_of_ble_eq_true rfl), (HD.out.below HBc1.out).cell 6 1 (Nat.le_of_ble_eq_true rfl) (Nat.le_of_ble_eq_true rfl), (HD.out.below HBc1.out).cell 6 2 (Nat.le_of_ble_eq_true rfl) (Nat.le_of_ble_eq_true rfl)⟩
      have hHeld : ((fun (w' : World) => w'.cell? ⟨w.heap.size, 0, none⟩ = some (.slice x0 x1 x2) ∧ w'.cell? ⟨w.heap.size, 1, none⟩ = some (.slice y0 y1 y2) ∧ w'.cell? ⟨w.heap.size, 2, none⟩ = some (.bool inf))) _ := ⟨(HD.out.below HBc1.out).cell 6 0 (Nat.le_of_ble_eq_true rfl) (Nat.le_of_ble_eq_true rfl), (HD.out.below HBc1.out).cell 6 1 (Nat.le_of_ble_eq_true rfl) (Nat.le_of_ble_eq_true rfl), (HD.out.below HBc1.out).cell 6 2 (Nat.le_of_ble_eq_true rfl) (Nat.le_of_ble_eq_true rfl)⟩
      clear hK K
      try simp only [Act.put, List.setIfInBounds_toArray, List.set_cons_zero, List.set_cons_succ]
      refine wpAnyK_step 4 rfl (by kernel_rfl) (fun K hK => ?_)
      go_simp
      refine (mul_ok hk _ _ _ n X Y inf _ HSc.out ((HD.out.below HBc1.out).arg 2 (Nat.le_of_ble_eq_true rfl)) ((HD.out.below HBc1.out).arg 3 (Nat.le_of_ble_eq_true rfl)) o1 (bl_n hk)).mono ?_
      rintro e wgc ⟨r, rfl, hPa⟩
      rw [hk.mn0] at hPa
      obtain ⟨rfl, hBp⟩ := hPa
      have HBc2 : Hid (Below wv14.drew.heap.size wv14.drew wgc) := HBc1.out.trans (hBp.mono HBc1.out.size)
      have HZc2 : Hid (Bl 26 wgc wv14.drew.heap.size [.slice none 0 0, .slice none 0 0, .bool false]) := HZc1.out.below hBp HZc1.out.lt
      clear hBp
      try dsimp only
      refine hK.out _ _ ?hk101 ?_
      case hk101 => exact fun _ => ⟨(HD.out.below HBc2.out).cell 6 0 (Nat.le_of_ble_eq_true rfl) (Nat.le_of_ble_eq_true rfl), (HD.out.below HBc2.out).cell 6 1 (Nat.le_of_ble_eq_true rfl) (Nat.le_of_ble_eq_true rfl), (HD.out.below HBc2.out).cell 6 2 (Nat.le_of_ble_eq_true rfl) (Nat.le_of_ble_eq_true rfl)⟩
      have hHeld : ((fun (w' : World) => w'.cell? ⟨w.heap.size, 0, none⟩ = some (.slice x0 x1 x2) ∧ w'.cell? ⟨w.heap.size, 1, none⟩ = some (.slice y0 y1 y2) ∧ w'.cell? ⟨w.heap.size, 2, none⟩ = some (.bool inf))) _ := ⟨(HD.out.below HBc2.out).cell 6 0 (Nat.le_of_ble_eq_true rfl) (Nat.le_of_ble_eq_true rfl), (HD.out.below HBc2.out).cell 6 1 (Nat.le_of_ble_eq_true rfl) (Nat.le_of_ble_eq_true rfl), (HD.out.below HBc2.out).cell 6 2 (Nat.le_of_ble_eq_true rfl) (Nat.le_of_ble_eq_true rfl)⟩
      clear hK K
      try simp only [Act.put, List.setIfInBounds_toArray, List.set_cons_zero, List.set_cons_succ]
      refine wpAnyK_take0 5 (v := ?v102) rfl (by kernel_rfl) (fun _ _ _ h => h) (Or.inl ⟨by rfl, ?hy102⟩) (fun _ => hHeld) ?_
      case hy102 => (intro w hSw; go_simp; try with_reducible rfl)
      try simp only [Act.put, List.setIfInBounds_toArray, List.set_cons_zero, List.set_cons_succ]
      refine wpAnyK_take0 6 (v := ?v103) rfl (by kernel_rfl) (fun _ _ _ h => h) (Or.inl ⟨by rfl, ?hy103⟩) (fun _ => hHeld) ?_
      case hy103 => (intro w hSw; go_simp; try with_reducible rfl)
      try simp only [Act.put, List.setIfInBounds_toArray, List.set_cons_zero, List.set_cons_succ]
      refine wpAnyK_take0 7 (v := ?v104) rfl (by kernel_rfl) (fun _ _ _ h => h) (Or.inl ⟨by rfl, ?hy104⟩) (fun _ => hHeld) ?_
      case hy104 => (intro w hSw; go_simp; try with_reducible rfl)
      try simp only [Act.put, List.setIfInBounds_toArray, List.set_cons_zero, List.set_cons_succ]
      refine wpAnyK_step 9 rfl (by kernel_rfl) (fun K hK => ?_)
      rw [if_pos (by kernel_rfl)]
      refine wp_store_row 26 _ _ rfl (wv14.drew.heap.size) #[.slice none 0 0, .slice none 0 0, .bool true] rfl rfl 26 #[.slice none 0 0, .slice none 0 0, .bool false] (HZc2.out) (by kernel_rfl) rfl (by simp [Value.oneCell']) ?_
      refine hK.out _ _ ?hk105 ?_
      case hk105 => exact (fun h => nomatch (h.symm.trans (show _ = true by kernel_rfl)))
      clear hK K
      try simp only [Act.put]
      refine wpAnyK_take0 10 (v := ?v106) rfl (by kernel_rfl) (fun _ _ _ h => h) (Or.inl ⟨by rfl, ?hy106⟩) (fun h => nomatch (h.symm.trans (show _ = true by kernel_rfl))) ?_
      case hy106 => (intro w hSw; go_simp; try with_reducible rfl)
      try simp only [Act.put, List.setIfInBounds_toArray, List.set_cons_zero, List.set_cons_succ]
      refine wpAnyK_done (by kernel_rfl) ?_ _
      go_wp2_with fail
      go_meet
      have hb := But.setRow wgc (wv14.drew.heap.size) #[.slice none 0 0, .slice none 0 0, .bool true]
      have hbF : Below wv14.drew.heap.size wv14.drew _ := HBc2.out.trans (hb.below HBc2.out.size (show wv14.drew.heap.size ≤ wv14.drew.heap.size from Nat.le_refl _))
      exact ⟨_, wv14.drew.heap.size, rfl, rfl, rfl, Lf.addb (HD.out.below hbF) (setRow_heap _ _ _ _ _ _ HZc2.out)⟩
  obtain ⟨wl, g7, rfl, rfl, rfl, HC7⟩ := hcut
  have k0_0 : wl.cell? ⟨w.heap.size, 0, none⟩ = some (.slice x0 x1 x2) := HC7.out.cell 7 0 (Nat.le_of_ble_eq_true rfl) (Nat.le_of_ble_eq_true rfl)
  have k0_1 : wl.cell? ⟨w.heap.size, 1, none⟩ = some (.slice y0 y1 y2) := HC7.out.cell 7 1 (Nat.le_of_ble_eq_true rfl) (Nat.le_of_ble_eq_true rfl)
  have k0_2 : wl.cell? ⟨w.heap.size, 2, none⟩ = some (.bool inf) := HC7.out.cell 7 2 (Nat.le_of_ble_eq_true rfl) (Nat.le_of_ble_eq_true rfl)
  have k5_0 : wl.cell? ⟨wi.heap.size, 0, none⟩ = some (.slice none 0 0) := HC7.out.cell 2 0 (Nat.le_of_ble_eq_true rfl) (Nat.le_of_ble_eq_true rfl)
  have k5_1 : wl.cell? ⟨wi.heap.size, 1, none⟩ = some (.slice none 0 0) := HC7.out.cell 2 1 (Nat.le_of_ble_eq_true rfl) (Nat.le_of_ble_eq_true rfl)
  have k5_2 : wl.cell? ⟨wi.heap.size, 2, none⟩ = some (.bool true) := HC7.out.cell 2 2 (Nat.le_of_ble_eq_true rfl) (Nat.le_of_ble_eq_true rfl)
  go_wp2_with fail
  clear k0_0 k0_1 k0_2 k5_0 k5_1 k5_2
  refine (add_ok hk _ _ _ _ X Y 0 0 inf true _ (HC7.out.arg 2 (Nat.le_of_ble_eq_true rfl)) (HC7.out.arg 3 (Nat.le_of_ble_eq_true rfl)) (Nk.none _ 384).1 (Nk.none _ 384).1 o1 (show onB p b 0 0 true = true from rfl)).mono ?_
  rintro e wm ⟨r, rfl, hPa⟩
  rw [show ptO 0 0 true = .O from rfl, C0.zr oP] at hPa
  have hB := hPa.bel
  obtain ⟨x8_0, y8_0, x8_1, x8_2, y8_1, y8_2, X8, Y8, f8, rfl, m1, m2, hpt, hz⟩ := hPa.open
  have E8 : Hid (ptO X8 Y8 f8 = (ptO X Y inf) ∧ (f8 = true → X8 = 0 ∧ Y8 = 0)) := ⟨hpt, hz⟩
  have Hwm : Hid (Lf w wm [(g7, [.slice none 0 0, .slice none 0 0, .bool true]), (wj.heap.size, [.slice x6_0 x6_1 x6_2, .slice y6_0 y6_1 y6_2, .bool f6]), (wi.heap.size, [.slice none 0 0, .slice none 0 0, .bool true]), (g4, [.slice none 0 0, .slice none 0 0, .bool false]), (we.heap.size, [.slice x3_0 x3_1 x3_2, .slice y3_0 y3_1 y3_2, .bool f3]), (wd.heap.size, [.slice x2_0 x2_1 x2_2, .slice y2_0 y2_1 y2_2, .bool f2]), (wc.heap.size, [.slice x1_0 x1_1 x1_2, .slice y1_0 y1_1 y1_2, .bool f1]), (w.heap.size, [.slice x0 x1 x2, .slice y0 y1 y2, .bool inf])] [(.slice a0 a1 a2, A), (.slice d0 d1 d2, B), (.slice x0 x1 x2, X), (.slice y0 y1 y2, Y)] [(.slice y8_0 y8_1 y8_2, Y8), (.slice x8_0 x8_1 x8_2, X8), (.slice y6_0 y6_1 y6_2, Y6), (.slice x6_0 x6_1 x6_2, X6), (.slice y3_0 y3_1 y3_2, Y3), (.slice x3_0 x3_1 x3_2, X3), (.slice y2_0 y2_1 y2_2, Y2), (.slice x2_0 x2_1 x2_2, X2), (.slice y1_0 y1_1 y1_2, Y1), (.slice x1_0 x1_1 x1_2, X1)]) := (((HC7.out.below hB).res m1).res m2)
  clear hB m1 m2 hpt hz
  have HB8 : Hid (Lf w (wm.alloc (.cells #[.slice x8_0 x8_1 x8_2, .slice y8_0 y8_1 y8_2, .bool f8] 26)) [(wm.heap.size, [.slice x8_0 x8_1 x8_2, .slice y8_0 y8_1 y8_2, .bool f8]), (g7, [.slice none 0 0, .slice none 0 0, .bool true]), (wj.heap.size, [.slice x6_0 x6_1 x6_2, .slice y6_0 y6_1 y6_2, .bool f6]), (wi.heap.size, [.slice none 0 0, .slice none 0 0, .bool true]), (g4, [.slice none 0 0, .slice none 0 0, .bool false]), (we.heap.size, [.slice x3_0 x3_1 x3_2, .slice y3_0 y3_1 y3_2, .bool f3]), (wd.heap.size, [.slice x2_0 x2_1 x2_2, .slice y2_0 y2_1 y2_2, .bool f2]), (wc.heap.size, [.slice x1_0 x1_1 x1_2, .slice y1_0 y1_1 y1_2, .bool f1]), (w.heap.size, [.slice x0 x1 x2, .slice y0 y1 y2, .bool inf])] [(.slice a0 a1 a2, A), (.slice d0 d1 d2, B), (.slice x0 x1 x2, X), (.slice y0 y1 y2, Y)] [(.slice y8_0 y8_1 y8_2, Y8), (.slice x8_0 x8_1 x8_2, X8), (.slice y6_0 y6_1 y6_2, Y6), (.slice x6_0 x6_1 x6_2, X6), (.slice y3_0 y3_1 y3_2, Y3), (.slice x3_0 x3_1 x3_2, X3), (.slice y2_0 y2_1 y2_2, Y2), (.slice x2_0 x2_1 x2_2, X2), (.slice y1_0 y1_1 y1_2, Y1), (.slice x1_0 x1_1 x1_2, X1)]) := Hwm.out.box [.slice x8_0 x8_1 x8_2, .slice y8_0 y8_1 y8_2, .bool f8]
  go_wp2_with fail
  generalize (wm.alloc (.cells #[.slice x8_0 x8_1 x8_2, .slice y8_0 y8_1 y8_2, .bool f8] 26)) = wv16 at *
  refine (base_v hk _).mono ?_
  rintro e wn ⟨r, rfl, hPa⟩
  obtain ⟨⟨gxv, gyv, rfl, m1, m2, _⟩, hB⟩ := hPa
  obtain ⟨gx0, gx1, gx2, rfl⟩ := m1.nk.sl
  obtain ⟨gy0, gy1, gy2, rfl⟩ := m2.nk.sl
  have Hwn : Hid (Lf w wn [(wm.heap.size, [.slice x8_0 x8_1 x8_2, .slice y8_0 y8_1 y8_2, .bool f8]), (g7, [.slice none 0 0, .slice none 0 0, .bool true]), (wj.heap.size, [.slice x6_0 x6_1 x6_2, .slice y6_0 y6_1 y6_2, .bool f6]), (wi.heap.size, [.slice none 0 0, .slice none 0 0, .bool true]), (g4, [.slice none 0 0, .slice none 0 0, .bool false]), (we.heap.size, [.slice x3_0 x3_1 x3_2, .slice y3_0 y3_1 y3_2, .bool f3]), (wd.heap.size, [.slice x2_0 x2_1 x2_2, .slice y2_0 y2_1 y2_2, .bool f2]), (wc.heap.size, [.slice x1_0 x1_1 x1_2, .slice y1_0 y1_1 y1_2, .bool f1]), (w.heap.size, [.slice x0 x1 x2, .slice y0 y1 y2, .bool inf])] [(.slice a0 a1 a2, A), (.slice d0 d1 d2, B), (.slice x0 x1 x2, X), (.slice y0 y1 y2, Y)] [(.slice gy0 gy1 gy2, gy), (.slice gx0 gx1 gx2, gx), (.slice y8_0 y8_1 y8_2, Y8), (.slice x8_0 x8_1 x8_2, X8), (.slice y6_0 y6_1 y6_2, Y6), (.slice x6_0 x6_1 x6_2, X6), (.slice y3_0 y3_1 y3_2, Y3), (.slice x3_0 x3_1 x3_2, X3), (.slice y2_0 y2_1 y2_2, Y2), (.slice x2_0 x2_1 x2_2, X2), (.slice y1_0 y1_1 y1_2, Y1), (.slice x1_0 x1_1 x1_2, X1)]) := (((HB8.out.below hB).res m1).res m2)
  clear hB m1 m2
  go_wp2_with fail
  have oG := hk.on
  refine (mul_ok hk _ _ _ A gx gy false _ (Hwn.out.arg 0 (Nat.le_of_ble_eq_true rfl)) (Hwn.out.got 1 (Nat.le_of_ble_eq_true rfl)).nk.1 (Hwn.out.got 0 (Nat.le_of_ble_eq_true rfl)).nk.1 hk.base_on hA).mono ?_
  rintro e wo ⟨r, rfl, hPa⟩
  have hB := hPa.bel
  obtain ⟨x9_0, y9_0, x9_1, x9_2, y9_1, y9_2, X9, Y9, f9, rfl, m1, m2, hpt, hz⟩ := hPa.open
  have E9 : Hid (ptO X9 Y9 f9 = ml p (A % n) (.A gx gy) ∧ (f9 = true → X9 = 0 ∧ Y9 = 0)) := ⟨hpt, hz⟩
  have Hwo : Hid (Lf w wo [(wm.heap.size, [.slice x8_0 x8_1 x8_2, .slice y8_0 y8_1 y8_2, .bool f8]), (g7, [.slice none 0 0, .slice none 0 0, .bool true]), (wj.heap.size, [.slice x6_0 x6_1 x6_2, .slice y6_0 y6_1 y6_2, .bool f6]), (wi.heap.size, [.slice none 0 0, .slice none 0 0, .bool true]), (g4, [.slice none 0 0, .slice none 0 0, .bool false]), (we.heap.size, [.slice x3_0 x3_1 x3_2, .slice y3_0 y3_1 y3_2, .bool f3]), (wd.heap.size, [.slice x2_0 x2_1 x2_2, .slice y2_0 y2_1 y2_2, .bool f2]), (wc.heap.size, [.slice x1_0 x1_1 x1_2, .slice y1_0 y1_1 y1_2, .bool f1]), (w.heap.size, [.slice x0 x1 x2, .slice y0 y1 y2, .bool inf])] [(.slice a0 a1 a2, A), (.slice d0 d1 d2, B), (.slice x0 x1 x2, X), (.slice y0 y1 y2, Y)] [(.slice y9_0 y9_1 y9_2, Y9), (.slice x9_0 x9_1 x9_2, X9), (.slice gy0 gy1 gy2, gy), (.slice gx0 gx1 gx2, gx), (.slice y8_0 y8_1 y8_2, Y8), (.slice x8_0 x8_1 x8_2, X8), (.slice y6_0 y6_1 y6_2, Y6), (.slice x6_0 x6_1 x6_2, X6), (.slice y3_0 y3_1 y3_2, Y3), (.slice x3_0 x3_1 x3_2, X3), (.slice y2_0 y2_1 y2_2, Y2), (.slice x2_0 x2_1 x2_2, X2), (.slice y1_0 y1_1 y1_2, Y1), (.slice x1_0 x1_1 x1_2, X1)]) := (((Hwn.out.below hB).res m1).res m2)
  clear hB m1 m2 hpt hz
  have HB9 : Hid (Lf w (wo.alloc (.cells #[.slice x9_0 x9_1 x9_2, .slice y9_0 y9_1 y9_2, .bool f9] 26)) [(wo.heap.size, [.slice x9_0 x9_1 x9_2, .slice y9_0 y9_1 y9_2, .bool f9]), (wm.heap.size, [.slice x8_0 x8_1 x8_2, .slice y8_0 y8_1 y8_2, .bool f8]), (g7, [.slice none 0 0, .slice none 0 0, .bool true]), (wj.heap.size, [.slice x6_0 x6_1 x6_2, .slice y6_0 y6_1 y6_2, .bool f6]), (wi.heap.size, [.slice none 0 0, .slice none 0 0, .bool true]), (g4, [.slice none 0 0, .slice none 0 0, .bool false]), (we.heap.size, [.slice x3_0 x3_1 x3_2, .slice y3_0 y3_1 y3_2, .bool f3]), (wd.heap.size, [.slice x2_0 x2_1 x2_2, .slice y2_0 y2_1 y2_2, .bool f2]), (wc.heap.size, [.slice x1_0 x1_1 x1_2, .slice y1_0 y1_1 y1_2, .bool f1]), (w.heap.size, [.slice x0 x1 x2, .slice y0 y1 y2, .bool inf])] [(.slice a0 a1 a2, A), (.slice d0 d1 d2, B), (.slice x0 x1 x2, X), (.slice y0 y1 y2, Y)] [(.slice y9_0 y9_1 y9_2, Y9), (.slice x9_0 x9_1 x9_2, X9), (.slice gy0 gy1 gy2, gy), (.slice gx0 gx1 gx2, gx), (.slice y8_0 y8_1 y8_2, Y8), (.slice x8_0 x8_1 x8_2, X8), (.slice y6_0 y6_1 y6_2, Y6), (.slice x6_0 x6_1 x6_2, X6), (.slice y3_0 y3_1 y3_2, Y3), (.slice x3_0 x3_1 x3_2, X3), (.slice y2_0 y2_1 y2_2, Y2), (.slice x2_0 x2_1 x2_2, X2), (.slice y1_0 y1_1 y1_2, Y1), (.slice x1_0 x1_1 x1_2, X1)]) := Hwo.out.box [.slice x9_0 x9_1 x9_2, .slice y9_0 y9_1 y9_2, .bool f9]
  have k2_0 : (wo.alloc (.cells #[.slice x9_0 x9_1 x9_2, .slice y9_0 y9_1 y9_2, .bool f9] 26)).cell? ⟨wd.heap.size, 0, none⟩ = some (.slice x2_0 x2_1 x2_2) := HB9.out.cell 7 0 (Nat.le_of_ble_eq_true rfl) (Nat.le_of_ble_eq_true rfl)
  have k2_1 : (wo.alloc (.cells #[.slice x9_0 x9_1 x9_2, .slice y9_0 y9_1 y9_2, .bool f9] 26)).cell? ⟨wd.heap.size, 1, none⟩ = some (.slice y2_0 y2_1 y2_2) := HB9.out.cell 7 1 (Nat.le_of_ble_eq_true rfl) (Nat.le_of_ble_eq_true rfl)
  have k2_2 : (wo.alloc (.cells #[.slice x9_0 x9_1 x9_2, .slice y9_0 y9_1 y9_2, .bool f9] 26)).cell? ⟨wd.heap.size, 2, none⟩ = some (.bool f2) := HB9.out.cell 7 2 (Nat.le_of_ble_eq_true rfl) (Nat.le_of_ble_eq_true rfl)
  have k9_0 : (wo.alloc (.cells #[.slice x9_0 x9_1 x9_2, .slice y9_0 y9_1 y9_2, .bool f9] 26)).cell? ⟨wo.heap.size, 0, none⟩ = some (.slice x9_0 x9_1 x9_2) := HB9.out.cell 0 0 (Nat.le_of_ble_eq_true rfl) (Nat.le_of_ble_eq_true rfl)
  have k9_1 : (wo.alloc (.cells #[.slice x9_0 x9_1 x9_2, .slice y9_0 y9_1 y9_2, .bool f9] 26)).cell? ⟨wo.heap.size, 1, none⟩ = some (.slice y9_0 y9_1 y9_2) := HB9.out.cell 0 1 (Nat.le_of_ble_eq_true rfl) (Nat.le_of_ble_eq_true rfl)
  have k9_2 : (wo.alloc (.cells #[.slice x9_0 x9_1 x9_2, .slice y9_0 y9_1 y9_2, .bool f9] 26)).cell? ⟨wo.heap.size, 2, none⟩ = some (.bool f9) := HB9.out.cell 0 2 (Nat.le_of_ble_eq_true rfl) (Nat.le_of_ble_eq_true rfl)
  go_wp2_with fail
  clear k2_0 k2_1 k2_2 k9_0 k9_1 k9_2
  generalize (wo.alloc (.cells #[.slice x9_0 x9_1 x9_2, .slice y9_0 y9_1 y9_2, .bool f9] 26)) = wv19 at *
  refine (add_ok hk _ _ _ _ X9 Y9 X2 Y2 f9 f2 _ (HB9.out.got 1 (Nat.le_of_ble_eq_true rfl)).nk.1 (HB9.out.got 0 (Nat.le_of_ble_eq_true rfl)).nk.1 (HB9.out.got 11 (Nat.le_of_ble_eq_true rfl)).nk.1 (HB9.out.got 10 (Nat.le_of_ble_eq_true rfl)).nk.1 (onB_of HPM.out E9.out (C0.mon oG _)) (onB_of HPM.out E2.out (C0.mon oP _))).mono ?_
  rintro e wp ⟨r, rfl, hPa⟩
  rw [E9.out.1, E2.out.1] at hPa
  have hB := hPa.bel
  obtain ⟨x10_0, y10_0, x10_1, x10_2, y10_1, y10_2, X10, Y10, f10, rfl, m1, m2, hpt, hz⟩ := hPa.open
  have E10 : Hid (ptO X10 Y10 f10 = sm p (ml p (A % n) (.A gx gy)) (ml p (B % n) (ptO X Y inf)) ∧ (f10 = true → X10 = 0 ∧ Y10 = 0)) := ⟨hpt, hz⟩
  have Hwp : Hid (Lf w wp [(wo.heap.size, [.slice x9_0 x9_1 x9_2, .slice y9_0 y9_1 y9_2, .bool f9]), (wm.heap.size, [.slice x8_0 x8_1 x8_2, .slice y8_0 y8_1 y8_2, .bool f8]), (g7, [.slice none 0 0, .slice none 0 0, .bool true]), (wj.heap.size, [.slice x6_0 x6_1 x6_2, .slice y6_0 y6_1 y6_2, .bool f6]), (wi.heap.size, [.slice none 0 0, .slice none 0 0, .bool true]), (g4, [.slice none 0 0, .slice none 0 0, .bool false]), (we.heap.size, [.slice x3_0 x3_1 x3_2, .slice y3_0 y3_1 y3_2, .bool f3]), (wd.heap.size, [.slice x2_0 x2_1 x2_2, .slice y2_0 y2_1 y2_2, .bool f2]), (wc.heap.size, [.slice x1_0 x1_1 x1_2, .slice y1_0 y1_1 y1_2, .bool f1]), (w.heap.size, [.slice x0 x1 x2, .slice y0 y1 y2, .bool inf])] [(.slice a0 a1 a2, A), (.slice d0 d1 d2, B), (.slice x0 x1 x2, X), (.slice y0 y1 y2, Y)] [(.slice y10_0 y10_1 y10_2, Y10), (.slice x10_0 x10_1 x10_2, X10), (.slice y9_0 y9_1 y9_2, Y9), (.slice x9_0 x9_1 x9_2, X9), (.slice gy0 gy1 gy2, gy), (.slice gx0 gx1 gx2, gx), (.slice y8_0 y8_1 y8_2, Y8), (.slice x8_0 x8_1 x8_2, X8), (.slice y6_0 y6_1 y6_2, Y6), (.slice x6_0 x6_1 x6_2, X6), (.slice y3_0 y3_1 y3_2, Y3), (.slice x3_0 x3_1 x3_2, X3), (.slice y2_0 y2_1 y2_2, Y2), (.slice x2_0 x2_1 x2_2, X2), (.slice y1_0 y1_1 y1_2, Y1), (.slice x1_0 x1_1 x1_2, X1)]) := (((HB9.out.below hB).res m1).res m2)
  clear hB m1 m2 hpt hz
  have HB10 : Hid (Lf w (wp.alloc (.cells #[.slice x10_0 x10_1 x10_2, .slice y10_0 y10_1 y10_2, .bool f10] 26)) [(wp.heap.size, [.slice x10_0 x10_1 x10_2, .slice y10_0 y10_1 y10_2, .bool f10]), (wo.heap.size, [.slice x9_0 x9_1 x9_2, .slice y9_0 y9_1 y9_2, .bool f9]), (wm.heap.size, [.slice x8_0 x8_1 x8_2, .slice y8_0 y8_1 y8_2, .bool f8]), (g7, [.slice none 0 0, .slice none 0 0, .bool true]), (wj.heap.size, [.slice x6_0 x6_1 x6_2, .slice y6_0 y6_1 y6_2, .bool f6]), (wi.heap.size, [.slice none 0 0, .slice none 0 0, .bool true]), (g4, [.slice none 0 0, .slice none 0 0, .bool false]), (we.heap.size, [.slice x3_0 x3_1 x3_2, .slice y3_0 y3_1 y3_2, .bool f3]), (wd.heap.size, [.slice x2_0 x2_1 x2_2, .slice y2_0 y2_1 y2_2, .bool f2]), (wc.heap.size, [.slice x1_0 x1_1 x1_2, .slice y1_0 y1_1 y1_2, .bool f1]), (w.heap.size, [.slice x0 x1 x2, .slice y0 y1 y2, .bool inf])] [(.slice a0 a1 a2, A), (.slice d0 d1 d2, B), (.slice x0 x1 x2, X), (.slice y0 y1 y2, Y)] [(.slice y10_0 y10_1 y10_2, Y10), (.slice x10_0 x10_1 x10_2, X10), (.slice y9_0 y9_1 y9_2, Y9), (.slice x9_0 x9_1 x9_2, X9), (.slice gy0 gy1 gy2, gy), (.slice gx0 gx1 gx2, gx), (.slice y8_0 y8_1 y8_2, Y8), (.slice x8_0 x8_1 x8_2, X8), (.slice y6_0 y6_1 y6_2, Y6), (.slice x6_0 x6_1 x6_2, X6), (.slice y3_0 y3_1 y3_2, Y3), (.slice x3_0 x3_1 x3_2, X3), (.slice y2_0 y2_1 y2_2, Y2), (.slice x2_0 x2_1 x2_2, X2), (.slice y1_0 y1_1 y1_2, Y1), (.slice x1_0 x1_1 x1_2, X1)]) := Hwp.out.box [.slice x10_0 x10_1 x10_2, .slice y10_0 y10_1 y10_2, .bool f10]
  have k0_0 : (wp.alloc (.cells #[.slice x10_0 x10_1 x10_2, .slice y10_0 y10_1 y10_2, .bool f10] 26)).cell? ⟨w.heap.size, 0, none⟩ = some (.slice x0 x1 x2) := HB10.out.cell 10 0 (Nat.le_of_ble_eq_true rfl) (Nat.le_of_ble_eq_true rfl)
  have k0_1 : (wp.alloc (.cells #[.slice x10_0 x10_1 x10_2, .slice y10_0 y10_1 y10_2, .bool f10] 26)).cell? ⟨w.heap.size, 1, none⟩ = some (.slice y0 y1 y2) := HB10.out.cell 10 1 (Nat.le_of_ble_eq_true rfl) (Nat.le_of_ble_eq_true rfl)
  have k0_2 : (wp.alloc (.cells #[.slice x10_0 x10_1 x10_2, .slice y10_0 y10_1 y10_2, .bool f10] 26)).cell? ⟨w.heap.size, 2, none⟩ = some (.bool inf) := HB10.out.cell 10 2 (Nat.le_of_ble_eq_true rfl) (Nat.le_of_ble_eq_true rfl)
  go_wp2_with fail
  clear k0_0 k0_1 k0_2
  generalize (wp.alloc (.cells #[.slice x10_0 x10_1 x10_2, .slice y10_0 y10_1 y10_2, .bool f10] 26)) = wv21 at *
  refine (joint_ok hk _ _ _ _ A B X Y inf _ (HB10.out.arg 0 (Nat.le_of_ble_eq_true rfl)) (HB10.out.arg 1 (Nat.le_of_ble_eq_true rfl)) (HB10.out.arg 2 (Nat.le_of_ble_eq_true rfl)) (HB10.out.arg 3 (Nat.le_of_ble_eq_true rfl)) o1 hA hBl).mono ?_
  rintro e wq ⟨r, rfl, hPa⟩
  have hB := hPa.bel
  obtain ⟨x11_0, y11_0, x11_1, x11_2, y11_1, y11_2, X11, Y11, f11, rfl, m1, m2, hpt, hz⟩ := hPa.open
  have E11 : Hid (ptO X11 Y11 f11 = sm p (ml p (A % n) (.A gx gy)) (ml p (B % n) (ptO X Y inf)) ∧ (f11 = true → X11 = 0 ∧ Y11 = 0)) := ⟨hpt, hz⟩
  have Hwq : Hid (Lf w wq [(wp.heap.size, [.slice x10_0 x10_1 x10_2, .slice y10_0 y10_1 y10_2, .bool f10]), (wo.heap.size, [.slice x9_0 x9_1 x9_2, .slice y9_0 y9_1 y9_2, .bool f9]), (wm.heap.size, [.slice x8_0 x8_1 x8_2, .slice y8_0 y8_1 y8_2, .bool f8]), (g7, [.slice none 0 0, .slice none 0 0, .bool true]), (wj.heap.size, [.slice x6_0 x6_1 x6_2, .slice y6_0 y6_1 y6_2, .bool f6]), (wi.heap.size, [.slice none 0 0, .slice none 0 0, .bool true]), (g4, [.slice none 0 0, .slice none 0 0, .bool false]), (we.heap.size, [.slice x3_0 x3_1 x3_2, .slice y3_0 y3_1 y3_2, .bool f3]), (wd.heap.size, [.slice x2_0 x2_1 x2_2, .slice y2_0 y2_1 y2_2, .bool f2]), (wc.heap.size, [.slice x1_0 x1_1 x1_2, .slice y1_0 y1_1 y1_2, .bool f1]), (w.heap.size, [.slice x0 x1 x2, .slice y0 y1 y2, .bool inf])] [(.slice a0 a1 a2, A), (.slice d0 d1 d2, B), (.slice x0 x1 x2, X), (.slice y0 y1 y2, Y)] [(.slice y11_0 y11_1 y11_2, Y11), (.slice x11_0 x11_1 x11_2, X11), (.slice y10_0 y10_1 y10_2, Y10), (.slice x10_0 x10_1 x10_2, X10), (.slice y9_0 y9_1 y9_2, Y9), (.slice x9_0 x9_1 x9_2, X9), (.slice gy0 gy1 gy2, gy), (.slice gx0 gx1 gx2, gx), (.slice y8_0 y8_1 y8_2, Y8), (.slice x8_0 x8_1 x8_2, X8), (.slice y6_0 y6_1 y6_2, Y6), (.slice x6_0 x6_1 x6_2, X6), (.slice y3_0 y3_1 y3_2, Y3), (.slice x3_0 x3_1 x3_2, X3), (.slice y2_0 y2_1 y2_2, Y2), (.slice x2_0 x2_1 x2_2, X2), (.slice y1_0 y1_1 y1_2, Y1), (.slice x1_0 x1_1 x1_2, X1)]) := (((HB10.out.below hB).res m1).res m2)
  clear hB m1 m2 hpt hz
  have HB11 : Hid (Lf w (wq.alloc (.cells #[.slice x11_0 x11_1 x11_2, .slice y11_0 y11_1 y11_2, .bool f11] 26)) [(wq.heap.size, [.slice x11_0 x11_1 x11_2, .slice y11_0 y11_1 y11_2, .bool f11]), (wp.heap.size, [.slice x10_0 x10_1 x10_2, .slice y10_0 y10_1 y10_2, .bool f10]), (wo.heap.size, [.slice x9_0 x9_1 x9_2, .slice y9_0 y9_1 y9_2, .bool f9]), (wm.heap.size, [.slice x8_0 x8_1 x8_2, .slice y8_0 y8_1 y8_2, .bool f8]), (g7, [.slice none 0 0, .slice none 0 0, .bool true]), (wj.heap.size, [.slice x6_0 x6_1 x6_2, .slice y6_0 y6_1 y6_2, .bool f6]), (wi.heap.size, [.slice none 0 0, .slice none 0 0, .bool true]), (g4, [.slice none 0 0, .slice none 0 0, .bool false]), (we.heap.size, [.slice x3_0 x3_1 x3_2, .slice y3_0 y3_1 y3_2, .bool f3]), (wd.heap.size, [.slice x2_0 x2_1 x2_2, .slice y2_0 y2_1 y2_2, .bool f2]), (wc.heap.size, [.slice x1_0 x1_1 x1_2, .slice y1_0 y1_1 y1_2, .bool f1]), (w.heap.size, [.slice x0 x1 x2, .slice y0 y1 y2, .bool inf])] [(.slice a0 a1 a2, A), (.slice d0 d1 d2, B), (.slice x0 x1 x2, X), (.slice y0 y1 y2, Y)] [(.slice y11_0 y11_1 y11_2, Y11), (.slice x11_0 x11_1 x11_2, X11), (.slice y10_0 y10_1 y10_2, Y10), (.slice x10_0 x10_1 x10_2, X10), (.slice y9_0 y9_1 y9_2, Y9), (.slice x9_0 x9_1 x9_2, X9), (.slice gy0 gy1 gy2, gy), (.slice gx0 gx1 gx2, gx), (.slice y8_0 y8_1 y8_2, Y8), (.slice x8_0 x8_1 x8_2, X8), (.slice y6_0 y6_1 y6_2, Y6), (.slice x6_0 x6_1 x6_2, X6), (.slice y3_0 y3_1 y3_2, Y3), (.slice x3_0 x3_1 x3_2, X3), (.slice y2_0 y2_1 y2_2, Y2), (.slice x2_0 x2_1 x2_2, X2), (.slice y1_0 y1_1 y1_2, Y1), (.slice x1_0 x1_1 x1_2, X1)]) := Hwq.out.box [.slice x11_0 x11_1 x11_2, .slice y11_0 y11_1 y11_2, .bool f11]
  have k5_0 : (wq.alloc (.cells #[.slice x11_0 x11_1 x11_2, .slice y11_0 y11_1 y11_2, .bool f11] 26)).cell? ⟨wi.heap.size, 0, none⟩ = some (.slice none 0 0) := HB11.out.cell 6 0 (Nat.le_of_ble_eq_true rfl) (Nat.le_of_ble_eq_true rfl)
  have k5_1 : (wq.alloc (.cells #[.slice x11_0 x11_1 x11_2, .slice y11_0 y11_1 y11_2, .bool f11] 26)).cell? ⟨wi.heap.size, 1, none⟩ = some (.slice none 0 0) := HB11.out.cell 6 1 (Nat.le_of_ble_eq_true rfl) (Nat.le_of_ble_eq_true rfl)
  have k5_2 : (wq.alloc (.cells #[.slice x11_0 x11_1 x11_2, .slice y11_0 y11_1 y11_2, .bool f11] 26)).cell? ⟨wi.heap.size, 2, none⟩ = some (.bool true) := HB11.out.cell 6 2 (Nat.le_of_ble_eq_true rfl) (Nat.le_of_ble_eq_true rfl)
  have k6_0 : (wq.alloc (.cells #[.slice x11_0 x11_1 x11_2, .slice y11_0 y11_1 y11_2, .bool f11] 26)).cell? ⟨wj.heap.size, 0, none⟩ = some (.slice x6_0 x6_1 x6_2) := HB11.out.cell 5 0 (Nat.le_of_ble_eq_true rfl) (Nat.le_of_ble_eq_true rfl)
  have k6_1 : (wq.alloc (.cells #[.slice x11_0 x11_1 x11_2, .slice y11_0 y11_1 y11_2, .bool f11] 26)).cell? ⟨wj.heap.size, 1, none⟩ = some (.slice y6_0 y6_1 y6_2) := HB11.out.cell 5 1 (Nat.le_of_ble_eq_true rfl) (Nat.le_of_ble_eq_true rfl)
  have k6_2 : (wq.alloc (.cells #[.slice x11_0 x11_1 x11_2, .slice y11_0 y11_1 y11_2, .bool f11] 26)).cell? ⟨wj.heap.size, 2, none⟩ = some (.bool f6) := HB11.out.cell 5 2 (Nat.le_of_ble_eq_true rfl) (Nat.le_of_ble_eq_true rfl)
  have k7_0 : (wq.alloc (.cells #[.slice x11_0 x11_1 x11_2, .slice y11_0 y11_1 y11_2, .bool f11] 26)).cell? ⟨g7, 0, none⟩ = some (.slice none 0 0) := HB11.out.cell 4 0 (Nat.le_of_ble_eq_true rfl) (Nat.le_of_ble_eq_true rfl)
  have k7_1 : (wq.alloc (.cells #[.slice x11_0 x11_1 x11_2, .slice y11_0 y11_1 y11_2, .bool f11] 26)).cell? ⟨g7, 1, none⟩ = some (.slice none 0 0) := HB11.out.cell 4 1 (Nat.le_of_ble_eq_true rfl) (Nat.le_of_ble_eq_true rfl)
  have k7_2 : (wq.alloc (.cells #[.slice x11_0 x11_1 x11_2, .slice y11_0 y11_1 y11_2, .bool f11] 26)).cell? ⟨g7, 2, none⟩ = some (.bool true) := HB11.out.cell 4 2 (Nat.le_of_ble_eq_true rfl) (Nat.le_of_ble_eq_true rfl)
  have k8_0 : (wq.alloc (.cells #[.slice x11_0 x11_1 x11_2, .slice y11_0 y11_1 y11_2, .bool f11] 26)).cell? ⟨wm.heap.size, 0, none⟩ = some (.slice x8_0 x8_1 x8_2) := HB11.out.cell 3 0 (Nat.le_of_ble_eq_true rfl) (Nat.le_of_ble_eq_true rfl)
  have k8_1 : (wq.alloc (.cells #[.slice x11_0 x11_1 x11_2, .slice y11_0 y11_1 y11_2, .bool f11] 26)).cell? ⟨wm.heap.size, 1, none⟩ = some (.slice y8_0 y8_1 y8_2) := HB11.out.cell 3 1 (Nat.le_of_ble_eq_true rfl) (Nat.le_of_ble_eq_true rfl)
  have k8_2 : (wq.alloc (.cells #[.slice x11_0 x11_1 x11_2, .slice y11_0 y11_1 y11_2, .bool f11] 26)).cell? ⟨wm.heap.size, 2, none⟩ = some (.bool f8) := HB11.out.cell 3 2 (Nat.le_of_ble_eq_true rfl) (Nat.le_of_ble_eq_true rfl)
  go_wp2_with fail
  clear k5_0 k5_1 k5_2 k6_0 k6_1 k6_2 k7_0 k7_1 k7_2 k8_0 k8_1 k8_2
  generalize (wq.alloc (.cells #[.slice x11_0 x11_1 x11_2, .slice y11_0 y11_1 y11_2, .bool f11] 26)) = wv23 at *
  refine (same_pt _ _ _ _ X6 Y6 X8 Y8 f6 f8 _ _ (HB11.out.got 11 (Nat.le_of_ble_eq_true rfl)) (HB11.out.got 10 (Nat.le_of_ble_eq_true rfl)) (HB11.out.got 9 (Nat.le_of_ble_eq_true rfl)) (HB11.out.got 8 (Nat.le_of_ble_eq_true rfl)) E6.out E8.out).mono ?_
  rintro e wr ⟨rfl, hB⟩
  have Hwr : Hid (Lf w wr [(wq.heap.size, [.slice x11_0 x11_1 x11_2, .slice y11_0 y11_1 y11_2, .bool f11]), (wp.heap.size, [.slice x10_0 x10_1 x10_2, .slice y10_0 y10_1 y10_2, .bool f10]), (wo.heap.size, [.slice x9_0 x9_1 x9_2, .slice y9_0 y9_1 y9_2, .bool f9]), (wm.heap.size, [.slice x8_0 x8_1 x8_2, .slice y8_0 y8_1 y8_2, .bool f8]), (g7, [.slice none 0 0, .slice none 0 0, .bool true]), (wj.heap.size, [.slice x6_0 x6_1 x6_2, .slice y6_0 y6_1 y6_2, .bool f6]), (wi.heap.size, [.slice none 0 0, .slice none 0 0, .bool true]), (g4, [.slice none 0 0, .slice none 0 0, .bool false]), (we.heap.size, [.slice x3_0 x3_1 x3_2, .slice y3_0 y3_1 y3_2, .bool f3]), (wd.heap.size, [.slice x2_0 x2_1 x2_2, .slice y2_0 y2_1 y2_2, .bool f2]), (wc.heap.size, [.slice x1_0 x1_1 x1_2, .slice y1_0 y1_1 y1_2, .bool f1]), (w.heap.size, [.slice x0 x1 x2, .slice y0 y1 y2, .bool inf])] [(.slice a0 a1 a2, A), (.slice d0 d1 d2, B), (.slice x0 x1 x2, X), (.slice y0 y1 y2, Y)] [(.slice y11_0 y11_1 y11_2, Y11), (.slice x11_0 x11_1 x11_2, X11), (.slice y10_0 y10_1 y10_2, Y10), (.slice x10_0 x10_1 x10_2, X10), (.slice y9_0 y9_1 y9_2, Y9), (.slice x9_0 x9_1 x9_2, X9), (.slice gy0 gy1 gy2, gy), (.slice gx0 gx1 gx2, gx), (.slice y8_0 y8_1 y8_2, Y8), (.slice x8_0 x8_1 x8_2, X8), (.slice y6_0 y6_1 y6_2, Y6), (.slice x6_0 x6_1 x6_2, X6), (.slice y3_0 y3_1 y3_2, Y3), (.slice x3_0 x3_1 x3_2, X3), (.slice y2_0 y2_1 y2_2, Y2), (.slice x2_0 x2_1 x2_2, X2), (.slice y1_0 y1_1 y1_2, Y1), (.slice x1_0 x1_1 x1_2, X1)]) := (HB11.out.below hB)
  clear hB
  have k10_0 : wr.cell? ⟨wp.heap.size, 0, none⟩ = some (.slice x10_0 x10_1 x10_2) := Hwr.out.cell 1 0 (Nat.le_of_ble_eq_true rfl) (Nat.le_of_ble_eq_true rfl)
  have k10_1 : wr.cell? ⟨wp.heap.size, 1, none⟩ = some (.slice y10_0 y10_1 y10_2) := Hwr.out.cell 1 1 (Nat.le_of_ble_eq_true rfl) (Nat.le_of_ble_eq_true rfl)
  have k10_2 : wr.cell? ⟨wp.heap.size, 2, none⟩ = some (.bool f10) := Hwr.out.cell 1 2 (Nat.le_of_ble_eq_true rfl) (Nat.le_of_ble_eq_true rfl)
  have k11_0 : wr.cell? ⟨wq.heap.size, 0, none⟩ = some (.slice x11_0 x11_1 x11_2) := Hwr.out.cell 0 0 (Nat.le_of_ble_eq_true rfl) (Nat.le_of_ble_eq_true rfl)
  have k11_1 : wr.cell? ⟨wq.heap.size, 1, none⟩ = some (.slice y11_0 y11_1 y11_2) := Hwr.out.cell 0 1 (Nat.le_of_ble_eq_true rfl) (Nat.le_of_ble_eq_true rfl)
  have k11_2 : wr.cell? ⟨wq.heap.size, 2, none⟩ = some (.bool f11) := Hwr.out.cell 0 2 (Nat.le_of_ble_eq_true rfl) (Nat.le_of_ble_eq_true rfl)
  go_wp2_with fail
  clear k10_0 k10_1 k10_2 k11_0 k11_1 k11_2
  refine (same_pt _ _ _ _ X11 Y11 X10 Y10 f11 f10 _ _ (Hwr.out.got 1 (Nat.le_of_ble_eq_true rfl)) (Hwr.out.got 0 (Nat.le_of_ble_eq_true rfl)) (Hwr.out.got 3 (Nat.le_of_ble_eq_true rfl)) (Hwr.out.got 2 (Nat.le_of_ble_eq_true rfl)) E11.out E10.out).mono ?_
  rintro e ws ⟨rfl, hB⟩
  have Hws : Hid (Lf w ws [(wq.heap.size, [.slice x11_0 x11_1 x11_2, .slice y11_0 y11_1 y11_2, .bool f11]), (wp.heap.size, [.slice x10_0 x10_1 x10_2, .slice y10_0 y10_1 y10_2, .bool f10]), (wo.heap.size, [.slice x9_0 x9_1 x9_2, .slice y9_0 y9_1 y9_2, .bool f9]), (wm.heap.size, [.slice x8_0 x8_1 x8_2, .slice y8_0 y8_1 y8_2, .bool f8]), (g7, [.slice none 0 0, .slice none 0 0, .bool true]), (wj.heap.size, [.slice x6_0 x6_1 x6_2, .slice y6_0 y6_1 y6_2, .bool f6]), (wi.heap.size, [.slice none 0 0, .slice none 0 0, .bool true]), (g4, [.slice none 0 0, .slice none 0 0, .bool false]), (we.heap.size, [.slice x3_0 x3_1 x3_2, .slice y3_0 y3_1 y3_2, .bool f3]), (wd.heap.size, [.slice x2_0 x2_1 x2_2, .slice y2_0 y2_1 y2_2, .bool f2]), (wc.heap.size, [.slice x1_0 x1_1 x1_2, .slice y1_0 y1_1 y1_2, .bool f1]), (w.heap.size, [.slice x0 x1 x2, .slice y0 y1 y2, .bool inf])] [(.slice a0 a1 a2, A), (.slice d0 d1 d2, B), (.slice x0 x1 x2, X), (.slice y0 y1 y2, Y)] [(.slice y11_0 y11_1 y11_2, Y11), (.slice x11_0 x11_1 x11_2, X11), (.slice y10_0 y10_1 y10_2, Y10), (.slice x10_0 x10_1 x10_2, X10), (.slice y9_0 y9_1 y9_2, Y9), (.slice x9_0 x9_1 x9_2, X9), (.slice gy0 gy1 gy2, gy), (.slice gx0 gx1 gx2, gx), (.slice y8_0 y8_1 y8_2, Y8), (.slice x8_0 x8_1 x8_2, X8), (.slice y6_0 y6_1 y6_2, Y6), (.slice x6_0 x6_1 x6_2, X6), (.slice y3_0 y3_1 y3_2, Y3), (.slice x3_0 x3_1 x3_2, X3), (.slice y2_0 y2_1 y2_2, Y2), (.slice x2_0 x2_1 x2_2, X2), (.slice y1_0 y1_1 y1_2, Y1), (.slice x1_0 x1_1 x1_2, X1)]) := (Hwr.out.below hB)
  clear hB
  go_wp2
  go_ret
  exact ⟨rfl, Hws.out.bel⟩
theorem mult_core (c : Int) (a d x y : Value) (A B X Y : Nat) (inf : Bool) (w : World) (ha : Nu w a A) (hd : Nu w d B) (hx : Nu w x X) (hy : Nu w y Y) : Calls Tryd.prog 3 #[.int .i64 c, a, d, .agg #[x, y, .bool inf]] w fun e w' => e = .returned (.bool true) ∧ Below w.heap.size w w' := by
  have key : ∀ {s' : Int} {p b n gx gy : Nat}, Kv c p b n gx gy s' → Calls Tryd.prog 3 #[.int .i64 c, a, d, .agg #[x, y, .bool inf]] w fun e w' => e = .returned (.bool true) ∧ Below w.heap.size w w' := by
    intro s' p b n gx gy hk
    cases o1 : onB p b X Y inf with
    | false => exact mult_bad hk a d x y A B X Y inf w ha hd hx hy o1
    | true =>
      by_cases hA : 1024 < bl A
      · by_cases hB : 1024 < bl B
        · exact mult_l2 hk a d x y A B X Y inf w ha hd hx hy o1 hA hB
        · exact mult_l1 hk a d x y A B X Y inf w ha hd hx hy o1 hA hB
      · by_cases hB : 1024 < bl B
        · exact mult_l3 hk a d x y A B X Y inf w ha hd hx hy o1 hA hB
        · by_cases hS : 1024 < bl (A + B)
          · exact mult_s hk a d x y A B X Y inf w ha hd hx hy o1 hA hB hS
          · exact mult_ok hk a d x y A B X Y inf w ha hd hx hy o1 hA hB hS
  by_cases h1 : c = 1
  · subst h1; exact key .k1
  · by_cases h2 : c = 2
    · subst h2; exact key .k2
    · exact mult_none c h1 h2 a d x y A B X Y inf w ha hd hx hy
end Go.Proofs.YtnifjhmjpbihoaaDoor
