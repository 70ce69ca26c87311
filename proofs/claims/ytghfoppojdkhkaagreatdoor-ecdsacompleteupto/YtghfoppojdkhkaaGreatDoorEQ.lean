import Derived.Test.YtghfoppojdkhkaaGreatDoorEP
namespace Go.Proofs.YtghfoppojdkhkaaGreatDoor
open Go.RowKit

set_option maxRecDepth 100000

set_option maxHeartbeats 8000000 in
theorem rec_alg (c : Int) (h : Int) (am : Option Addr) (cm : Nat) (m : List UInt8) (r t x y : Value) (R S X Y : Nat) (w : World) (T : Sha.Tb w) (hm : Rd w am m) (l3 : m.length ≤ 100000000) (c3 : m.length ≤ cm ∧ cm ≤ 9223372036854775807) (hr : Nu w r R) (ht : Nu w t S) (hx : Nu w x X) (hy : Nu w y Y) (inf : Bool) (h0 : Sha.siz h = 0) :
    Calls Tryz.prog 19 #[.int .i64 h, .int .i64 c, .slice am m.length cm, r, t, .agg #[x, y, .bool inf]] w fun e w' => e = .returned (.tuple #[.slice none 0 0, .slice none 0 0, .int .i64 111]) ∧ Below w.heap.size w w' := by
  obtain ⟨x0, x1, x2, rfl⟩ := hx.shape
  obtain ⟨y0, y1, y2, rfl⟩ := hy.shape
  obtain ⟨r0, r1, r2, rfl⟩ := hr.shape
  obtain ⟨t0, t1, t2, rfl⟩ := ht.shape
  have HN : Hid (Nu w (.slice r0 r1 r2) R ∧ Nu w (.slice t0 t1 t2) S ∧ Nu w (.slice x0 x1 x2) X ∧ Nu w (.slice y0 y1 y2) Y ∧ Rd w am m ∧ Sha.Tb w) := ⟨hr, ht, hx, hy, hm, T⟩
  have HC : Hid (m.length ≤ cm ∧ cm ≤ 9223372036854775807 ∧ m.length ≤ 100000000) := ⟨c3.1, c3.2, l3⟩
  have HF0 : Hid (Fm w (w.alloc (.cells #[.slice x0 x1 x2, .slice y0 y1 y2, .bool inf] 41)) [(41, [.slice x0 x1 x2, .slice y0 y1 y2, .bool inf])] [] []) := ((Fm.nil (w := w) (A := []) ar_nil).push (by simp) 41 [.slice x0 x1 x2, .slice y0 y1 y2, .bool inf])
  have CS := fun w => Sha.size_any h w
  rw [h0] at CS
  clear hx hy hr ht hm T c3 l3
  go_enter Tryz.func19, Tryz.ntmps19
  go_wp2_with fail
  generalize (w.alloc (.cells #[.slice x0 x1 x2, .slice y0 y1 y2, .bool inf] 41)) = w0 at *
  refine (CS _).mono ?_
  rintro e w_ ⟨rfl, rfl⟩
  clear CS
  go_wp2
  go_ret3
  exact ⟨rfl, HF0.out.bel⟩
set_option maxHeartbeats 8000000 in
theorem rec_none (c : Int) (h1 : c ≠ 1) (h2 : c ≠ 2) (h : Int) (am : Option Addr) (cm : Nat) (m : List UInt8) (r t x y : Value) (R S X Y : Nat) (w : World) (T : Sha.Tb w) (hm : Rd w am m) (l3 : m.length ≤ 100000000) (c3 : m.length ≤ cm ∧ cm ≤ 9223372036854775807) (hr : Nu w r R) (ht : Nu w t S) (hx : Nu w x X) (hy : Nu w y Y) (inf : Bool) (h0 : Sha.siz h ≠ 0)  :
    Calls Tryz.prog 19 #[.int .i64 h, .int .i64 c, .slice am m.length cm, r, t, .agg #[x, y, .bool inf]] w fun e w' => e = .returned (.tuple #[.slice none 0 0, .slice none 0 0, .int .i64 90]) ∧ Below w.heap.size w w' := by
  obtain ⟨x0, x1, x2, rfl⟩ := hx.shape
  obtain ⟨y0, y1, y2, rfl⟩ := hy.shape
  obtain ⟨r0, r1, r2, rfl⟩ := hr.shape
  obtain ⟨t0, t1, t2, rfl⟩ := ht.shape
  have HN : Hid (Nu w (.slice r0 r1 r2) R ∧ Nu w (.slice t0 t1 t2) S ∧ Nu w (.slice x0 x1 x2) X ∧ Nu w (.slice y0 y1 y2) Y ∧ Rd w am m ∧ Sha.Tb w) := ⟨hr, ht, hx, hy, hm, T⟩
  have HC : Hid (m.length ≤ cm ∧ cm ≤ 9223372036854775807 ∧ m.length ≤ 100000000) := ⟨c3.1, c3.2, l3⟩
  have HF0 : Hid (Fm w (w.alloc (.cells #[.slice x0 x1 x2, .slice y0 y1 y2, .bool inf] 41)) [(41, [.slice x0 x1 x2, .slice y0 y1 y2, .bool inf])] [] []) := ((Fm.nil (w := w) (A := []) ar_nil).push (by simp) 41 [.slice x0 x1 x2, .slice y0 y1 y2, .bool inf])
  have CS := fun w => Sha.size_any h w
  have hz : (((Sha.siz h : Nat) : Int) == 0) = false := by have := h0; simp; omega
  generalize Sha.siz h = z at *
  clear hx hy hr ht hm T c3 l3
  go_enter Tryz.func19, Tryz.ntmps19
  go_wp2_with fail
  generalize (w.alloc (.cells #[.slice x0 x1 x2, .slice y0 y1 y2, .bool inf] 41)) = w0 at *
  refine (CS _).mono ?_
  rintro e w_ ⟨rfl, rfl⟩
  clear CS
  go_wp2_with fail
  refine (size_none c h1 h2 _).mono ?_
  rintro e w1 ⟨rfl, hB⟩
  have HF1 : Hid (Fm w w1 [(41, [.slice x0 x1 x2, .slice y0 y1 y2, .bool inf])] [] []) := HF0.out.below hB
  clear hB
  go_wp2
  go_ret3
  exact ⟨rfl, HF1.out.bel⟩
set_option maxHeartbeats 8000000 in
theorem rec_inf {c s : Int} {p b n gx gy : Nat} (hk : Kv c p b n gx gy s) (h : Int) (am : Option Addr) (cm : Nat) (m : List UInt8) (r t x y : Value) (R S X Y : Nat) (w : World) (T : Sha.Tb w) (hm : Rd w am m) (l3 : m.length ≤ 100000000) (c3 : m.length ≤ cm ∧ cm ≤ 9223372036854775807) (hr : Nu w r R) (ht : Nu w t S) (hx : Nu w x X) (hy : Nu w y Y) (h0 : Sha.siz h ≠ 0)  :
    Calls Tryz.prog 19 #[.int .i64 h, .int .i64 c, .slice am m.length cm, r, t, .agg #[x, y, .bool true]] w fun e w' => e = .returned (.tuple #[.slice none 0 0, .slice none 0 0, .int .i64 93]) ∧ Below w.heap.size w w' := by
  obtain ⟨x0, x1, x2, rfl⟩ := hx.shape
  obtain ⟨y0, y1, y2, rfl⟩ := hy.shape
  obtain ⟨r0, r1, r2, rfl⟩ := hr.shape
  obtain ⟨t0, t1, t2, rfl⟩ := ht.shape
  have HN : Hid (Nu w (.slice r0 r1 r2) R ∧ Nu w (.slice t0 t1 t2) S ∧ Nu w (.slice x0 x1 x2) X ∧ Nu w (.slice y0 y1 y2) Y ∧ Rd w am m ∧ Sha.Tb w) := ⟨hr, ht, hx, hy, hm, T⟩
  have HC : Hid (m.length ≤ cm ∧ cm ≤ 9223372036854775807 ∧ m.length ≤ 100000000) := ⟨c3.1, c3.2, l3⟩
  have HF0 : Hid (Fm w (w.alloc (.cells #[.slice x0 x1 x2, .slice y0 y1 y2, .bool true] 41)) [(41, [.slice x0 x1 x2, .slice y0 y1 y2, .bool true])] [] []) := ((Fm.nil (w := w) (A := []) ar_nil).push (by simp) 41 [.slice x0 x1 x2, .slice y0 y1 y2, .bool true])
  have CS := fun w => Sha.size_any h w
  have hz : (((Sha.siz h : Nat) : Int) == 0) = false := by have := h0; simp; omega
  generalize Sha.siz h = z at *
  clear hx hy hr ht hm T c3 l3
  go_enter Tryz.func19, Tryz.ntmps19
  go_wp2_with fail
  generalize (w.alloc (.cells #[.slice x0 x1 x2, .slice y0 y1 y2, .bool true] 41)) = w0 at *
  refine (CS _).mono ?_
  rintro e w_ ⟨rfl, rfl⟩
  clear CS
  go_wp2_with fail
  have hs0 : (s == 0) = false := by rcases hk.s0 with hh | hh <;> subst hh <;> rfl
  refine (size_v hk _).mono ?_
  rintro e w1 ⟨rfl, hB⟩
  have HF1 : Hid (Fm w w1 [(41, [.slice x0 x1 x2, .slice y0 y1 y2, .bool true])] [] []) := HF0.out.below hB
  clear hB
  have k0 : w1.cell? ⟨w.heap.size, 0, none⟩ = some (.slice x0 x1 x2) := HF1.out.cell 0 0 (Nat.le_of_ble_eq_true rfl) (Nat.le_of_ble_eq_true rfl)
  have k1 : w1.cell? ⟨w.heap.size, 1, none⟩ = some (.slice y0 y1 y2) := HF1.out.cell 0 1 (Nat.le_of_ble_eq_true rfl) (Nat.le_of_ble_eq_true rfl)
  have k2 : w1.cell? ⟨w.heap.size, 2, none⟩ = some (.bool true) := HF1.out.cell 0 2 (Nat.le_of_ble_eq_true rfl) (Nat.le_of_ble_eq_true rfl)
  go_wp2
  go_ret3
  exact ⟨rfl, HF1.out.bel⟩
set_option maxHeartbeats 8000000 in
theorem rec_off {c s : Int} {p b n gx gy : Nat} (hk : Kv c p b n gx gy s) (h : Int) (am : Option Addr) (cm : Nat) (m : List UInt8) (r t x y : Value) (R S X Y : Nat) (w : World) (T : Sha.Tb w) (hm : Rd w am m) (l3 : m.length ≤ 100000000) (c3 : m.length ≤ cm ∧ cm ≤ 9223372036854775807) (hr : Nu w r R) (ht : Nu w t S) (hx : Nu w x X) (hy : Nu w y Y) (h0 : Sha.siz h ≠ 0) (ho : onB p b X Y false = false) :
    Calls Tryz.prog 19 #[.int .i64 h, .int .i64 c, .slice am m.length cm, r, t, .agg #[x, y, .bool false]] w fun e w' => e = .returned (.tuple #[.slice none 0 0, .slice none 0 0, .int .i64 93]) ∧ Below w.heap.size w w' := by
  obtain ⟨x0, x1, x2, rfl⟩ := hx.shape
  obtain ⟨y0, y1, y2, rfl⟩ := hy.shape
  obtain ⟨r0, r1, r2, rfl⟩ := hr.shape
  obtain ⟨t0, t1, t2, rfl⟩ := ht.shape
  have HN : Hid (Nu w (.slice r0 r1 r2) R ∧ Nu w (.slice t0 t1 t2) S ∧ Nu w (.slice x0 x1 x2) X ∧ Nu w (.slice y0 y1 y2) Y ∧ Rd w am m ∧ Sha.Tb w) := ⟨hr, ht, hx, hy, hm, T⟩
  have HC : Hid (m.length ≤ cm ∧ cm ≤ 9223372036854775807 ∧ m.length ≤ 100000000) := ⟨c3.1, c3.2, l3⟩
  have HF0 : Hid (Fm w (w.alloc (.cells #[.slice x0 x1 x2, .slice y0 y1 y2, .bool false] 41)) [(41, [.slice x0 x1 x2, .slice y0 y1 y2, .bool false])] [] []) := ((Fm.nil (w := w) (A := []) ar_nil).push (by simp) 41 [.slice x0 x1 x2, .slice y0 y1 y2, .bool false])
  have CS := fun w => Sha.size_any h w
  have hz : (((Sha.siz h : Nat) : Int) == 0) = false := by have := h0; simp; omega
  generalize Sha.siz h = z at *
  clear hx hy hr ht hm T c3 l3
  go_enter Tryz.func19, Tryz.ntmps19
  go_wp2_with fail
  generalize (w.alloc (.cells #[.slice x0 x1 x2, .slice y0 y1 y2, .bool false] 41)) = w0 at *
  refine (CS _).mono ?_
  rintro e w_ ⟨rfl, rfl⟩
  clear CS
  go_wp2_with fail
  have hs0 : (s == 0) = false := by rcases hk.s0 with hh | hh <;> subst hh <;> rfl
  refine (size_v hk _).mono ?_
  rintro e w1 ⟨rfl, hB⟩
  have HF1 : Hid (Fm w w1 [(41, [.slice x0 x1 x2, .slice y0 y1 y2, .bool false])] [] []) := HF0.out.below hB
  clear hB
  have k0 : w1.cell? ⟨w.heap.size, 0, none⟩ = some (.slice x0 x1 x2) := HF1.out.cell 0 0 (Nat.le_of_ble_eq_true rfl) (Nat.le_of_ble_eq_true rfl)
  have k1 : w1.cell? ⟨w.heap.size, 1, none⟩ = some (.slice y0 y1 y2) := HF1.out.cell 0 1 (Nat.le_of_ble_eq_true rfl) (Nat.le_of_ble_eq_true rfl)
  have k2 : w1.cell? ⟨w.heap.size, 2, none⟩ = some (.bool false) := HF1.out.cell 0 2 (Nat.le_of_ble_eq_true rfl) (Nat.le_of_ble_eq_true rfl)
  go_wp2_with fail
  clear k0 k1 k2
  have C := on_v hk _ _ X Y false _ (HN.out.2.2.1.below HF1.out.bel (Nat.le_refl _)) (HN.out.2.2.2.1.below HF1.out.bel (Nat.le_refl _))
  rw [ho] at C
  refine C.mono ?_
  clear C
  rintro e w2 ⟨rfl, hB⟩
  have HF2 : Hid (Fm w w2 [(41, [.slice x0 x1 x2, .slice y0 y1 y2, .bool false])] [] []) := HF1.out.below hB
  clear hB
  go_wp2
  go_ret3
  exact ⟨rfl, HF2.out.bel⟩
set_option maxHeartbeats 8000000 in
theorem rec_r {c s : Int} {p b n gx gy : Nat} (hk : Kv c p b n gx gy s) (h : Int) (am : Option Addr) (cm : Nat) (m : List UInt8) (r t x y : Value) (R S X Y : Nat) (w : World) (T : Sha.Tb w) (hm : Rd w am m) (l3 : m.length ≤ 100000000) (c3 : m.length ≤ cm ∧ cm ≤ 9223372036854775807) (hr : Nu w r R) (ht : Nu w t S) (hx : Nu w x X) (hy : Nu w y Y) (h0 : Sha.siz h ≠ 0) (ho : onB p b X Y false = true) (r1' : ¬ (0 < R ∧ R < n)) :
    Calls Tryz.prog 19 #[.int .i64 h, .int .i64 c, .slice am m.length cm, r, t, .agg #[x, y, .bool false]] w fun e w' => e = .returned (.tuple #[.slice none 0 0, .slice none 0 0, .int .i64 91]) ∧ Below w.heap.size w w' := by
  obtain ⟨x0, x1, x2, rfl⟩ := hx.shape
  obtain ⟨y0, y1, y2, rfl⟩ := hy.shape
  obtain ⟨r0, r1, r2, rfl⟩ := hr.shape
  obtain ⟨t0, t1, t2, rfl⟩ := ht.shape
  have HN : Hid (Nu w (.slice r0 r1 r2) R ∧ Nu w (.slice t0 t1 t2) S ∧ Nu w (.slice x0 x1 x2) X ∧ Nu w (.slice y0 y1 y2) Y ∧ Rd w am m ∧ Sha.Tb w) := ⟨hr, ht, hx, hy, hm, T⟩
  have HC : Hid (m.length ≤ cm ∧ cm ≤ 9223372036854775807 ∧ m.length ≤ 100000000) := ⟨c3.1, c3.2, l3⟩
  have HF0 : Hid (Fm w (w.alloc (.cells #[.slice x0 x1 x2, .slice y0 y1 y2, .bool false] 41)) [(41, [.slice x0 x1 x2, .slice y0 y1 y2, .bool false])] [] []) := ((Fm.nil (w := w) (A := []) ar_nil).push (by simp) 41 [.slice x0 x1 x2, .slice y0 y1 y2, .bool false])
  have CS := fun w => Sha.size_any h w
  have hz : (((Sha.siz h : Nat) : Int) == 0) = false := by have := h0; simp; omega
  generalize Sha.siz h = z at *
  clear hx hy hr ht hm T c3 l3
  go_enter Tryz.func19, Tryz.ntmps19
  go_wp2_with fail
  generalize (w.alloc (.cells #[.slice x0 x1 x2, .slice y0 y1 y2, .bool false] 41)) = w0 at *
  refine (CS _).mono ?_
  rintro e w_ ⟨rfl, rfl⟩
  clear CS
  go_wp2_with fail
  have hs0 : (s == 0) = false := by rcases hk.s0 with hh | hh <;> subst hh <;> rfl
  refine (size_v hk _).mono ?_
  rintro e w1 ⟨rfl, hB⟩
  have HF1 : Hid (Fm w w1 [(41, [.slice x0 x1 x2, .slice y0 y1 y2, .bool false])] [] []) := HF0.out.below hB
  clear hB
  have k0 : w1.cell? ⟨w.heap.size, 0, none⟩ = some (.slice x0 x1 x2) := HF1.out.cell 0 0 (Nat.le_of_ble_eq_true rfl) (Nat.le_of_ble_eq_true rfl)
  have k1 : w1.cell? ⟨w.heap.size, 1, none⟩ = some (.slice y0 y1 y2) := HF1.out.cell 0 1 (Nat.le_of_ble_eq_true rfl) (Nat.le_of_ble_eq_true rfl)
  have k2 : w1.cell? ⟨w.heap.size, 2, none⟩ = some (.bool false) := HF1.out.cell 0 2 (Nat.le_of_ble_eq_true rfl) (Nat.le_of_ble_eq_true rfl)
  go_wp2_with fail
  clear k0 k1 k2
  have C := on_v hk _ _ X Y false _ (HN.out.2.2.1.below HF1.out.bel (Nat.le_refl _)) (HN.out.2.2.2.1.below HF1.out.bel (Nat.le_refl _))
  rw [ho] at C
  refine C.mono ?_
  clear C
  rintro e w2 ⟨rfl, hB⟩
  have HF2 : Hid (Fm w w2 [(41, [.slice x0 x1 x2, .slice y0 y1 y2, .bool false])] [] []) := HF1.out.below hB
  clear hB
  go_wp2_with fail
  have C := inRange_v hk _ R w2 (HN.out.1.below HF2.out.bel (Nat.le_refl _))
  rw [decide_eq_false r1'] at C
  refine C.mono ?_
  clear C
  rintro e w3 ⟨rfl, hB⟩
  have HF3 : Hid (Fm w w3 [(41, [.slice x0 x1 x2, .slice y0 y1 y2, .bool false])] [] []) := HF2.out.below hB
  clear hB
  go_wp2
  go_ret3
  exact ⟨rfl, HF3.out.bel⟩
set_option maxHeartbeats 8000000 in
theorem rec_s {c s : Int} {p b n gx gy : Nat} (hk : Kv c p b n gx gy s) (h : Int) (am : Option Addr) (cm : Nat) (m : List UInt8) (r t x y : Value) (R S X Y : Nat) (w : World) (T : Sha.Tb w) (hm : Rd w am m) (l3 : m.length ≤ 100000000) (c3 : m.length ≤ cm ∧ cm ≤ 9223372036854775807) (hr : Nu w r R) (ht : Nu w t S) (hx : Nu w x X) (hy : Nu w y Y) (h0 : Sha.siz h ≠ 0) (ho : onB p b X Y false = true) (r1' : 0 < R ∧ R < n) (s1' : ¬ (0 < S ∧ S < n)) :
    Calls Tryz.prog 19 #[.int .i64 h, .int .i64 c, .slice am m.length cm, r, t, .agg #[x, y, .bool false]] w fun e w' => e = .returned (.tuple #[.slice none 0 0, .slice none 0 0, .int .i64 91]) ∧ Below w.heap.size w w' := by
  obtain ⟨x0, x1, x2, rfl⟩ := hx.shape
  obtain ⟨y0, y1, y2, rfl⟩ := hy.shape
  obtain ⟨r0, r1, r2, rfl⟩ := hr.shape
  obtain ⟨t0, t1, t2, rfl⟩ := ht.shape
  have HN : Hid (Nu w (.slice r0 r1 r2) R ∧ Nu w (.slice t0 t1 t2) S ∧ Nu w (.slice x0 x1 x2) X ∧ Nu w (.slice y0 y1 y2) Y ∧ Rd w am m ∧ Sha.Tb w) := ⟨hr, ht, hx, hy, hm, T⟩
  have HC : Hid (m.length ≤ cm ∧ cm ≤ 9223372036854775807 ∧ m.length ≤ 100000000) := ⟨c3.1, c3.2, l3⟩
  have HF0 : Hid (Fm w (w.alloc (.cells #[.slice x0 x1 x2, .slice y0 y1 y2, .bool false] 41)) [(41, [.slice x0 x1 x2, .slice y0 y1 y2, .bool false])] [] []) := ((Fm.nil (w := w) (A := []) ar_nil).push (by simp) 41 [.slice x0 x1 x2, .slice y0 y1 y2, .bool false])
  have CS := fun w => Sha.size_any h w
  have hz : (((Sha.siz h : Nat) : Int) == 0) = false := by have := h0; simp; omega
  generalize Sha.siz h = z at *
  clear hx hy hr ht hm T c3 l3
  go_enter Tryz.func19, Tryz.ntmps19
  go_wp2_with fail
  generalize (w.alloc (.cells #[.slice x0 x1 x2, .slice y0 y1 y2, .bool false] 41)) = w0 at *
  refine (CS _).mono ?_
  rintro e w_ ⟨rfl, rfl⟩
  clear CS
  go_wp2_with fail
  have hs0 : (s == 0) = false := by rcases hk.s0 with hh | hh <;> subst hh <;> rfl
  refine (size_v hk _).mono ?_
  rintro e w1 ⟨rfl, hB⟩
  have HF1 : Hid (Fm w w1 [(41, [.slice x0 x1 x2, .slice y0 y1 y2, .bool false])] [] []) := HF0.out.below hB
  clear hB
  have k0 : w1.cell? ⟨w.heap.size, 0, none⟩ = some (.slice x0 x1 x2) := HF1.out.cell 0 0 (Nat.le_of_ble_eq_true rfl) (Nat.le_of_ble_eq_true rfl)
  have k1 : w1.cell? ⟨w.heap.size, 1, none⟩ = some (.slice y0 y1 y2) := HF1.out.cell 0 1 (Nat.le_of_ble_eq_true rfl) (Nat.le_of_ble_eq_true rfl)
  have k2 : w1.cell? ⟨w.heap.size, 2, none⟩ = some (.bool false) := HF1.out.cell 0 2 (Nat.le_of_ble_eq_true rfl) (Nat.le_of_ble_eq_true rfl)
  go_wp2_with fail
  clear k0 k1 k2
  have C := on_v hk _ _ X Y false _ (HN.out.2.2.1.below HF1.out.bel (Nat.le_refl _)) (HN.out.2.2.2.1.below HF1.out.bel (Nat.le_refl _))
  rw [ho] at C
  refine C.mono ?_
  clear C
  rintro e w2 ⟨rfl, hB⟩
  have HF2 : Hid (Fm w w2 [(41, [.slice x0 x1 x2, .slice y0 y1 y2, .bool false])] [] []) := HF1.out.below hB
  clear hB
  go_wp2_with fail
  have C := inRange_v hk _ R w2 (HN.out.1.below HF2.out.bel (Nat.le_refl _))
  rw [decide_eq_true r1'] at C
  refine C.mono ?_
  clear C
  rintro e w3 ⟨rfl, hB⟩
  have HF3 : Hid (Fm w w3 [(41, [.slice x0 x1 x2, .slice y0 y1 y2, .bool false])] [] []) := HF2.out.below hB
  clear hB
  go_wp2_with fail
  have C := inRange_v hk _ S w3 (HN.out.2.1.below HF3.out.bel (Nat.le_refl _))
  rw [decide_eq_false s1'] at C
  refine C.mono ?_
  clear C
  rintro e w4 ⟨rfl, hB⟩
  have HF4 : Hid (Fm w w4 [(41, [.slice x0 x1 x2, .slice y0 y1 y2, .bool false])] [] []) := HF3.out.below hB
  clear hB
  go_wp2
  go_ret3
  exact ⟨rfl, HF4.out.bel⟩
set_option maxHeartbeats 8000000 in
theorem rec_mk {c s : Int} {p b n gx gy : Nat} (hk : Kv c p b n gx gy s) (h : Int) (am : Option Addr) (cm : Nat) (m : List UInt8) (r t x y : Value) (R S X Y : Nat) (w : World) (T : Sha.Tb w) (hm : Rd w am m) (l3 : m.length ≤ 100000000) (c3 : m.length ≤ cm ∧ cm ≤ 9223372036854775807) (hr : Nu w r R) (ht : Nu w t S) (hx : Nu w x X) (hy : Nu w y Y) (h0 : Sha.siz h ≠ 0) (ho : onB p b X Y false = true) (r1' : 0 < R ∧ R < n) (s1' : 0 < S ∧ S < n) (hmk : ¬ X % n = R) :
    Calls Tryz.prog 19 #[.int .i64 h, .int .i64 c, .slice am m.length cm, r, t, .agg #[x, y, .bool false]] w fun e w' => e = .returned (.tuple #[.slice none 0 0, .slice none 0 0, .int .i64 91]) ∧ Below w.heap.size w w' := by
  obtain ⟨x0, x1, x2, rfl⟩ := hx.shape
  obtain ⟨y0, y1, y2, rfl⟩ := hy.shape
  obtain ⟨r0, r1, r2, rfl⟩ := hr.shape
  obtain ⟨t0, t1, t2, rfl⟩ := ht.shape
  have HN : Hid (Nu w (.slice r0 r1 r2) R ∧ Nu w (.slice t0 t1 t2) S ∧ Nu w (.slice x0 x1 x2) X ∧ Nu w (.slice y0 y1 y2) Y ∧ Rd w am m ∧ Sha.Tb w) := ⟨hr, ht, hx, hy, hm, T⟩
  have HC : Hid (m.length ≤ cm ∧ cm ≤ 9223372036854775807 ∧ m.length ≤ 100000000) := ⟨c3.1, c3.2, l3⟩
  have HF0 : Hid (Fm w (w.alloc (.cells #[.slice x0 x1 x2, .slice y0 y1 y2, .bool false] 41)) [(41, [.slice x0 x1 x2, .slice y0 y1 y2, .bool false])] [] []) := ((Fm.nil (w := w) (A := []) ar_nil).push (by simp) 41 [.slice x0 x1 x2, .slice y0 y1 y2, .bool false])
  have CS := fun w => Sha.size_any h w
  have hz : (((Sha.siz h : Nat) : Int) == 0) = false := by have := h0; simp; omega
  generalize Sha.siz h = z at *
  clear hx hy hr ht hm T c3 l3
  go_enter Tryz.func19, Tryz.ntmps19
  go_wp2_with fail
  generalize (w.alloc (.cells #[.slice x0 x1 x2, .slice y0 y1 y2, .bool false] 41)) = w0 at *
  refine (CS _).mono ?_
  rintro e w_ ⟨rfl, rfl⟩
  clear CS
  go_wp2_with fail
  have hs0 : (s == 0) = false := by rcases hk.s0 with hh | hh <;> subst hh <;> rfl
  refine (size_v hk _).mono ?_
  rintro e w1 ⟨rfl, hB⟩
  have HF1 : Hid (Fm w w1 [(41, [.slice x0 x1 x2, .slice y0 y1 y2, .bool false])] [] []) := HF0.out.below hB
  clear hB
  have k0 : w1.cell? ⟨w.heap.size, 0, none⟩ = some (.slice x0 x1 x2) := HF1.out.cell 0 0 (Nat.le_of_ble_eq_true rfl) (Nat.le_of_ble_eq_true rfl)
  have k1 : w1.cell? ⟨w.heap.size, 1, none⟩ = some (.slice y0 y1 y2) := HF1.out.cell 0 1 (Nat.le_of_ble_eq_true rfl) (Nat.le_of_ble_eq_true rfl)
  have k2 : w1.cell? ⟨w.heap.size, 2, none⟩ = some (.bool false) := HF1.out.cell 0 2 (Nat.le_of_ble_eq_true rfl) (Nat.le_of_ble_eq_true rfl)
  go_wp2_with fail
  clear k0 k1 k2
  have C := on_v hk _ _ X Y false _ (HN.out.2.2.1.below HF1.out.bel (Nat.le_refl _)) (HN.out.2.2.2.1.below HF1.out.bel (Nat.le_refl _))
  rw [ho] at C
  refine C.mono ?_
  clear C
  rintro e w2 ⟨rfl, hB⟩
  have HF2 : Hid (Fm w w2 [(41, [.slice x0 x1 x2, .slice y0 y1 y2, .bool false])] [] []) := HF1.out.below hB
  clear hB
  go_wp2_with fail
  have C := inRange_v hk _ R w2 (HN.out.1.below HF2.out.bel (Nat.le_refl _))
  rw [decide_eq_true r1'] at C
  refine C.mono ?_
  clear C
  rintro e w3 ⟨rfl, hB⟩
  have HF3 : Hid (Fm w w3 [(41, [.slice x0 x1 x2, .slice y0 y1 y2, .bool false])] [] []) := HF2.out.below hB
  clear hB
  go_wp2_with fail
  have C := inRange_v hk _ S w3 (HN.out.2.1.below HF3.out.bel (Nat.le_refl _))
  rw [decide_eq_true s1'] at C
  refine C.mono ?_
  clear C
  rintro e w4 ⟨rfl, hB⟩
  have HF4 : Hid (Fm w w4 [(41, [.slice x0 x1 x2, .slice y0 y1 y2, .bool false])] [] []) := HF3.out.below hB
  clear hB
  have k0 : w4.cell? ⟨w.heap.size, 0, none⟩ = some (.slice x0 x1 x2) := HF4.out.cell 0 0 (Nat.le_of_ble_eq_true rfl) (Nat.le_of_ble_eq_true rfl)
  have k1 : w4.cell? ⟨w.heap.size, 1, none⟩ = some (.slice y0 y1 y2) := HF4.out.cell 0 1 (Nat.le_of_ble_eq_true rfl) (Nat.le_of_ble_eq_true rfl)
  have k2 : w4.cell? ⟨w.heap.size, 2, none⟩ = some (.bool false) := HF4.out.cell 0 2 (Nat.le_of_ble_eq_true rfl) (Nat.le_of_ble_eq_true rfl)
  go_wp2_with fail
  clear k0 k1 k2
  have C := makes_v hk _ _ _ X Y R false w4 (HN.out.2.2.1.below HF4.out.bel (Nat.le_refl _)) (HN.out.2.2.2.1.below HF4.out.bel (Nat.le_refl _)) (HN.out.1.below HF4.out.bel (Nat.le_refl _))
  rw [decide_eq_false hmk] at C
  refine C.mono ?_
  clear C
  rintro e w5 ⟨rfl, hB⟩
  have HF5 : Hid (Fm w w5 [(41, [.slice x0 x1 x2, .slice y0 y1 y2, .bool false])] [] []) := HF4.out.below hB
  clear hB
  go_wp2
  go_ret3
  exact ⟨rfl, HF5.out.bel⟩
set_option maxHeartbeats 8000000 in
theorem rec_O {c s : Int} {p b n gx gy : Nat} (hk : Kv c p b n gx gy s) (h : Int) (am : Option Addr) (cm : Nat) (m : List UInt8) (r t x y : Value) (R S X Y : Nat) (w : World) (T : Sha.Tb w) (hm : Rd w am m) (l3 : m.length ≤ 100000000) (c3 : m.length ≤ cm ∧ cm ≤ 9223372036854775807) (hr : Nu w r R) (ht : Nu w t S) (hx : Nu w x X) (hy : Nu w y Y) (h0 : Sha.siz h ≠ 0) (ho : onB p b X Y false = true) (r1' : 0 < R ∧ R < n) (s1' : 0 < S ∧ S < n) (hmk : X % n = R) (hQ : jt p n (.A gx gy) (mn n (zV s h m)) S (iv n R) (.A X Y) = .O) :
    Calls Tryz.prog 19 #[.int .i64 h, .int .i64 c, .slice am m.length cm, r, t, .agg #[x, y, .bool false]] w fun e w' => e = .returned (.tuple #[.slice none 0 0, .slice none 0 0, .int .i64 91]) ∧ Below w.heap.size w w' := by
  obtain ⟨x0, x1, x2, rfl⟩ := hx.shape
  obtain ⟨y0, y1, y2, rfl⟩ := hy.shape
  obtain ⟨r0, r1, r2, rfl⟩ := hr.shape
  obtain ⟨t0, t1, t2, rfl⟩ := ht.shape
  have HN : Hid (Nu w (.slice r0 r1 r2) R ∧ Nu w (.slice t0 t1 t2) S ∧ Nu w (.slice x0 x1 x2) X ∧ Nu w (.slice y0 y1 y2) Y ∧ Rd w am m ∧ Sha.Tb w) := ⟨hr, ht, hx, hy, hm, T⟩
  have HC : Hid (m.length ≤ cm ∧ cm ≤ 9223372036854775807 ∧ m.length ≤ 100000000) := ⟨c3.1, c3.2, l3⟩
  have HF0 : Hid (Fm w (w.alloc (.cells #[.slice x0 x1 x2, .slice y0 y1 y2, .bool false] 41)) [(41, [.slice x0 x1 x2, .slice y0 y1 y2, .bool false])] [] []) := ((Fm.nil (w := w) (A := []) ar_nil).push (by simp) 41 [.slice x0 x1 x2, .slice y0 y1 y2, .bool false])
  have CS := fun w => Sha.size_any h w
  have hz : (((Sha.siz h : Nat) : Int) == 0) = false := by have := h0; simp; omega
  generalize Sha.siz h = z at *
  clear hx hy hr ht hm T c3 l3
  go_enter Tryz.func19, Tryz.ntmps19
  go_wp2_with fail
  generalize (w.alloc (.cells #[.slice x0 x1 x2, .slice y0 y1 y2, .bool false] 41)) = w0 at *
  refine (CS _).mono ?_
  rintro e w_ ⟨rfl, rfl⟩
  clear CS
  go_wp2_with fail
  have hs0 : (s == 0) = false := by rcases hk.s0 with hh | hh <;> subst hh <;> rfl
  refine (size_v hk _).mono ?_
  rintro e w1 ⟨rfl, hB⟩
  have HF1 : Hid (Fm w w1 [(41, [.slice x0 x1 x2, .slice y0 y1 y2, .bool false])] [] []) := HF0.out.below hB
  clear hB
  have k0 : w1.cell? ⟨w.heap.size, 0, none⟩ = some (.slice x0 x1 x2) := HF1.out.cell 0 0 (Nat.le_of_ble_eq_true rfl) (Nat.le_of_ble_eq_true rfl)
  have k1 : w1.cell? ⟨w.heap.size, 1, none⟩ = some (.slice y0 y1 y2) := HF1.out.cell 0 1 (Nat.le_of_ble_eq_true rfl) (Nat.le_of_ble_eq_true rfl)
  have k2 : w1.cell? ⟨w.heap.size, 2, none⟩ = some (.bool false) := HF1.out.cell 0 2 (Nat.le_of_ble_eq_true rfl) (Nat.le_of_ble_eq_true rfl)
  go_wp2_with fail
  clear k0 k1 k2
  have C := on_v hk _ _ X Y false _ (HN.out.2.2.1.below HF1.out.bel (Nat.le_refl _)) (HN.out.2.2.2.1.below HF1.out.bel (Nat.le_refl _))
  rw [ho] at C
  refine C.mono ?_
  clear C
  rintro e w2 ⟨rfl, hB⟩
  have HF2 : Hid (Fm w w2 [(41, [.slice x0 x1 x2, .slice y0 y1 y2, .bool false])] [] []) := HF1.out.below hB
  clear hB
  go_wp2_with fail
  have C := inRange_v hk _ R w2 (HN.out.1.below HF2.out.bel (Nat.le_refl _))
  rw [decide_eq_true r1'] at C
  refine C.mono ?_
  clear C
  rintro e w3 ⟨rfl, hB⟩
  have HF3 : Hid (Fm w w3 [(41, [.slice x0 x1 x2, .slice y0 y1 y2, .bool false])] [] []) := HF2.out.below hB
  clear hB
  go_wp2_with fail
  have C := inRange_v hk _ S w3 (HN.out.2.1.below HF3.out.bel (Nat.le_refl _))
  rw [decide_eq_true s1'] at C
  refine C.mono ?_
  clear C
  rintro e w4 ⟨rfl, hB⟩
  have HF4 : Hid (Fm w w4 [(41, [.slice x0 x1 x2, .slice y0 y1 y2, .bool false])] [] []) := HF3.out.below hB
  clear hB
  have k0 : w4.cell? ⟨w.heap.size, 0, none⟩ = some (.slice x0 x1 x2) := HF4.out.cell 0 0 (Nat.le_of_ble_eq_true rfl) (Nat.le_of_ble_eq_true rfl)
  have k1 : w4.cell? ⟨w.heap.size, 1, none⟩ = some (.slice y0 y1 y2) := HF4.out.cell 0 1 (Nat.le_of_ble_eq_true rfl) (Nat.le_of_ble_eq_true rfl)
  have k2 : w4.cell? ⟨w.heap.size, 2, none⟩ = some (.bool false) := HF4.out.cell 0 2 (Nat.le_of_ble_eq_true rfl) (Nat.le_of_ble_eq_true rfl)
  go_wp2_with fail
  clear k0 k1 k2
  have C := makes_v hk _ _ _ X Y R false w4 (HN.out.2.2.1.below HF4.out.bel (Nat.le_refl _)) (HN.out.2.2.2.1.below HF4.out.bel (Nat.le_refl _)) (HN.out.1.below HF4.out.bel (Nat.le_refl _))
  rw [decide_eq_true hmk] at C
  refine C.mono ?_
  clear C
  rintro e w5 ⟨rfl, hB⟩
  have HF5 : Hid (Fm w w5 [(41, [.slice x0 x1 x2, .slice y0 y1 y2, .bool false])] [] []) := HF4.out.below hB
  clear hB
  go_wp2_with fail
  refine (number_v hk h am cm m w5 (Tb.below' HN.out.2.2.2.2.2 HF5.out.bel (Nat.le_refl _)) (HN.out.2.2.2.2.1.below HF5.out.bel (Nat.le_refl _)) HC.out.1 HC.out.2.1 (by have := HC.out.2.2; omega)).mono ?_
  rintro e w6 ⟨zv, rfl, mz, hB⟩
  have HF6 : Hid (Fm w w6 [(41, [.slice x0 x1 x2, .slice y0 y1 y2, .bool false])] [] []) := HF5.out.below hB
  have HZ6 : Hid (Nk w6 zv (zV s h m) 384) := mz.nk
  obtain ⟨z0, z1, z2, rfl⟩ := mz.nk.sl
  clear hB mz
  go_wp2_with fail
  refine (order_v hk _).mono ?_
  rintro e w7 ⟨nv, rfl, mN, hB⟩
  have HF7 : Hid (Fm w w7 [(41, [.slice x0 x1 x2, .slice y0 y1 y2, .bool false])] [] []) := HF6.out.below hB
  have HZ7 : Hid (Nk w7 (.slice z0 z1 z2) (zV s h m) 384 ∧ Nk w7 nv n 384) := ⟨HZ6.out.below hB (Nat.le_refl _), mN.nk⟩
  obtain ⟨n0, n1, n2, rfl⟩ := mN.nk.sl
  clear hB mN
  go_wp2_with fail
  refine (subn_v hk _ _ (zV s h m) w7 HZ7.out.1 HZ7.out.2.1).mono ?_
  rintro e w8 ⟨mv, rfl, hh⟩
  have HF8 : Hid (Fm w w8 [(41, [.slice x0 x1 x2, .slice y0 y1 y2, .bool false])] [] []) := HF7.out.below hh.bel
  have HM8 : Hid (Nk w8 mv (mn n (zV s h m)) 384) := (by rw [← fS_mn hk.pmn]; exact hh.nb : Nk w8 mv (mn n (zV s h m)) 384)
  obtain ⟨m0, m1, m2, rfl⟩ := hh.sl
  clear hh
  have k0 : w8.cell? ⟨w.heap.size, 0, none⟩ = some (.slice x0 x1 x2) := HF8.out.cell 0 0 (Nat.le_of_ble_eq_true rfl) (Nat.le_of_ble_eq_true rfl)
  have k1 : w8.cell? ⟨w.heap.size, 1, none⟩ = some (.slice y0 y1 y2) := HF8.out.cell 0 1 (Nat.le_of_ble_eq_true rfl) (Nat.le_of_ble_eq_true rfl)
  have k2 : w8.cell? ⟨w.heap.size, 2, none⟩ = some (.bool false) := HF8.out.cell 0 2 (Nat.le_of_ble_eq_true rfl) (Nat.le_of_ble_eq_true rfl)
  go_wp2_with fail
  clear k0 k1 k2
  refine (ejoint_v hk _ _ _ _ _ (mn n (zV s h m)) S R X Y false w8 HM8.out ⟨(HN.out.2.1.below HF8.out.bel (Nat.le_refl _)), hk.pmn.lt s1'.2⟩ (HN.out.1.below HF8.out.bel (Nat.le_refl _)) (HN.out.2.2.1.below HF8.out.bel (Nat.le_refl _)) (HN.out.2.2.2.1.below HF8.out.bel (Nat.le_refl _)) ho r1'.1 r1'.2).mono ?_
  rintro e w9 ⟨rv, rfl, hPa⟩
  rw [show jt p n (.A gx gy) (mn n (zV s h m)) S (iv n R) (ptO X Y false) = .O from hQ] at hPa
  obtain ⟨rfl, hB⟩ := hPa
  have HF9 : Hid (Fm w w9 [(41, [.slice x0 x1 x2, .slice y0 y1 y2, .bool false])] [] []) := HF8.out.below hB
  clear hB
  go_wp2_with fail
  refine (encode_inf hk _ _ 0 0 w9 (Nk.none _ 384).1 (Nk.none _ 384).1).mono ?_
  rintro e w10 ⟨rfl, hB⟩
  have HF10 : Hid (Fm w w10 [(41, [.slice x0 x1 x2, .slice y0 y1 y2, .bool false])] [] []) := HF9.out.below hB
  clear hB
  go_wp2
  go_ret3
  exact ⟨rfl, HF10.out.bel⟩
end Go.Proofs.YtghfoppojdkhkaaGreatDoor
