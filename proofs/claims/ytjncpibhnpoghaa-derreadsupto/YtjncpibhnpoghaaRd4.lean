import Derived.Test.YtjncpibhnpoghaaRd3
namespace Go.Proofs.Ytjncpibhnpoghaa
open Go.RowKit

set_option maxRecDepth 100000 in
set_option maxHeartbeats 4000000 in
theorem element_bad (w0 w : World) (rb g off cap : Nat) (l : List UInt8) (lv : Value) (xs : List X) (a b h wl st sp : Nat) (op : Int)
    (hr : Rd w0 (some ⟨g, off, none⟩) l) (hl : l.length ≤ 65536) (hc : l.length ≤ cap) (hc2 : cap ≤ 9223372036854775807) (hS : St w0 w rb (.slice (some ⟨g, off, none⟩) l.length cap) lv xs) (hxs : xs.length + (b - a) ≤ 65536) (hab : a < b) (hb : b ≤ l.length) (hm : meas (sg l a b) = some (h, wl)) (Hst : Hid (st = a + h)) (Hsp : Hid (sp = a + wl))
    (hpr : con ((l.getD a 0).toNat : Int) = true) (hsd : sound ⟨((l.getD a 0).toNat : Int), [], 0⟩ = false) :
    Calls Try.prog 21 #[.pointer (some ⟨rb, 0, none⟩), .int .i64 (a : Int), .int .i64 (b : Int), .int .i64 op] w fun e w' => Below w0.heap.size w0 w' ∧ e = .returned (two a 80) := by
  have c0 := hS.rd.cell 0 (by simp)
  simp only [List.getElem_cons_zero] at c0
  have hbel := hS.bel
  have hrw := hr.below hbel (Nat.le_refl _)
  have hsl := sg_length l a b (by omega) hb
  obtain ⟨q1, hwl, hh, hwle, q2, q3⟩ := meas_split hm (by omega)
  clear q1 q2 q3
  have hMV : measV (sg l a b) = .tuple #[.int .i64 (h : Int), .int .i64 (wl : Int), .bool true] := by unfold measV; rw [hm]
  have C := measure_any (some ⟨g, off + a, none⟩) (cap - a) (sg l a b) w (hrw.sg a b) (by omega) (by omega)
  rw [hMV, hsl] at C
  have HC : Hid (Calls Try.prog 32 #[.slice (some ⟨g, off + a, none⟩) (b - a) (cap - a)] w fun e w' => e = .returned (.tuple #[.int .i64 (h : Int), .int .i64 (wl : Int), .bool true]) ∧ w' = w) := C
  have hac : a < cap := by omega
  obtain ⟨_, _, e9, _, hcell⟩ := hrw.cell (by omega)
  cases e9
  have ga := hcell a (by omega)
  have hstp : st ≤ sp := by have := Hst.out; have := Hsp.out; omega
  have hspl : sp ≤ l.length := by have := Hsp.out; omega
  have Hst' : Hid (True → (a : Int) + (h : Int) = (st : Int)) := fun _ => by have := Hst.out; omega
  have Hsp' : Hid (True → (a : Int) + (wl : Int) = (sp : Int)) := fun _ => by have := Hsp.out; omega
  have hhw : h ≤ wl := by omega
  have hawb : a + wl ≤ b := by omega
  clear C hMV hm hcell hwl hsl hwle
  have HS : Hid (St w0 w rb (.slice (some ⟨g, off, none⟩) l.length cap) lv xs) := hS
  have HR : Hid (Rd w (some ⟨g, off, none⟩) l) := hrw
  have HB0 : Hid (Below w0.heap.size w0 w) := hbel
  have hrbw := hS.rd.lt
  clear hS hrw hr hbel
  have htl := u8_lt (l.getD a 0)
  generalize l.getD a 0 = t at *
  have C3 := fun w => isCon_any (t.toNat : Int) w (by omega) (by omega)
  rw [hpr] at C3
  have HC3 : Hid (∀ w, Calls Try.prog 33 #[.int .i64 (t.toNat : Int)] w fun e w' => e = .returned (.bool true) ∧ w' = w) := C3
  clear C3 hpr
  try replace HK := HK
  go_enter Try.func21, Try.ntmps21
  go_wp2_with fail
  refine HC.out.mono ?_
  rintro e w9 ⟨rfl, rfl⟩
  clear HC
  go_wp2_with fail
  refine (HC3.out _).mono ?_
  rintro e w2 ⟨rfl, rfl⟩
  rw [Hst'.out trivial, Hsp'.out trivial]
  have HT1 : Hid (Bl 36 (w9.alloc (Obj.cells #[Value.int IntKind.i64 (t.toNat : Int), Value.slice none 0 0, Value.int IntKind.i64 0] 36)) w9.heap.size [.int .i64 (t.toNat : Int), .slice none 0 0, .int .i64 0]) := alloc_bl _ _ _
  have HB1 : Hid (Below w9.heap.size w9 (w9.alloc (Obj.cells #[Value.int IntKind.i64 (t.toNat : Int), Value.slice none 0 0, Value.int IntKind.i64 0] 36))) := alloc_below _ _
  have hsz1 : w9.heap.size < (w9.alloc (Obj.cells #[Value.int IntKind.i64 (t.toNat : Int), Value.slice none 0 0, Value.int IntKind.i64 0] 36)).heap.size := by rw [alloc_size]; omega
  generalize (w9.alloc (Obj.cells #[Value.int IntKind.i64 (t.toNat : Int), Value.slice none 0 0, Value.int IntKind.i64 0] 36)) = w1 at *
  obtain ⟨i1, hj, hy0, hy1, hy2⟩ := info_parts infoT
  have hwsz := HB0.out.size
  have HNE : Hid (lv.ownBlock ≠ some w9.heap.size) := fun e => by have := (HS.out.own.lt _ e).2; omega
  have HRW : Hid (w9.heap.size ≠ rb) := by have := hrbw; exact fun e => by omega
  have c60 := HT1.out.cell 0 (by simp)
  have c61 := HT1.out.cell 1 (by simp)
  have c62 := HT1.out.cell 2 (by simp)
  simp only [List.getElem_cons_zero, List.getElem_cons_succ] at c60 c61 c62
  have Cs := sound_any ⟨⟨(t.toNat : Int), [], 0⟩, none, 0⟩ w1 ⟨Rd.nil _ _, Nat.le_refl _, by show (0 : Nat) ≤ 9223372036854775807; decide, by show (-9223372036854775808 : Int) ≤ 0; decide, by show (0 : Int) ≤ 9223372036854775807; decide⟩
  simp only [xV, xD, List.length_nil] at Cs
  obtain ⟨sd, Hsd⟩ : ∃ sd, Hid (sound ⟨(t.toNat : Int), [], 0⟩ = sd) := ⟨_, rfl⟩
  rw [Hsd.out] at Cs
  have HCs : Hid (Calls Try.prog 34 #[.agg #[.int .i64 (t.toNat : Int), .slice none 0 0, .int .i64 0]] w1 fun e w' => e = .returned (.bool sd) ∧ Below w1.heap.size w1 w') := Cs
  clear Cs
  rw [hsd] at Hsd
  have hsf : sd = false := Hsd.out.symm
  subst hsf
  clear hsd Hsd
  go_wp2_with fail
  refine HCs.out.mono ?_
  rintro e w7 ⟨rfl, hB7⟩
  have HB7 : Hid (Below w9.heap.size w9 w7) := HB1.out.trans (hB7.mono HB1.out.size)
  have HT7 : Hid (Bl 36 w7 w9.heap.size [.int .i64 (t.toNat : Int), .slice none 0 0, .int .i64 0]) := HT1.out.below hB7 HT1.out.lt
  have HO7 : Hid (w7.ownsRow w1.heap.size 5 1 (.slice none 0 0) ([] : List UInt8).length (([] : List UInt8).map B)) := World.ownsRow_nil _ _ _ _
  clear c60 c61 c62 hB7 HCs HT1 HB1
  go_wp2
  go_ret2
  exact ⟨HB0.out.trans (HB7.out.mono hwsz), rfl⟩

set_option maxRecDepth 100000 in
set_option maxHeartbeats 4000000 in
theorem element_deep (w0 w : World) (rb g off cap : Nat) (l : List UInt8) (lv : Value) (xs : List X) (a b h wl st sp : Nat) (op : Int)
    (hr : Rd w0 (some ⟨g, off, none⟩) l) (hl : l.length ≤ 65536) (hc : l.length ≤ cap) (hc2 : cap ≤ 9223372036854775807) (hS : St w0 w rb (.slice (some ⟨g, off, none⟩) l.length cap) lv xs) (hxs : xs.length + (b - a) ≤ 65536) (hab : a < b) (hb : b ≤ l.length) (hm : meas (sg l a b) = some (h, wl)) (Hst : Hid (st = a + h)) (Hsp : Hid (sp = a + wl))
    (hpr : con ((l.getD a 0).toNat : Int) = true) (hsd : sound ⟨((l.getD a 0).toNat : Int), [], 0⟩ = true) (hop : 32 ≤ op) :
    Calls Try.prog 21 #[.pointer (some ⟨rb, 0, none⟩), .int .i64 (a : Int), .int .i64 (b : Int), .int .i64 op] w fun e w' => Below w0.heap.size w0 w' ∧ e = .returned (two a 11) := by
  have c0 := hS.rd.cell 0 (by simp)
  simp only [List.getElem_cons_zero] at c0
  have hbel := hS.bel
  have hrw := hr.below hbel (Nat.le_refl _)
  have hsl := sg_length l a b (by omega) hb
  obtain ⟨q1, hwl, hh, hwle, q2, q3⟩ := meas_split hm (by omega)
  clear q1 q2 q3
  have hMV : measV (sg l a b) = .tuple #[.int .i64 (h : Int), .int .i64 (wl : Int), .bool true] := by unfold measV; rw [hm]
  have C := measure_any (some ⟨g, off + a, none⟩) (cap - a) (sg l a b) w (hrw.sg a b) (by omega) (by omega)
  rw [hMV, hsl] at C
  have HC : Hid (Calls Try.prog 32 #[.slice (some ⟨g, off + a, none⟩) (b - a) (cap - a)] w fun e w' => e = .returned (.tuple #[.int .i64 (h : Int), .int .i64 (wl : Int), .bool true]) ∧ w' = w) := C
  have hac : a < cap := by omega
  obtain ⟨_, _, e9, _, hcell⟩ := hrw.cell (by omega)
  cases e9
  have ga := hcell a (by omega)
  have hstp : st ≤ sp := by have := Hst.out; have := Hsp.out; omega
  have hspl : sp ≤ l.length := by have := Hsp.out; omega
  have Hst' : Hid (True → (a : Int) + (h : Int) = (st : Int)) := fun _ => by have := Hst.out; omega
  have Hsp' : Hid (True → (a : Int) + (wl : Int) = (sp : Int)) := fun _ => by have := Hsp.out; omega
  have hhw : h ≤ wl := by omega
  have hawb : a + wl ≤ b := by omega
  clear C hMV hm hcell hwl hsl hwle
  have HS : Hid (St w0 w rb (.slice (some ⟨g, off, none⟩) l.length cap) lv xs) := hS
  have HR : Hid (Rd w (some ⟨g, off, none⟩) l) := hrw
  have HB0 : Hid (Below w0.heap.size w0 w) := hbel
  have hrbw := hS.rd.lt
  clear hS hrw hr hbel
  have htl := u8_lt (l.getD a 0)
  generalize l.getD a 0 = t at *
  have C3 := fun w => isCon_any (t.toNat : Int) w (by omega) (by omega)
  rw [hpr] at C3
  have HC3 : Hid (∀ w, Calls Try.prog 33 #[.int .i64 (t.toNat : Int)] w fun e w' => e = .returned (.bool true) ∧ w' = w) := C3
  clear C3 hpr
  try replace HK := HK
  go_enter Try.func21, Try.ntmps21
  go_wp2_with fail
  refine HC.out.mono ?_
  rintro e w9 ⟨rfl, rfl⟩
  clear HC
  go_wp2_with fail
  refine (HC3.out _).mono ?_
  rintro e w2 ⟨rfl, rfl⟩
  rw [Hst'.out trivial, Hsp'.out trivial]
  have HT1 : Hid (Bl 36 (w9.alloc (Obj.cells #[Value.int IntKind.i64 (t.toNat : Int), Value.slice none 0 0, Value.int IntKind.i64 0] 36)) w9.heap.size [.int .i64 (t.toNat : Int), .slice none 0 0, .int .i64 0]) := alloc_bl _ _ _
  have HB1 : Hid (Below w9.heap.size w9 (w9.alloc (Obj.cells #[Value.int IntKind.i64 (t.toNat : Int), Value.slice none 0 0, Value.int IntKind.i64 0] 36))) := alloc_below _ _
  have hsz1 : w9.heap.size < (w9.alloc (Obj.cells #[Value.int IntKind.i64 (t.toNat : Int), Value.slice none 0 0, Value.int IntKind.i64 0] 36)).heap.size := by rw [alloc_size]; omega
  generalize (w9.alloc (Obj.cells #[Value.int IntKind.i64 (t.toNat : Int), Value.slice none 0 0, Value.int IntKind.i64 0] 36)) = w1 at *
  obtain ⟨i1, hj, hy0, hy1, hy2⟩ := info_parts infoT
  have hwsz := HB0.out.size
  have HNE : Hid (lv.ownBlock ≠ some w9.heap.size) := fun e => by have := (HS.out.own.lt _ e).2; omega
  have HRW : Hid (w9.heap.size ≠ rb) := by have := hrbw; exact fun e => by omega
  have c60 := HT1.out.cell 0 (by simp)
  have c61 := HT1.out.cell 1 (by simp)
  have c62 := HT1.out.cell 2 (by simp)
  simp only [List.getElem_cons_zero, List.getElem_cons_succ] at c60 c61 c62
  have Cs := sound_any ⟨⟨(t.toNat : Int), [], 0⟩, none, 0⟩ w1 ⟨Rd.nil _ _, Nat.le_refl _, by show (0 : Nat) ≤ 9223372036854775807; decide, by show (-9223372036854775808 : Int) ≤ 0; decide, by show (0 : Int) ≤ 9223372036854775807; decide⟩
  simp only [xV, xD, List.length_nil] at Cs
  obtain ⟨sd, Hsd⟩ : ∃ sd, Hid (sound ⟨(t.toNat : Int), [], 0⟩ = sd) := ⟨_, rfl⟩
  rw [Hsd.out] at Cs
  have HCs : Hid (Calls Try.prog 34 #[.agg #[.int .i64 (t.toNat : Int), .slice none 0 0, .int .i64 0]] w1 fun e w' => e = .returned (.bool sd) ∧ Below w1.heap.size w1 w') := Cs
  clear Cs
  rw [hsd] at Hsd
  have hsf : sd = true := Hsd.out.symm
  subst hsf
  clear hsd Hsd
  go_wp2_with fail
  refine HCs.out.mono ?_
  rintro e w7 ⟨rfl, hB7⟩
  have HB7 : Hid (Below w9.heap.size w9 w7) := HB1.out.trans (hB7.mono HB1.out.size)
  have HT7 : Hid (Bl 36 w7 w9.heap.size [.int .i64 (t.toNat : Int), .slice none 0 0, .int .i64 0]) := HT1.out.below hB7 HT1.out.lt
  have HO7 : Hid (w7.ownsRow w1.heap.size 5 1 (.slice none 0 0) ([] : List UInt8).length (([] : List UInt8).map B)) := World.ownsRow_nil _ _ _ _
  clear c60 c61 c62 hB7 HCs HT1 HB1
  have c70 := HT7.out.cell 0 (by simp)
  simp only [List.getElem_cons_zero] at c70
  go_wp2_with fail
  refine (HC3.out _).mono ?_
  rintro e w8 ⟨rfl, rfl⟩
  go_wp2
  go_ret2
  exact ⟨HB0.out.trans (HB7.out.mono hwsz), rfl⟩

set_option maxRecDepth 100000 in
set_option maxHeartbeats 4000000 in
theorem element_go (w0 w : World) (rb g off cap : Nat) (l : List UInt8) (lv : Value) (xs : List X) (a b h wl st sp : Nat) (op : Int)
    (hr : Rd w0 (some ⟨g, off, none⟩) l) (hl : l.length ≤ 65536) (hc : l.length ≤ cap) (hc2 : cap ≤ 9223372036854775807) (hS : St w0 w rb (.slice (some ⟨g, off, none⟩) l.length cap) lv xs) (hxs : xs.length + (b - a) ≤ 65536) (hab : a < b) (hb : b ≤ l.length) (hm : meas (sg l a b) = some (h, wl)) (Hst : Hid (st = a + h)) (Hsp : Hid (sp = a + wl))
    (hpr : con ((l.getD a 0).toNat : Int) = true) (hsd : sound ⟨((l.getD a 0).toNat : Int), [], 0⟩ = true) (hop : op < 32) (hop0 : 0 ≤ op) (Post : Ending → World → Prop)
    (HK : Hid (∀ (w' : World) (lv' : Value) (y : X), St w0 w' rb (.slice (some ⟨g, off, none⟩) l.length cap) lv' (xs ++ [y]) → y.e = ⟨((l.getD a 0).toNat : Int), [], 0⟩ →
      Calls Try.prog 35 #[.pointer (some ⟨rb, 0, none⟩), .int .i64 (st : Int), .int .i64 (sp : Int), .int .i64 (op + 1)] w' fun e w'' => (∃ p c : Int, e = .returned (two p c)) ∧ Post e w'')) :
    Calls Try.prog 21 #[.pointer (some ⟨rb, 0, none⟩), .int .i64 (a : Int), .int .i64 (b : Int), .int .i64 op] w Post := by
  have c0 := hS.rd.cell 0 (by simp)
  simp only [List.getElem_cons_zero] at c0
  have hbel := hS.bel
  have hrw := hr.below hbel (Nat.le_refl _)
  have hsl := sg_length l a b (by omega) hb
  obtain ⟨q1, hwl, hh, hwle, q2, q3⟩ := meas_split hm (by omega)
  clear q1 q2 q3
  have hMV : measV (sg l a b) = .tuple #[.int .i64 (h : Int), .int .i64 (wl : Int), .bool true] := by unfold measV; rw [hm]
  have C := measure_any (some ⟨g, off + a, none⟩) (cap - a) (sg l a b) w (hrw.sg a b) (by omega) (by omega)
  rw [hMV, hsl] at C
  have HC : Hid (Calls Try.prog 32 #[.slice (some ⟨g, off + a, none⟩) (b - a) (cap - a)] w fun e w' => e = .returned (.tuple #[.int .i64 (h : Int), .int .i64 (wl : Int), .bool true]) ∧ w' = w) := C
  have hac : a < cap := by omega
  obtain ⟨_, _, e9, _, hcell⟩ := hrw.cell (by omega)
  cases e9
  have ga := hcell a (by omega)
  have hstp : st ≤ sp := by have := Hst.out; have := Hsp.out; omega
  have hspl : sp ≤ l.length := by have := Hsp.out; omega
  have Hst' : Hid (True → (a : Int) + (h : Int) = (st : Int)) := fun _ => by have := Hst.out; omega
  have Hsp' : Hid (True → (a : Int) + (wl : Int) = (sp : Int)) := fun _ => by have := Hsp.out; omega
  have hhw : h ≤ wl := by omega
  have hawb : a + wl ≤ b := by omega
  clear C hMV hm hcell hwl hsl hwle
  have HS : Hid (St w0 w rb (.slice (some ⟨g, off, none⟩) l.length cap) lv xs) := hS
  have HR : Hid (Rd w (some ⟨g, off, none⟩) l) := hrw
  have HB0 : Hid (Below w0.heap.size w0 w) := hbel
  have hrbw := hS.rd.lt
  clear hS hrw hr hbel
  have htl := u8_lt (l.getD a 0)
  generalize l.getD a 0 = t at *
  have C3 := fun w => isCon_any (t.toNat : Int) w (by omega) (by omega)
  rw [hpr] at C3
  have HC3 : Hid (∀ w, Calls Try.prog 33 #[.int .i64 (t.toNat : Int)] w fun e w' => e = .returned (.bool true) ∧ w' = w) := C3
  clear C3 hpr
  try replace HK := HK
  go_enter Try.func21, Try.ntmps21
  go_wp2_with fail
  refine HC.out.mono ?_
  rintro e w9 ⟨rfl, rfl⟩
  clear HC
  go_wp2_with fail
  refine (HC3.out _).mono ?_
  rintro e w2 ⟨rfl, rfl⟩
  rw [Hst'.out trivial, Hsp'.out trivial]
  have HT1 : Hid (Bl 36 (w9.alloc (Obj.cells #[Value.int IntKind.i64 (t.toNat : Int), Value.slice none 0 0, Value.int IntKind.i64 0] 36)) w9.heap.size [.int .i64 (t.toNat : Int), .slice none 0 0, .int .i64 0]) := alloc_bl _ _ _
  have HB1 : Hid (Below w9.heap.size w9 (w9.alloc (Obj.cells #[Value.int IntKind.i64 (t.toNat : Int), Value.slice none 0 0, Value.int IntKind.i64 0] 36))) := alloc_below _ _
  have hsz1 : w9.heap.size < (w9.alloc (Obj.cells #[Value.int IntKind.i64 (t.toNat : Int), Value.slice none 0 0, Value.int IntKind.i64 0] 36)).heap.size := by rw [alloc_size]; omega
  generalize (w9.alloc (Obj.cells #[Value.int IntKind.i64 (t.toNat : Int), Value.slice none 0 0, Value.int IntKind.i64 0] 36)) = w1 at *
  obtain ⟨i1, hj, hy0, hy1, hy2⟩ := info_parts infoT
  have hwsz := HB0.out.size
  have HNE : Hid (lv.ownBlock ≠ some w9.heap.size) := fun e => by have := (HS.out.own.lt _ e).2; omega
  have HRW : Hid (w9.heap.size ≠ rb) := by have := hrbw; exact fun e => by omega
  have c60 := HT1.out.cell 0 (by simp)
  have c61 := HT1.out.cell 1 (by simp)
  have c62 := HT1.out.cell 2 (by simp)
  simp only [List.getElem_cons_zero, List.getElem_cons_succ] at c60 c61 c62
  have Cs := sound_any ⟨⟨(t.toNat : Int), [], 0⟩, none, 0⟩ w1 ⟨Rd.nil _ _, Nat.le_refl _, by show (0 : Nat) ≤ 9223372036854775807; decide, by show (-9223372036854775808 : Int) ≤ 0; decide, by show (0 : Int) ≤ 9223372036854775807; decide⟩
  simp only [xV, xD, List.length_nil] at Cs
  obtain ⟨sd, Hsd⟩ : ∃ sd, Hid (sound ⟨(t.toNat : Int), [], 0⟩ = sd) := ⟨_, rfl⟩
  rw [Hsd.out] at Cs
  have HCs : Hid (Calls Try.prog 34 #[.agg #[.int .i64 (t.toNat : Int), .slice none 0 0, .int .i64 0]] w1 fun e w' => e = .returned (.bool sd) ∧ Below w1.heap.size w1 w') := Cs
  clear Cs
  rw [hsd] at Hsd
  have hsf : sd = true := Hsd.out.symm
  subst hsf
  clear hsd Hsd
  go_wp2_with fail
  refine HCs.out.mono ?_
  rintro e w7 ⟨rfl, hB7⟩
  have HB7 : Hid (Below w9.heap.size w9 w7) := HB1.out.trans (hB7.mono HB1.out.size)
  have HT7 : Hid (Bl 36 w7 w9.heap.size [.int .i64 (t.toNat : Int), .slice none 0 0, .int .i64 0]) := HT1.out.below hB7 HT1.out.lt
  have HO7 : Hid (w7.ownsRow w1.heap.size 5 1 (.slice none 0 0) ([] : List UInt8).length (([] : List UInt8).map B)) := World.ownsRow_nil _ _ _ _
  clear c60 c61 c62 hB7 HCs HT1 HB1
  have c70 := HT7.out.cell 0 (by simp)
  simp only [List.getElem_cons_zero] at c70
  go_wp2_with fail
  refine (HC3.out _).mono ?_
  rintro e w8 ⟨rfl, rfl⟩
  have HS7 : Hid (St w0 w8 rb (.slice (some ⟨g, off, none⟩) l.length cap) lv xs) := HS.out.below HB7.out (Nat.le_refl _)
  have c71 := HT7.out.cell 1 (by simp)
  have c72 := HT7.out.cell 2 (by simp)
  have cl1 := HS7.out.rd.cell 1 (by simp)
  simp only [List.getElem_cons_zero, List.getElem_cons_succ] at c71 c72 cl1
  go_wp2_with fail
  refine wp_region_K 10 (fun (w' : World) => w'.cell? ⟨rb, 1, none⟩ = some lv ∧ w'.cell? ⟨w9.heap.size, 0, none⟩ = some (.int .i64 (t.toNat : Int)) ∧ w'.cell? ⟨w9.heap.size, 1, none⟩ = some (.slice none 0 0) ∧ w'.cell? ⟨w9.heap.size, 2, none⟩ = some (.int .i64 0)) (by kernel_rfl) ?_
  have hHeld : ((fun (w' : World) => w'.cell? ⟨rb, 1, none⟩ = some lv ∧ w'.cell? ⟨w9.heap.size, 0, none⟩ = some (.int .i64 (t.toNat : Int)) ∧ w'.cell? ⟨w9.heap.size, 1, none⟩ = some (.slice none 0 0) ∧ w'.cell? ⟨w9.heap.size, 2, none⟩ = some (.int .i64 0))) (World.drew _) := ⟨cl1, c70, c71, c72⟩
  refine wpAnyK_take0 0 (v := ?v49) rfl (by kernel_rfl) (fun _ _ _ h => h) (Or.inl ⟨by rfl, ?hy49⟩) (fun _ => hHeld) ?_
  case hy49 => (intro w hSw; go_simp; try with_reducible rfl)
  try simp only [Act.put, List.setIfInBounds_toArray, List.set_cons_zero, List.set_cons_succ]
  refine wpAnyK_take0 1 (v := ?v50) rfl (by kernel_rfl) (fun _ _ _ h => h) (Or.inl ⟨by rfl, ?hy50⟩) (fun _ => hHeld) ?_
  case hy50 => (intro w hSw; go_simp; try with_reducible rfl)
  try simp only [Act.put, List.setIfInBounds_toArray, List.set_cons_zero, List.set_cons_succ]
  refine wpAnyK_take0 2 (v := ?v51) rfl (by kernel_rfl) (fun _ _ _ h => h) (Or.inl ⟨by rfl, ?hy51⟩) (fun _ => hHeld) ?_
  case hy51 => (intro w hSw; go_simp; try with_reducible rfl)
  try simp only [Act.put, List.setIfInBounds_toArray, List.set_cons_zero, List.set_cons_succ]
  refine wpAnyK_take0 3 (v := ?v52) rfl (by kernel_rfl) (fun _ _ _ h => h) (Or.inl ⟨by rfl, ?hy52⟩) (fun _ => hHeld) ?_
  case hy52 => (intro w hSw; go_simp; try with_reducible rfl)
  try simp only [Act.put, List.setIfInBounds_toArray, List.set_cons_zero, List.set_cons_succ]
  refine wpAnyK_take 4 [7, 10] (v := ?v53) rfl (by kernel_rfl) (fun _ _ _ h => h) (Or.inl ⟨by rfl, ?hy53⟩) hHeld ?_
  case hy53 => (intro w hSw; (try dsimp only at hSw); go_simp; try with_reducible rfl)
  try simp only [Act.put, List.setIfInBounds_toArray, List.set_cons_zero, List.set_cons_succ]
  refine wpAnyK_take 5 [6, 7, 10] (v := ?v54) rfl (by kernel_rfl) (fun _ _ _ h => h) (Or.inl ⟨by rfl, ?hy54⟩) hHeld ?_
  case hy54 => (intro w hSw; (try dsimp only at hSw); go_simp; try with_reducible rfl)
  try simp only [Act.put, List.setIfInBounds_toArray, List.set_cons_zero, List.set_cons_succ]
  refine wpAnyK_step 6 rfl (by kernel_rfl) (fun K hK => ?_)
  go_simp
  have HBB : Hid (Below w9.heap.size w9 (w8.drew.alloc (Obj.cells #[.int .i64 (t.toNat : Int), (.slice none 0 0), .int .i64 0] 36))) := HB7.out.trans ((alloc_below_drew w8 _).mono HB7.out.size)
  have HSB : Hid (St w0 (w8.drew.alloc (Obj.cells #[.int .i64 (t.toNat : Int), (.slice none 0 0), .int .i64 0] 36)) rb (.slice (some ⟨g, off, none⟩) l.length cap) lv xs) := HS.out.below HBB.out (Nat.le_refl _)
  have HTB : Hid (Bl 36 (w8.drew.alloc (Obj.cells #[.int .i64 (t.toNat : Int), (.slice none 0 0), .int .i64 0] 36)) w9.heap.size [.int .i64 (t.toNat : Int), (.slice none 0 0), .int .i64 0]) := HT7.out.below (alloc_below_drew w8 _) HT7.out.lt
  have HNB : Hid (Bl 36 (w8.drew.alloc (Obj.cells #[.int .i64 (t.toNat : Int), (.slice none 0 0), .int .i64 0] 36)) w8.heap.size [.int .i64 (t.toNat : Int), (.slice none 0 0), .int .i64 0]) := alloc_bl w8.drew _ _
  have HOB : Hid ((w8.drew.alloc (Obj.cells #[.int .i64 (t.toNat : Int), (.slice none 0 0), .int .i64 0] 36)).ownsRow w1.heap.size 5 1 (.slice none 0 0) ([] : List UInt8).length (([] : List UInt8).map B)) := own_below HO7.out (alloc_below_drew w8 _) (Nat.le_refl _)
  have HKB : Hid ((fun (w' : World) => w'.cell? ⟨rb, 1, none⟩ = some lv ∧ w'.cell? ⟨w9.heap.size, 0, none⟩ = some (.int .i64 (t.toNat : Int)) ∧ w'.cell? ⟨w9.heap.size, 1, none⟩ = some (.slice none 0 0) ∧ w'.cell? ⟨w9.heap.size, 2, none⟩ = some (.int .i64 0)) (w8.drew.alloc (Obj.cells #[.int .i64 (t.toNat : Int), (.slice none 0 0), .int .i64 0] 36))) := ⟨HSB.out.rd.cell 1 (by simp), HTB.out.cell 0 (by simp), HTB.out.cell 1 (by simp), HTB.out.cell 2 (by simp)⟩
  refine hK.out _ _ ?hk55 ?_
  case hk55 => exact fun _ => HKB.out
  have hHeld : (fun (w' : World) => w'.cell? ⟨rb, 1, none⟩ = some lv ∧ w'.cell? ⟨w9.heap.size, 0, none⟩ = some (.int .i64 (t.toNat : Int)) ∧ w'.cell? ⟨w9.heap.size, 1, none⟩ = some (.slice none 0 0) ∧ w'.cell? ⟨w9.heap.size, 2, none⟩ = some (.int .i64 0)) _ := HKB.out
  clear hK K
  try simp only [Act.put, List.setIfInBounds_toArray, List.set_cons_zero, List.set_cons_succ]
  refine wpAnyK_step 7 rfl (by kernel_rfl) (fun K hK => ?_)
  rw [if_pos (by rfl)]
  refine wp_append_own_wide _ (.tmp 77) (.tmp 79) 24 rfl w0.heap.size 36 i1 (.agg #[.int .i64 0, .slice none 0 0, .int .i64 0]) 3 40 Try.underlying24 hj hy0 hy1 hy2 rfl (by decide) lv xs.length (xCs xs) rfl HSB.out.own ⟨w8.heap.size, 0, none⟩ 1 1 [.int .i64 (t.toNat : Int), (.slice none 0 0), .int .i64 0] rfl rfl (fun j u hu => by match j, hu with | 0, hu => exact (HNB.out.cell 0 (by simp)).trans hu | 1, hu => exact (HNB.out.cell 1 (by simp)).trans hu | 2, hu => exact (HNB.out.cell 2 (by simp)).trans hu) (by intro u hu; simp at hu; rcases hu with rfl | rfl | rfl <;> rfl) (by unfold maxLen; omega) (by omega) HSB.out.bel.size ?_
  intro vZ wY hownZ hgrowZ hnilZ
  have HSZ : Hid (St w0 (wY.setCell ⟨rb, 1, none⟩ vZ) rb (.slice (some ⟨g, off, none⟩) l.length cap) vZ (xs ++ [⟨⟨(t.toNat : Int), [], 0⟩, none, 0⟩])) := HS.out.push (x := ⟨⟨(t.toNat : Int), [], 0⟩, none, 0⟩) HBB.out (own_base HOB.out (Nat.le_trans hwsz (Nat.le_of_lt hsz1))) (fun g hg => Nat.le_trans (Nat.le_of_lt hsz1) (own_block HOB.out g hg)) ⟨by show (0 : Int) ≤ 0; decide, by show (0 : Int) ≤ 65536; decide⟩ hownZ hgrowZ
  have HTY : Hid (Bl 36 wY w9.heap.size [.int .i64 (t.toNat : Int), (.slice none 0 0), .int .i64 0]) := bl_grown HTB.out hgrowZ (fun e => HNE.out e)
  have HRY : Hid (Bl 38 wY rb [.slice (some ⟨g, off, none⟩) l.length cap, lv]) := bl_grown HSB.out.rd hgrowZ (block_apart HSB.out.own HSB.out.rd (by decide))
  have HTZ : Hid (Bl 36 (wY.setCell ⟨rb, 1, none⟩ vZ) w9.heap.size _) := bl_set HTY.out (fun e => HRW.out e) 1 vZ
  have cY : wY.cell? ⟨rb, 1, none⟩ = some lv := HRY.out.cell 1 (by simp)
  have fY := HRY.out.frozen 1
  have HKY : Hid ((fun (w' : World) => w'.cell? ⟨rb, 1, none⟩ = some lv ∧ w'.cell? ⟨w9.heap.size, 0, none⟩ = some (.int .i64 (t.toNat : Int)) ∧ w'.cell? ⟨w9.heap.size, 1, none⟩ = some (.slice none 0 0) ∧ w'.cell? ⟨w9.heap.size, 2, none⟩ = some (.int .i64 0)) wY) := ⟨cY, HTY.out.cell 0 (by simp), HTY.out.cell 1 (by simp), HTY.out.cell 2 (by simp)⟩
  obtain ⟨aZ, kZ, rfl⟩ := own_slice hownZ
  obtain ⟨aL, kL, rfl⟩ := own_slice HS.out.own
  clear hownZ hgrowZ hnilZ
  refine hK.out _ _ ?hk56 ?_
  case hk56 => exact fun _ => HKY.out
  have hHeld : (fun (w' : World) => w'.cell? ⟨rb, 1, none⟩ = some (.slice aL xs.length kL) ∧ w'.cell? ⟨w9.heap.size, 0, none⟩ = some (.int .i64 (t.toNat : Int)) ∧ w'.cell? ⟨w9.heap.size, 1, none⟩ = some (.slice none 0 0) ∧ w'.cell? ⟨w9.heap.size, 2, none⟩ = some (.int .i64 0)) _ := HKY.out
  clear hK K
  try simp only [Act.put, List.setIfInBounds_toArray, List.set_cons_zero, List.set_cons_succ]
  refine wpAnyK_take0 8 (v := ?v57) rfl (by kernel_rfl) (fun _ _ _ h => h) (Or.inl ⟨by rfl, ?hy57⟩) (fun _ => hHeld) ?_
  case hy57 => (intro w hSw; go_simp; try with_reducible rfl)
  try simp only [Act.put, List.setIfInBounds_toArray, List.set_cons_zero, List.set_cons_succ]
  refine wpAnyK_take0 9 (v := ?v58) rfl (by kernel_rfl) (fun _ _ _ h => h) (Or.inl ⟨by rfl, ?hy58⟩) (fun _ => hHeld) ?_
  case hy58 => (intro w hSw; go_simp; try with_reducible rfl)
  try simp only [Act.put, List.setIfInBounds_toArray, List.set_cons_zero, List.set_cons_succ]
  refine wpAnyK_step 10 rfl (by kernel_rfl) (fun K hK => ?_)
  go_simp
  refine hK.out _ _ ?hk59 ?_
  case hk59 => exact (fun h => nomatch (h.symm.trans (show _ = true by kernel_rfl)))
  clear hK K
  try simp only [Act.put, List.setIfInBounds_toArray, List.set_cons_zero, List.set_cons_succ]
  refine wpAnyK_done (by kernel_rfl) ?_ _
  generalize (wY.setCell ⟨rb, 1, none⟩ (.slice aZ (xs.length + 1) kZ)) = wZ at *
  clear c70 c71 c72 cl1
  have HTA : Hid (Bl 36 wZ w9.heap.size [.int .i64 (t.toNat : Int), .slice none 0 0, .int .i64 0]) := HTZ.out
  have c90 := HTA.out.cell 0 (by simp)
  simp only [List.getElem_cons_zero] at c90
  go_wp2_with fail
  refine (HC3.out _).mono ?_
  rintro e wR ⟨rfl, rfl⟩
  go_wp2_with fail
  refine (HK.out _ _ _ HSZ.out rfl).mono ?_
  rintro e wE ⟨⟨p, c, rfl⟩, hpost⟩
  unfold two at *
  go_wp2
  exact hpost

end Go.Proofs.Ytjncpibhnpoghaa
