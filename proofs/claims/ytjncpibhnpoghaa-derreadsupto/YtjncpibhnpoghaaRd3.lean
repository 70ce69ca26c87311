import Derived.Test.YtjncpibhnpoghaaRd2
namespace Go.Proofs.Ytjncpibhnpoghaa
open Go.RowKit

set_option maxRecDepth 100000 in
set_option maxHeartbeats 4000000 in
theorem element_prim (w0 w : World) (rb g off cap : Nat) (l : List UInt8) (lv : Value) (xs : List X) (a b h wl st sp : Nat) (op : Int)
    (hr : Rd w0 (some ⟨g, off, none⟩) l) (hl : l.length ≤ 65536) (hc : l.length ≤ cap) (hc2 : cap ≤ 9223372036854775807) (hS : St w0 w rb (.slice (some ⟨g, off, none⟩) l.length cap) lv xs) (hxs : xs.length + (b - a) ≤ 65536) (hab : a < b) (hb : b ≤ l.length) (hm : meas (sg l a b) = some (h, wl)) (Hst : Hid (st = a + h)) (Hsp : Hid (sp = a + wl))
    (hpr : con ((l.getD a 0).toNat : Int) = false) :
    Calls Try.prog 21 #[.pointer (some ⟨rb, 0, none⟩), .int .i64 (a : Int), .int .i64 (b : Int), .int .i64 op] w fun e w' => Below w0.heap.size w0 w' ∧
      (sound ⟨((l.getD a 0).toNat : Int), sg l st sp, 0⟩ = false → e = .returned (two a 80)) ∧
      (sound ⟨((l.getD a 0).toNat : Int), sg l st sp, 0⟩ = true → e = .returned (two (sp : Nat) 0) ∧ ∃ lv' y, St w0 w' rb (.slice (some ⟨g, off, none⟩) l.length cap) lv' (xs ++ [y]) ∧ y.e = ⟨((l.getD a 0).toNat : Int), sg l st sp, 0⟩) := by
  have c0 := hS.rd.cell 0 (by simp)
  simp only [List.getElem_cons_zero] at c0
  have hbel := hS.bel
  have hrw := hr.below hbel (Nat.le_refl _)
  have hsl := sg_length l a b (by omega) hb
  obtain ⟨q1, hwl, hh, hwle, q2, q3⟩ := meas_split hm (by omega)
  clear q1 q2 q3
  have hMV : measV (sg l a b) = .tuple #[.int .i64 (h : Int), .int .i64 (wl : Int), .bool true] := by unfold measV; rw [hm]
  have C := measure_any (some ⟨g, off + a, none⟩) (cap - a) (sg l a b) w (hrw.sg a b) (by omega) (by omega)
  rw [hMV, hsl] at C
  have HC : Hid (Calls Try.prog 32 #[.slice (some ⟨g, off + a, none⟩) (b - a) (cap - a)] w fun e w' => e = .returned (.tuple #[.int .i64 (h : Int), .int .i64 (wl : Int), .bool true]) ∧ w' = w) := C
  have hac : a < cap := by omega
  obtain ⟨_, _, e9, _, hcell⟩ := hrw.cell (by omega)
  cases e9
  have ga := hcell a (by omega)
  have hstp : st ≤ sp := by have := Hst.out; have := Hsp.out; omega
  have hspl : sp ≤ l.length := by have := Hsp.out; omega
  have Hst' : Hid (True → (a : Int) + (h : Int) = (st : Int)) := fun _ => by have := Hst.out; omega
  have Hsp' : Hid (True → (a : Int) + (wl : Int) = (sp : Int)) := fun _ => by have := Hsp.out; omega
  have hhw : h ≤ wl := by omega
  have hawb : a + wl ≤ b := by omega
  clear C hMV hm hcell hwl hsl hwle
  have HS : Hid (St w0 w rb (.slice (some ⟨g, off, none⟩) l.length cap) lv xs) := hS
  have HR : Hid (Rd w (some ⟨g, off, none⟩) l) := hrw
  have HB0 : Hid (Below w0.heap.size w0 w) := hbel
  have hrbw := hS.rd.lt
  clear hS hrw hr hbel
  have htl := u8_lt (l.getD a 0)
  generalize l.getD a 0 = t at *
  have C3 := fun w => isCon_any (t.toNat : Int) w (by omega) (by omega)
  rw [hpr] at C3
  have HC3 : Hid (∀ w, Calls Try.prog 33 #[.int .i64 (t.toNat : Int)] w fun e w' => e = .returned (.bool false) ∧ w' = w) := C3
  clear C3 hpr
  go_enter Try.func21, Try.ntmps21
  go_wp2_with fail
  refine HC.out.mono ?_
  rintro e w9 ⟨rfl, rfl⟩
  clear HC
  go_wp2_with fail
  refine (HC3.out _).mono ?_
  rintro e w2 ⟨rfl, rfl⟩
  rw [Hst'.out trivial, Hsp'.out trivial]
  have HT1 : Hid (Bl 36 (w9.alloc (Obj.cells #[Value.int IntKind.i64 (t.toNat : Int), Value.slice none 0 0, Value.int IntKind.i64 0] 36)) w9.heap.size [.int .i64 (t.toNat : Int), .slice none 0 0, .int .i64 0]) := alloc_bl _ _ _
  have HB1 : Hid (Below w9.heap.size w9 (w9.alloc (Obj.cells #[Value.int IntKind.i64 (t.toNat : Int), Value.slice none 0 0, Value.int IntKind.i64 0] 36))) := alloc_below _ _
  have hsz1 : w9.heap.size < (w9.alloc (Obj.cells #[Value.int IntKind.i64 (t.toNat : Int), Value.slice none 0 0, Value.int IntKind.i64 0] 36)).heap.size := by rw [alloc_size]; omega
  have c01 := c0
  replace c01 := cell_but c0 fun hg => HB1.out.block rb hg
  have HR1 : Hid (Rd (w9.alloc (Obj.cells #[Value.int IntKind.i64 (t.toNat : Int), Value.slice none 0 0, Value.int IntKind.i64 0] 36)) (some ⟨g, off, none⟩) l) := HR.out.below HB1.out (Nat.le_refl _)
  generalize (w9.alloc (Obj.cells #[Value.int IntKind.i64 (t.toNat : Int), Value.slice none 0 0, Value.int IntKind.i64 0] 36)) = w1 at *
  have HL : Hid ((sg l st sp).length = sp - st) := sg_length l st sp hstp hspl
  obtain ⟨i0, hi, hz0, hz1, hz2⟩ := info_parts infoB
  have hstc : st < cap ∨ (st = cap ∧ st = sp) := by omega
  have hwsz := HB0.out.size
  obtain ⟨i1, hj, hy0, hy1, hy2⟩ := info_parts infoT
  have HNE : Hid (lv.ownBlock ≠ some w9.heap.size) := fun e => by have := (HS.out.own.lt _ e).2; omega
  have HRW : Hid (w9.heap.size ≠ rb) := by have := hrbw; exact fun e => by omega
  have hspc : sp ≤ cap := by omega
  have c11 := HT1.out.cell 1 (by simp)
  simp only [List.getElem_cons_zero, List.getElem_cons_succ] at c11
  rcases hstc with hstc | ⟨hstc, hse⟩
  · have HNW : Hid (∀ j u, ((sg l st sp).map B)[j]? = some u → w1.drew.cell? ((⟨g, off + st, none⟩ : Addr).add j) = some u) := rd_news (HR1.out.sg st sp)
    have hne : ¬ cap = st := by omega
    go_wp2_with fail
    refine wp_region_K 11 (fun (w' : World) => w'.cell? ⟨w9.heap.size, 1, none⟩ = some (.slice none 0 0) ∧ w'.cell? ⟨rb, 0, none⟩ = some (.slice (some ⟨g, off, none⟩) l.length cap)) (by kernel_rfl) ?_
    have hHeld : ((fun (w' : World) => w'.cell? ⟨w9.heap.size, 1, none⟩ = some (.slice none 0 0) ∧ w'.cell? ⟨rb, 0, none⟩ = some (.slice (some ⟨g, off, none⟩) l.length cap))) (World.drew _) := ⟨c11, c01⟩
    refine wpAnyK_take0 0 (v := ?v1) rfl (by kernel_rfl) (fun _ _ _ h => h) (Or.inl ⟨by rfl, ?hy1⟩) (fun _ => hHeld) ?_
    case hy1 => (intro w hSw; go_simp; try with_reducible rfl)
    try simp only [Act.put, List.setIfInBounds_toArray, List.set_cons_zero, List.set_cons_succ]
    refine wpAnyK_take 1 [9, 11] (v := ?v2) rfl (by kernel_rfl) (fun _ _ _ h => h) (Or.inl ⟨by rfl, ?hy2⟩) hHeld ?_
    case hy2 => (intro w hSw; (try dsimp only at hSw); go_simp; try with_reducible rfl)
    try simp only [Act.put, List.setIfInBounds_toArray, List.set_cons_zero, List.set_cons_succ]
    refine wpAnyK_take0 2 (v := ?v3) rfl (by kernel_rfl) (fun _ _ _ h => h) (Or.inl ⟨by rfl, ?hy3⟩) (fun _ => hHeld) ?_
    case hy3 => (intro w hSw; go_simp; try with_reducible rfl)
    try simp only [Act.put, List.setIfInBounds_toArray, List.set_cons_zero, List.set_cons_succ]
    refine wpAnyK_take0 3 (v := ?v4) rfl (by kernel_rfl) (fun _ _ _ h => h) (Or.inl ⟨by rfl, ?hy4⟩) (fun _ => hHeld) ?_
    case hy4 => (intro w hSw; go_simp; try with_reducible rfl)
    try simp only [Act.put, List.setIfInBounds_toArray, List.set_cons_zero, List.set_cons_succ]
    refine wpAnyK_take0 4 (v := ?v5) rfl (by kernel_rfl) (fun _ _ _ h => h) (Or.inl ⟨by rfl, ?hy5⟩) (fun _ => hHeld) ?_
    case hy5 => (intro w hSw; go_simp; try with_reducible rfl)
    try simp only [Act.put, List.setIfInBounds_toArray, List.set_cons_zero, List.set_cons_succ]
    refine wpAnyK_take 5 [8, 9, 11] (v := ?v6) rfl (by kernel_rfl) (fun _ _ _ h => h) (Or.inl ⟨by rfl, ?hy6⟩) hHeld ?_
    case hy6 => (intro w hSw; (try dsimp only at hSw); go_simp; try with_reducible rfl)
    try simp only [Act.put, List.setIfInBounds_toArray, List.set_cons_zero, List.set_cons_succ]
    refine wpAnyK_take0 6 (v := ?v7) rfl (by kernel_rfl) (fun _ _ _ h => h) (Or.inl ⟨by rfl, ?hy7⟩) (fun _ => hHeld) ?_
    case hy7 => (intro w hSw; go_simp; try with_reducible rfl)
    try simp only [Act.put, List.setIfInBounds_toArray, List.set_cons_zero, List.set_cons_succ]
    refine wpAnyK_take0 7 (v := ?v8) rfl (by kernel_rfl) (fun _ _ _ h => h) (Or.inl ⟨by rfl, ?hy8⟩) (fun _ => hHeld) ?_
    case hy8 => (intro w hSw; go_simp; try with_reducible rfl)
    try simp only [Act.put, List.setIfInBounds_toArray, List.set_cons_zero, List.set_cons_succ]
    refine wpAnyK_take0 8 (v := ?v9) rfl (by kernel_rfl) (fun _ _ _ h => h) (Or.inl ⟨by rfl, ?hy9⟩) (fun _ => hHeld) ?_
    case hy9 => (intro w hSw; go_simp; first | with_reducible rfl | (simp only [if_pos hspc, if_neg hne]; with_reducible rfl))
    try simp only [Act.put, List.setIfInBounds_toArray, List.set_cons_zero, List.set_cons_succ]
    refine wpAnyK_step 9 rfl (by kernel_rfl) (fun K hK => ?_)
    rw [if_pos (by rfl)]
    refine wp_append_own_wide _ (.tmp 51) (.tmp 58) 22 rfl w1.heap.size 5 i0 (.int .u8 0) 1 1 Try.underlying22 hi hz0 hz1 hz2 rfl (by decide) (.slice none 0 0) 0 [] rfl (World.ownsRow_nil _ _ _ _) ⟨g, off + st, none⟩ (sp - st) (cap - st) ((sg l st sp).map B) rfl (by rw [List.length_map, HL.out, Nat.mul_one]) HNW.out (oneB _) (by unfold maxLen; omega) (by omega) (Nat.le_refl _) ?_
    intro v5 w5 hown5 hgrow5 hnil5
    have HG5 : Hid (Below w1.heap.size w1 w5) := ⟨hgrow5.os, hgrow5.tape, hgrow5.output, hgrow5.size, fun k hk => hgrow5.block k hk (fun e => by cases e)⟩
    have HO5 : Hid (w5.ownsRow w1.heap.size 5 1 v5 (sg l st sp).length ((sg l st sp).map B)) := (by rw [HL.out]; rw [Nat.zero_add, List.nil_append] at hown5; exact hown5)
    have HT5 : Hid (Bl 36 w5 w9.heap.size [.int .i64 (t.toNat : Int), .slice none 0 0, .int .i64 0]) := HT1.out.below HG5.out hsz1
    have c15 : w5.cell? ⟨w9.heap.size, 1, none⟩ = some (.slice none 0 0) := HT5.out.cell 1 (by simp)
    have c05 := cell_but c01 fun hg => HG5.out.block rb hg
    clear hown5 hgrow5 hnil5
    obtain ⟨a5, k5, rfl⟩ := own_slice HO5.out
    refine hK.out _ _ ?hk10 ?_
    case hk10 => exact fun _ => ⟨c15, c05⟩
    have hHeld : (fun (w' : World) => w'.cell? ⟨w9.heap.size, 1, none⟩ = some (.slice none 0 0) ∧ w'.cell? ⟨rb, 0, none⟩ = some (.slice (some ⟨g, off, none⟩) l.length cap)) _ := ⟨c15, c05⟩
    clear hK K
    try simp only [Act.put, List.setIfInBounds_toArray, List.set_cons_zero, List.set_cons_succ]
    refine wpAnyK_take0 10 (v := ?v11) rfl (by kernel_rfl) (fun _ _ _ h => h) (Or.inl ⟨by rfl, ?hy11⟩) (fun _ => hHeld) ?_
    case hy11 => (intro w hSw; go_simp; try with_reducible rfl)
    try simp only [Act.put, List.setIfInBounds_toArray, List.set_cons_zero, List.set_cons_succ]
    have f1 := HT5.out.frozen 1
    refine wpAnyK_step 11 rfl (by kernel_rfl) (fun K hK => ?_)
    go_simp
    refine hK.out _ _ ?hk13 ?_
    case hk13 => exact (fun h => nomatch (h.symm.trans (show _ = true by kernel_rfl)))
    clear hK K
    try simp only [Act.put, List.setIfInBounds_toArray, List.set_cons_zero, List.set_cons_succ]
    refine wpAnyK_done (by kernel_rfl) ?_ _
    have HT6 : Hid (Bl 36 (w5.setCell ⟨w9.heap.size, 1, none⟩ (.slice a5 (sg l st sp).length k5)) w9.heap.size [.int .i64 (t.toNat : Int), .slice a5 (sg l st sp).length k5, .int .i64 0]) := HT5.out.set 1 _
    have HO6 : Hid ((w5.setCell ⟨w9.heap.size, 1, none⟩ (.slice a5 (sg l st sp).length k5)).ownsRow w1.heap.size 5 1 (.slice a5 (sg l st sp).length k5) (sg l st sp).length ((sg l st sp).map B)) := own_keep HO5.out fun g hg => heap_setCell_other w5 _ g _ (fun e => block_apart HO5.out HT5.out (by decide) (by rw [hg]; exact congrArg some e))
    have HB6 : Hid (Below w9.heap.size w9 (w5.setCell ⟨w9.heap.size, 1, none⟩ (.slice a5 (sg l st sp).length k5))) := Below.setCell (HB1.out.trans (HG5.out.mono (Nat.le_of_lt hsz1))) (Nat.le_refl _) _
    generalize (w5.setCell ⟨w9.heap.size, 1, none⟩ (.slice a5 (sg l st sp).length k5)) = w6 at *
    clear c15 c05 f1 hHeld HT5 HO5 HG5 HT1 HB1 c11 c01 HR1 HNW
    have c60 := HT6.out.cell 0 (by simp)
    have c61 := HT6.out.cell 1 (by simp)
    have c62 := HT6.out.cell 2 (by simp)
    simp only [List.getElem_cons_zero, List.getElem_cons_succ] at c60 c61 c62
    obtain ⟨o1, o2, o3⟩ := own_rd HO6.out
    have Cs := sound_any ⟨⟨(t.toNat : Int), sg l st sp, 0⟩, a5, k5⟩ w6 ⟨o1, o2, o3, by show (-9223372036854775808 : Int) ≤ 0; decide, by show (0 : Int) ≤ 9223372036854775807; decide⟩
    clear o1 o2 o3
    simp only [xV, xD] at Cs
    obtain ⟨sd, Hsd⟩ : ∃ sd, Hid (sound ⟨(t.toNat : Int), sg l st sp, 0⟩ = sd) := ⟨_, rfl⟩
    rw [Hsd.out] at Cs
    have HCs : Hid (Calls Try.prog 34 #[.agg #[.int .i64 (t.toNat : Int), .slice a5 (sg l st sp).length k5, .int .i64 0]] w6 fun e w' => e = .returned (.bool sd) ∧ Below w6.heap.size w6 w') := Cs
    clear Cs
    go_wp2_with fail
    refine HCs.out.mono ?_
    rintro e w7 ⟨rfl, hB7⟩
    have HB7 : Hid (Below w9.heap.size w9 w7) := HB6.out.trans (hB7.mono HB6.out.size)
    have HT7 : Hid (Bl 36 w7 w9.heap.size [.int .i64 (t.toNat : Int), .slice a5 (sg l st sp).length k5, .int .i64 0]) := HT6.out.below hB7 HT6.out.lt
    have HO7 : Hid (w7.ownsRow w1.heap.size 5 1 (.slice a5 (sg l st sp).length k5) (sg l st sp).length ((sg l st sp).map B)) := own_below HO6.out hB7 (Nat.le_refl _)
    clear c60 c61 c62 HT6 HO6 HB6 hB7 HCs
    cases sd with
    | false =>
      go_wp2
      go_ret2
      exact ⟨HB0.out.trans (HB7.out.mono hwsz), fun _ => rfl, fun h => by rw [Hsd.out] at h; cases h⟩
    | true =>
      have c70 := HT7.out.cell 0 (by simp)
      simp only [List.getElem_cons_zero] at c70
      go_wp2_with fail
      refine (HC3.out _).mono ?_
      rintro e w8 ⟨rfl, rfl⟩
      have HS7 : Hid (St w0 w8 rb (.slice (some ⟨g, off, none⟩) l.length cap) lv xs) := HS.out.below HB7.out (Nat.le_refl _)
      have c71 := HT7.out.cell 1 (by simp)
      have c72 := HT7.out.cell 2 (by simp)
      have cl1 := HS7.out.rd.cell 1 (by simp)
      simp only [List.getElem_cons_zero, List.getElem_cons_succ] at c71 c72 cl1
      have HX : Hid (xC ⟨⟨(t.toNat : Int), sg l st sp, 0⟩, a5, k5⟩ = [.int .i64 (t.toNat : Int), .slice a5 (sg l st sp).length k5, .int .i64 0]) := rfl
      go_wp2_with fail
      refine wp_region_K 10 (fun (w' : World) => w'.cell? ⟨rb, 1, none⟩ = some lv ∧ w'.cell? ⟨w9.heap.size, 0, none⟩ = some (.int .i64 (t.toNat : Int)) ∧ w'.cell? ⟨w9.heap.size, 1, none⟩ = some (.slice a5 (sg l st sp).length k5) ∧ w'.cell? ⟨w9.heap.size, 2, none⟩ = some (.int .i64 0)) (by kernel_rfl) ?_
      have hHeld : ((fun (w' : World) => w'.cell? ⟨rb, 1, none⟩ = some lv ∧ w'.cell? ⟨w9.heap.size, 0, none⟩ = some (.int .i64 (t.toNat : Int)) ∧ w'.cell? ⟨w9.heap.size, 1, none⟩ = some (.slice a5 (sg l st sp).length k5) ∧ w'.cell? ⟨w9.heap.size, 2, none⟩ = some (.int .i64 0))) (World.drew _) := ⟨cl1, c70, c71, c72⟩
      refine wpAnyK_take0 0 (v := ?v14) rfl (by kernel_rfl) (fun _ _ _ h => h) (Or.inl ⟨by rfl, ?hy14⟩) (fun _ => hHeld) ?_
      case hy14 => (intro w hSw; go_simp; try with_reducible rfl)
      try simp only [Act.put, List.setIfInBounds_toArray, List.set_cons_zero, List.set_cons_succ]
      refine wpAnyK_take0 1 (v := ?v15) rfl (by kernel_rfl) (fun _ _ _ h => h) (Or.inl ⟨by rfl, ?hy15⟩) (fun _ => hHeld) ?_
      case hy15 => (intro w hSw; go_simp; try with_reducible rfl)
      try simp only [Act.put, List.setIfInBounds_toArray, List.set_cons_zero, List.set_cons_succ]
      refine wpAnyK_take0 2 (v := ?v16) rfl (by kernel_rfl) (fun _ _ _ h => h) (Or.inl ⟨by rfl, ?hy16⟩) (fun _ => hHeld) ?_
      case hy16 => (intro w hSw; go_simp; try with_reducible rfl)
      try simp only [Act.put, List.setIfInBounds_toArray, List.set_cons_zero, List.set_cons_succ]
      refine wpAnyK_take0 3 (v := ?v17) rfl (by kernel_rfl) (fun _ _ _ h => h) (Or.inl ⟨by rfl, ?hy17⟩) (fun _ => hHeld) ?_
      case hy17 => (intro w hSw; go_simp; try with_reducible rfl)
      try simp only [Act.put, List.setIfInBounds_toArray, List.set_cons_zero, List.set_cons_succ]
      refine wpAnyK_take 4 [7, 10] (v := ?v18) rfl (by kernel_rfl) (fun _ _ _ h => h) (Or.inl ⟨by rfl, ?hy18⟩) hHeld ?_
      case hy18 => (intro w hSw; (try dsimp only at hSw); go_simp; try with_reducible rfl)
      try simp only [Act.put, List.setIfInBounds_toArray, List.set_cons_zero, List.set_cons_succ]
      refine wpAnyK_take 5 [6, 7, 10] (v := ?v19) rfl (by kernel_rfl) (fun _ _ _ h => h) (Or.inl ⟨by rfl, ?hy19⟩) hHeld ?_
      case hy19 => (intro w hSw; (try dsimp only at hSw); go_simp; try with_reducible rfl)
      try simp only [Act.put, List.setIfInBounds_toArray, List.set_cons_zero, List.set_cons_succ]
      refine wpAnyK_step 6 rfl (by kernel_rfl) (fun K hK => ?_)
      go_simp
      have HBB : Hid (Below w9.heap.size w9 (w8.drew.alloc (Obj.cells #[.int .i64 (t.toNat : Int), (.slice a5 (sg l st sp).length k5), .int .i64 0] 36))) := HB7.out.trans ((alloc_below_drew w8 _).mono HB7.out.size)
      have HSB : Hid (St w0 (w8.drew.alloc (Obj.cells #[.int .i64 (t.toNat : Int), (.slice a5 (sg l st sp).length k5), .int .i64 0] 36)) rb (.slice (some ⟨g, off, none⟩) l.length cap) lv xs) := HS.out.below HBB.out (Nat.le_refl _)
      have HTB : Hid (Bl 36 (w8.drew.alloc (Obj.cells #[.int .i64 (t.toNat : Int), (.slice a5 (sg l st sp).length k5), .int .i64 0] 36)) w9.heap.size [.int .i64 (t.toNat : Int), (.slice a5 (sg l st sp).length k5), .int .i64 0]) := HT7.out.below (alloc_below_drew w8 _) HT7.out.lt
      have HNB : Hid (Bl 36 (w8.drew.alloc (Obj.cells #[.int .i64 (t.toNat : Int), (.slice a5 (sg l st sp).length k5), .int .i64 0] 36)) w8.heap.size [.int .i64 (t.toNat : Int), (.slice a5 (sg l st sp).length k5), .int .i64 0]) := alloc_bl w8.drew _ _
      have HOB : Hid ((w8.drew.alloc (Obj.cells #[.int .i64 (t.toNat : Int), (.slice a5 (sg l st sp).length k5), .int .i64 0] 36)).ownsRow w1.heap.size 5 1 (.slice a5 (sg l st sp).length k5) (sg l st sp).length ((sg l st sp).map B)) := own_below HO7.out (alloc_below_drew w8 _) (Nat.le_refl _)
      have HKB : Hid ((fun (w' : World) => w'.cell? ⟨rb, 1, none⟩ = some lv ∧ w'.cell? ⟨w9.heap.size, 0, none⟩ = some (.int .i64 (t.toNat : Int)) ∧ w'.cell? ⟨w9.heap.size, 1, none⟩ = some (.slice a5 (sg l st sp).length k5) ∧ w'.cell? ⟨w9.heap.size, 2, none⟩ = some (.int .i64 0)) (w8.drew.alloc (Obj.cells #[.int .i64 (t.toNat : Int), (.slice a5 (sg l st sp).length k5), .int .i64 0] 36))) := ⟨HSB.out.rd.cell 1 (by simp), HTB.out.cell 0 (by simp), HTB.out.cell 1 (by simp), HTB.out.cell 2 (by simp)⟩
      refine hK.out _ _ ?hk20 ?_
      case hk20 => exact fun _ => HKB.out
      have hHeld : (fun (w' : World) => w'.cell? ⟨rb, 1, none⟩ = some lv ∧ w'.cell? ⟨w9.heap.size, 0, none⟩ = some (.int .i64 (t.toNat : Int)) ∧ w'.cell? ⟨w9.heap.size, 1, none⟩ = some (.slice a5 (sg l st sp).length k5) ∧ w'.cell? ⟨w9.heap.size, 2, none⟩ = some (.int .i64 0)) _ := HKB.out
      clear hK K
      try simp only [Act.put, List.setIfInBounds_toArray, List.set_cons_zero, List.set_cons_succ]
      refine wpAnyK_step 7 rfl (by kernel_rfl) (fun K hK => ?_)
      rw [if_pos (by rfl)]
      refine wp_append_own_wide _ (.tmp 77) (.tmp 79) 24 rfl w0.heap.size 36 i1 (.agg #[.int .i64 0, .slice none 0 0, .int .i64 0]) 3 40 Try.underlying24 hj hy0 hy1 hy2 rfl (by decide) lv xs.length (xCs xs) rfl HSB.out.own ⟨w8.heap.size, 0, none⟩ 1 1 [.int .i64 (t.toNat : Int), (.slice a5 (sg l st sp).length k5), .int .i64 0] rfl rfl (fun j u hu => by match j, hu with | 0, hu => exact (HNB.out.cell 0 (by simp)).trans hu | 1, hu => exact (HNB.out.cell 1 (by simp)).trans hu | 2, hu => exact (HNB.out.cell 2 (by simp)).trans hu) (by intro u hu; simp at hu; rcases hu with rfl | rfl | rfl <;> rfl) (by unfold maxLen; omega) (by omega) HSB.out.bel.size ?_
      intro vZ wY hownZ hgrowZ hnilZ
      have HSZ : Hid (St w0 (wY.setCell ⟨rb, 1, none⟩ vZ) rb (.slice (some ⟨g, off, none⟩) l.length cap) vZ (xs ++ [⟨⟨(t.toNat : Int), sg l st sp, 0⟩, a5, k5⟩])) := HS.out.push (x := ⟨⟨(t.toNat : Int), sg l st sp, 0⟩, a5, k5⟩) HBB.out (own_base HOB.out (Nat.le_trans hwsz (Nat.le_of_lt hsz1))) (fun g hg => Nat.le_trans (Nat.le_of_lt hsz1) (own_block HOB.out g hg)) ⟨by show (0 : Int) ≤ 0; decide, by show (0 : Int) ≤ 65536; decide⟩ hownZ hgrowZ
      have HTY : Hid (Bl 36 wY w9.heap.size [.int .i64 (t.toNat : Int), (.slice a5 (sg l st sp).length k5), .int .i64 0]) := bl_grown HTB.out hgrowZ (fun e => HNE.out e)
      have HRY : Hid (Bl 38 wY rb [.slice (some ⟨g, off, none⟩) l.length cap, lv]) := bl_grown HSB.out.rd hgrowZ (block_apart HSB.out.own HSB.out.rd (by decide))
      have HTZ : Hid (Bl 36 (wY.setCell ⟨rb, 1, none⟩ vZ) w9.heap.size _) := bl_set HTY.out (fun e => HRW.out e) 1 vZ
      have cY : wY.cell? ⟨rb, 1, none⟩ = some lv := HRY.out.cell 1 (by simp)
      have fY := HRY.out.frozen 1
      have HKY : Hid ((fun (w' : World) => w'.cell? ⟨rb, 1, none⟩ = some lv ∧ w'.cell? ⟨w9.heap.size, 0, none⟩ = some (.int .i64 (t.toNat : Int)) ∧ w'.cell? ⟨w9.heap.size, 1, none⟩ = some (.slice a5 (sg l st sp).length k5) ∧ w'.cell? ⟨w9.heap.size, 2, none⟩ = some (.int .i64 0)) wY) := ⟨cY, HTY.out.cell 0 (by simp), HTY.out.cell 1 (by simp), HTY.out.cell 2 (by simp)⟩
      obtain ⟨aZ, kZ, rfl⟩ := own_slice hownZ
      obtain ⟨aL, kL, rfl⟩ := own_slice HS.out.own
      clear hownZ hgrowZ hnilZ
      refine hK.out _ _ ?hk21 ?_
      case hk21 => exact fun _ => HKY.out
      have hHeld : (fun (w' : World) => w'.cell? ⟨rb, 1, none⟩ = some (.slice aL xs.length kL) ∧ w'.cell? ⟨w9.heap.size, 0, none⟩ = some (.int .i64 (t.toNat : Int)) ∧ w'.cell? ⟨w9.heap.size, 1, none⟩ = some (.slice a5 (sg l st sp).length k5) ∧ w'.cell? ⟨w9.heap.size, 2, none⟩ = some (.int .i64 0)) _ := HKY.out
      clear hK K
      try simp only [Act.put, List.setIfInBounds_toArray, List.set_cons_zero, List.set_cons_succ]
      refine wpAnyK_take0 8 (v := ?v22) rfl (by kernel_rfl) (fun _ _ _ h => h) (Or.inl ⟨by rfl, ?hy22⟩) (fun _ => hHeld) ?_
      case hy22 => (intro w hSw; go_simp; try with_reducible rfl)
      try simp only [Act.put, List.setIfInBounds_toArray, List.set_cons_zero, List.set_cons_succ]
      refine wpAnyK_take0 9 (v := ?v23) rfl (by kernel_rfl) (fun _ _ _ h => h) (Or.inl ⟨by rfl, ?hy23⟩) (fun _ => hHeld) ?_
      case hy23 => (intro w hSw; go_simp; try with_reducible rfl)
      try simp only [Act.put, List.setIfInBounds_toArray, List.set_cons_zero, List.set_cons_succ]
      refine wpAnyK_step 10 rfl (by kernel_rfl) (fun K hK => ?_)
      go_simp
      refine hK.out _ _ ?hk24 ?_
      case hk24 => exact (fun h => nomatch (h.symm.trans (show _ = true by kernel_rfl)))
      clear hK K
      try simp only [Act.put, List.setIfInBounds_toArray, List.set_cons_zero, List.set_cons_succ]
      refine wpAnyK_done (by kernel_rfl) ?_ _
      generalize (wY.setCell ⟨rb, 1, none⟩ (.slice aZ (xs.length + 1) kZ)) = wZ at *
      clear c70 c71 c72 cl1
      have HTA : Hid (Bl 36 wZ w9.heap.size [.int .i64 (t.toNat : Int), .slice a5 (sg l st sp).length k5, .int .i64 0]) := HTZ.out
      have c90 := HTA.out.cell 0 (by simp)
      simp only [List.getElem_cons_zero] at c90
      go_wp2_with fail
      refine (HC3.out _).mono ?_
      rintro e wR ⟨rfl, rfl⟩
      go_wp2
      go_ret2
      exact ⟨HSZ.out.bel, (fun h => by rw [Hsd.out] at h; cases h), fun _ => ⟨rfl, _, ⟨⟨(t.toNat : Int), sg l st sp, 0⟩, a5, k5⟩, HSZ.out, rfl⟩⟩
  · subst hse
    subst hstc
    rw [Nat.sub_self] at HL
    have HNW : Hid (∀ j u, ((sg l st st).map B)[j]? = some u → w1.drew.cell? ((⟨g, off, none⟩ : Addr).add j) = some u) := fun j u hu => by rw [List.length_eq_zero_iff.1 HL.out] at hu; simp at hu
    go_wp2_with fail
    refine wp_region_K 11 (fun (w' : World) => w'.cell? ⟨w9.heap.size, 1, none⟩ = some (.slice none 0 0) ∧ w'.cell? ⟨rb, 0, none⟩ = some (.slice (some ⟨g, off, none⟩) l.length st)) (by kernel_rfl) ?_
    have hHeld : ((fun (w' : World) => w'.cell? ⟨w9.heap.size, 1, none⟩ = some (.slice none 0 0) ∧ w'.cell? ⟨rb, 0, none⟩ = some (.slice (some ⟨g, off, none⟩) l.length st))) (World.drew _) := ⟨c11, c01⟩
    refine wpAnyK_take0 0 (v := ?v25) rfl (by kernel_rfl) (fun _ _ _ h => h) (Or.inl ⟨by rfl, ?hy25⟩) (fun _ => hHeld) ?_
    case hy25 => (intro w hSw; go_simp; try with_reducible rfl)
    try simp only [Act.put, List.setIfInBounds_toArray, List.set_cons_zero, List.set_cons_succ]
    refine wpAnyK_take 1 [9, 11] (v := ?v26) rfl (by kernel_rfl) (fun _ _ _ h => h) (Or.inl ⟨by rfl, ?hy26⟩) hHeld ?_
    case hy26 => (intro w hSw; (try dsimp only at hSw); go_simp; try with_reducible rfl)
    try simp only [Act.put, List.setIfInBounds_toArray, List.set_cons_zero, List.set_cons_succ]
    refine wpAnyK_take0 2 (v := ?v27) rfl (by kernel_rfl) (fun _ _ _ h => h) (Or.inl ⟨by rfl, ?hy27⟩) (fun _ => hHeld) ?_
    case hy27 => (intro w hSw; go_simp; try with_reducible rfl)
    try simp only [Act.put, List.setIfInBounds_toArray, List.set_cons_zero, List.set_cons_succ]
    refine wpAnyK_take0 3 (v := ?v28) rfl (by kernel_rfl) (fun _ _ _ h => h) (Or.inl ⟨by rfl, ?hy28⟩) (fun _ => hHeld) ?_
    case hy28 => (intro w hSw; go_simp; try with_reducible rfl)
    try simp only [Act.put, List.setIfInBounds_toArray, List.set_cons_zero, List.set_cons_succ]
    refine wpAnyK_take0 4 (v := ?v29) rfl (by kernel_rfl) (fun _ _ _ h => h) (Or.inl ⟨by rfl, ?hy29⟩) (fun _ => hHeld) ?_
    case hy29 => (intro w hSw; go_simp; try with_reducible rfl)
    try simp only [Act.put, List.setIfInBounds_toArray, List.set_cons_zero, List.set_cons_succ]
    refine wpAnyK_take 5 [8, 9, 11] (v := ?v30) rfl (by kernel_rfl) (fun _ _ _ h => h) (Or.inl ⟨by rfl, ?hy30⟩) hHeld ?_
    case hy30 => (intro w hSw; (try dsimp only at hSw); go_simp; try with_reducible rfl)
    try simp only [Act.put, List.setIfInBounds_toArray, List.set_cons_zero, List.set_cons_succ]
    refine wpAnyK_take0 6 (v := ?v31) rfl (by kernel_rfl) (fun _ _ _ h => h) (Or.inl ⟨by rfl, ?hy31⟩) (fun _ => hHeld) ?_
    case hy31 => (intro w hSw; go_simp; try with_reducible rfl)
    try simp only [Act.put, List.setIfInBounds_toArray, List.set_cons_zero, List.set_cons_succ]
    refine wpAnyK_take0 7 (v := ?v32) rfl (by kernel_rfl) (fun _ _ _ h => h) (Or.inl ⟨by rfl, ?hy32⟩) (fun _ => hHeld) ?_
    case hy32 => (intro w hSw; go_simp; try with_reducible rfl)
    try simp only [Act.put, List.setIfInBounds_toArray, List.set_cons_zero, List.set_cons_succ]
    refine wpAnyK_take0 8 (v := ?v33) rfl (by kernel_rfl) (fun _ _ _ h => h) (Or.inl ⟨by rfl, ?hy33⟩) (fun _ => hHeld) ?_
    case hy33 => (intro w hSw; go_simp; first | with_reducible rfl | (simp only [if_pos hspc, if_pos rfl]; with_reducible rfl))
    try simp only [Act.put, List.setIfInBounds_toArray, List.set_cons_zero, List.set_cons_succ]
    refine wpAnyK_step 9 rfl (by kernel_rfl) (fun K hK => ?_)
    rw [if_pos (by rfl)]
    refine wp_append_own_wide _ (.tmp 51) (.tmp 58) 22 rfl w1.heap.size 5 i0 (.int .u8 0) 1 1 Try.underlying22 hi hz0 hz1 hz2 rfl (by decide) (.slice none 0 0) 0 [] rfl (World.ownsRow_nil _ _ _ _) ⟨g, off, none⟩ 0 0 ((sg l st st).map B) rfl (by rw [List.length_map, HL.out, Nat.mul_one]) HNW.out (oneB _) (by unfold maxLen; omega) (by omega) (Nat.le_refl _) ?_
    intro v5 w5 hown5 hgrow5 hnil5
    have HG5 : Hid (Below w1.heap.size w1 w5) := ⟨hgrow5.os, hgrow5.tape, hgrow5.output, hgrow5.size, fun k hk => hgrow5.block k hk (fun e => by cases e)⟩
    have HO5 : Hid (w5.ownsRow w1.heap.size 5 1 v5 (sg l st st).length ((sg l st st).map B)) := (by rw [HL.out]; rw [Nat.zero_add, List.nil_append] at hown5; exact hown5)
    have HT5 : Hid (Bl 36 w5 w9.heap.size [.int .i64 (t.toNat : Int), .slice none 0 0, .int .i64 0]) := HT1.out.below HG5.out hsz1
    have c15 : w5.cell? ⟨w9.heap.size, 1, none⟩ = some (.slice none 0 0) := HT5.out.cell 1 (by simp)
    have c05 := cell_but c01 fun hg => HG5.out.block rb hg
    clear hown5 hgrow5 hnil5
    obtain ⟨a5, k5, rfl⟩ := own_slice HO5.out
    refine hK.out _ _ ?hk34 ?_
    case hk34 => exact fun _ => ⟨c15, c05⟩
    have hHeld : (fun (w' : World) => w'.cell? ⟨w9.heap.size, 1, none⟩ = some (.slice none 0 0) ∧ w'.cell? ⟨rb, 0, none⟩ = some (.slice (some ⟨g, off, none⟩) l.length st)) _ := ⟨c15, c05⟩
    clear hK K
    try simp only [Act.put, List.setIfInBounds_toArray, List.set_cons_zero, List.set_cons_succ]
    refine wpAnyK_take0 10 (v := ?v35) rfl (by kernel_rfl) (fun _ _ _ h => h) (Or.inl ⟨by rfl, ?hy35⟩) (fun _ => hHeld) ?_
    case hy35 => (intro w hSw; go_simp; try with_reducible rfl)
    try simp only [Act.put, List.setIfInBounds_toArray, List.set_cons_zero, List.set_cons_succ]
    have f1 := HT5.out.frozen 1
    refine wpAnyK_step 11 rfl (by kernel_rfl) (fun K hK => ?_)
    go_simp
    refine hK.out _ _ ?hk37 ?_
    case hk37 => exact (fun h => nomatch (h.symm.trans (show _ = true by kernel_rfl)))
    clear hK K
    try simp only [Act.put, List.setIfInBounds_toArray, List.set_cons_zero, List.set_cons_succ]
    refine wpAnyK_done (by kernel_rfl) ?_ _
    have HT6 : Hid (Bl 36 (w5.setCell ⟨w9.heap.size, 1, none⟩ (.slice a5 (sg l st st).length k5)) w9.heap.size [.int .i64 (t.toNat : Int), .slice a5 (sg l st st).length k5, .int .i64 0]) := HT5.out.set 1 _
    have HO6 : Hid ((w5.setCell ⟨w9.heap.size, 1, none⟩ (.slice a5 (sg l st st).length k5)).ownsRow w1.heap.size 5 1 (.slice a5 (sg l st st).length k5) (sg l st st).length ((sg l st st).map B)) := own_keep HO5.out fun g hg => heap_setCell_other w5 _ g _ (fun e => block_apart HO5.out HT5.out (by decide) (by rw [hg]; exact congrArg some e))
    have HB6 : Hid (Below w9.heap.size w9 (w5.setCell ⟨w9.heap.size, 1, none⟩ (.slice a5 (sg l st st).length k5))) := Below.setCell (HB1.out.trans (HG5.out.mono (Nat.le_of_lt hsz1))) (Nat.le_refl _) _
    generalize (w5.setCell ⟨w9.heap.size, 1, none⟩ (.slice a5 (sg l st st).length k5)) = w6 at *
    clear c15 c05 f1 hHeld HT5 HO5 HG5 HT1 HB1 c11 c01 HR1 HNW
    have c60 := HT6.out.cell 0 (by simp)
    have c61 := HT6.out.cell 1 (by simp)
    have c62 := HT6.out.cell 2 (by simp)
    simp only [List.getElem_cons_zero, List.getElem_cons_succ] at c60 c61 c62
    obtain ⟨o1, o2, o3⟩ := own_rd HO6.out
    have Cs := sound_any ⟨⟨(t.toNat : Int), sg l st st, 0⟩, a5, k5⟩ w6 ⟨o1, o2, o3, by show (-9223372036854775808 : Int) ≤ 0; decide, by show (0 : Int) ≤ 9223372036854775807; decide⟩
    clear o1 o2 o3
    simp only [xV, xD] at Cs
    obtain ⟨sd, Hsd⟩ : ∃ sd, Hid (sound ⟨(t.toNat : Int), sg l st st, 0⟩ = sd) := ⟨_, rfl⟩
    rw [Hsd.out] at Cs
    have HCs : Hid (Calls Try.prog 34 #[.agg #[.int .i64 (t.toNat : Int), .slice a5 (sg l st st).length k5, .int .i64 0]] w6 fun e w' => e = .returned (.bool sd) ∧ Below w6.heap.size w6 w') := Cs
    clear Cs
    go_wp2_with fail
    refine HCs.out.mono ?_
    rintro e w7 ⟨rfl, hB7⟩
    have HB7 : Hid (Below w9.heap.size w9 w7) := HB6.out.trans (hB7.mono HB6.out.size)
    have HT7 : Hid (Bl 36 w7 w9.heap.size [.int .i64 (t.toNat : Int), .slice a5 (sg l st st).length k5, .int .i64 0]) := HT6.out.below hB7 HT6.out.lt
    have HO7 : Hid (w7.ownsRow w1.heap.size 5 1 (.slice a5 (sg l st st).length k5) (sg l st st).length ((sg l st st).map B)) := own_below HO6.out hB7 (Nat.le_refl _)
    clear c60 c61 c62 HT6 HO6 HB6 hB7 HCs
    cases sd with
    | false =>
      go_wp2
      go_ret2
      exact ⟨HB0.out.trans (HB7.out.mono hwsz), fun _ => rfl, fun h => by rw [Hsd.out] at h; cases h⟩
    | true =>
      have c70 := HT7.out.cell 0 (by simp)
      simp only [List.getElem_cons_zero] at c70
      go_wp2_with fail
      refine (HC3.out _).mono ?_
      rintro e w8 ⟨rfl, rfl⟩
      have HS7 : Hid (St w0 w8 rb (.slice (some ⟨g, off, none⟩) l.length st) lv xs) := HS.out.below HB7.out (Nat.le_refl _)
      have c71 := HT7.out.cell 1 (by simp)
      have c72 := HT7.out.cell 2 (by simp)
      have cl1 := HS7.out.rd.cell 1 (by simp)
      simp only [List.getElem_cons_zero, List.getElem_cons_succ] at c71 c72 cl1
      have HX : Hid (xC ⟨⟨(t.toNat : Int), sg l st st, 0⟩, a5, k5⟩ = [.int .i64 (t.toNat : Int), .slice a5 (sg l st st).length k5, .int .i64 0]) := rfl
      go_wp2_with fail
      refine wp_region_K 10 (fun (w' : World) => w'.cell? ⟨rb, 1, none⟩ = some lv ∧ w'.cell? ⟨w9.heap.size, 0, none⟩ = some (.int .i64 (t.toNat : Int)) ∧ w'.cell? ⟨w9.heap.size, 1, none⟩ = some (.slice a5 (sg l st st).length k5) ∧ w'.cell? ⟨w9.heap.size, 2, none⟩ = some (.int .i64 0)) (by kernel_rfl) ?_
      have hHeld : ((fun (w' : World) => w'.cell? ⟨rb, 1, none⟩ = some lv ∧ w'.cell? ⟨w9.heap.size, 0, none⟩ = some (.int .i64 (t.toNat : Int)) ∧ w'.cell? ⟨w9.heap.size, 1, none⟩ = some (.slice a5 (sg l st st).length k5) ∧ w'.cell? ⟨w9.heap.size, 2, none⟩ = some (.int .i64 0))) (World.drew _) := ⟨cl1, c70, c71, c72⟩
      refine wpAnyK_take0 0 (v := ?v38) rfl (by kernel_rfl) (fun _ _ _ h => h) (Or.inl ⟨by rfl, ?hy38⟩) (fun _ => hHeld) ?_
      case hy38 => (intro w hSw; go_simp; try with_reducible rfl)
      try simp only [Act.put, List.setIfInBounds_toArray, List.set_cons_zero, List.set_cons_succ]
      refine wpAnyK_take0 1 (v := ?v39) rfl (by kernel_rfl) (fun _ _ _ h => h) (Or.inl ⟨by rfl, ?hy39⟩) (fun _ => hHeld) ?_
      case hy39 => (intro w hSw; go_simp; try with_reducible rfl)
      try simp only [Act.put, List.setIfInBounds_toArray, List.set_cons_zero, List.set_cons_succ]
      refine wpAnyK_take0 2 (v := ?v40) rfl (by kernel_rfl) (fun _ _ _ h => h) (Or.inl ⟨by rfl, ?hy40⟩) (fun _ => hHeld) ?_
      case hy40 => (intro w hSw; go_simp; try with_reducible rfl)
      try simp only [Act.put, List.setIfInBounds_toArray, List.set_cons_zero, List.set_cons_succ]
      refine wpAnyK_take0 3 (v := ?v41) rfl (by kernel_rfl) (fun _ _ _ h => h) (Or.inl ⟨by rfl, ?hy41⟩) (fun _ => hHeld) ?_
      case hy41 => (intro w hSw; go_simp; try with_reducible rfl)
      try simp only [Act.put, List.setIfInBounds_toArray, List.set_cons_zero, List.set_cons_succ]
      refine wpAnyK_take 4 [7, 10] (v := ?v42) rfl (by kernel_rfl) (fun _ _ _ h => h) (Or.inl ⟨by rfl, ?hy42⟩) hHeld ?_
      case hy42 => (intro w hSw; (try dsimp only at hSw); go_simp; try with_reducible rfl)
      try simp only [Act.put, List.setIfInBounds_toArray, List.set_cons_zero, List.set_cons_succ]
      refine wpAnyK_take 5 [6, 7, 10] (v := ?v43) rfl (by kernel_rfl) (fun _ _ _ h => h) (Or.inl ⟨by rfl, ?hy43⟩) hHeld ?_
      case hy43 => (intro w hSw; (try dsimp only at hSw); go_simp; try with_reducible rfl)
      try simp only [Act.put, List.setIfInBounds_toArray, List.set_cons_zero, List.set_cons_succ]
      refine wpAnyK_step 6 rfl (by kernel_rfl) (fun K hK => ?_)
      go_simp
      have HBB : Hid (Below w9.heap.size w9 (w8.drew.alloc (Obj.cells #[.int .i64 (t.toNat : Int), (.slice a5 (sg l st st).length k5), .int .i64 0] 36))) := HB7.out.trans ((alloc_below_drew w8 _).mono HB7.out.size)
      have HSB : Hid (St w0 (w8.drew.alloc (Obj.cells #[.int .i64 (t.toNat : Int), (.slice a5 (sg l st st).length k5), .int .i64 0] 36)) rb (.slice (some ⟨g, off, none⟩) l.length st) lv xs) := HS.out.below HBB.out (Nat.le_refl _)
      have HTB : Hid (Bl 36 (w8.drew.alloc (Obj.cells #[.int .i64 (t.toNat : Int), (.slice a5 (sg l st st).length k5), .int .i64 0] 36)) w9.heap.size [.int .i64 (t.toNat : Int), (.slice a5 (sg l st st).length k5), .int .i64 0]) := HT7.out.below (alloc_below_drew w8 _) HT7.out.lt
      have HNB : Hid (Bl 36 (w8.drew.alloc (Obj.cells #[.int .i64 (t.toNat : Int), (.slice a5 (sg l st st).length k5), .int .i64 0] 36)) w8.heap.size [.int .i64 (t.toNat : Int), (.slice a5 (sg l st st).length k5), .int .i64 0]) := alloc_bl w8.drew _ _
      have HOB : Hid ((w8.drew.alloc (Obj.cells #[.int .i64 (t.toNat : Int), (.slice a5 (sg l st st).length k5), .int .i64 0] 36)).ownsRow w1.heap.size 5 1 (.slice a5 (sg l st st).length k5) (sg l st st).length ((sg l st st).map B)) := own_below HO7.out (alloc_below_drew w8 _) (Nat.le_refl _)
      have HKB : Hid ((fun (w' : World) => w'.cell? ⟨rb, 1, none⟩ = some lv ∧ w'.cell? ⟨w9.heap.size, 0, none⟩ = some (.int .i64 (t.toNat : Int)) ∧ w'.cell? ⟨w9.heap.size, 1, none⟩ = some (.slice a5 (sg l st st).length k5) ∧ w'.cell? ⟨w9.heap.size, 2, none⟩ = some (.int .i64 0)) (w8.drew.alloc (Obj.cells #[.int .i64 (t.toNat : Int), (.slice a5 (sg l st st).length k5), .int .i64 0] 36))) := ⟨HSB.out.rd.cell 1 (by simp), HTB.out.cell 0 (by simp), HTB.out.cell 1 (by simp), HTB.out.cell 2 (by simp)⟩
      refine hK.out _ _ ?hk44 ?_
      case hk44 => exact fun _ => HKB.out
      have hHeld : (fun (w' : World) => w'.cell? ⟨rb, 1, none⟩ = some lv ∧ w'.cell? ⟨w9.heap.size, 0, none⟩ = some (.int .i64 (t.toNat : Int)) ∧ w'.cell? ⟨w9.heap.size, 1, none⟩ = some (.slice a5 (sg l st st).length k5) ∧ w'.cell? ⟨w9.heap.size, 2, none⟩ = some (.int .i64 0)) _ := HKB.out
      clear hK K
      try simp only [Act.put, List.setIfInBounds_toArray, List.set_cons_zero, List.set_cons_succ]
      refine wpAnyK_step 7 rfl (by kernel_rfl) (fun K hK => ?_)
      rw [if_pos (by rfl)]
      refine wp_append_own_wide _ (.tmp 77) (.tmp 79) 24 rfl w0.heap.size 36 i1 (.agg #[.int .i64 0, .slice none 0 0, .int .i64 0]) 3 40 Try.underlying24 hj hy0 hy1 hy2 rfl (by decide) lv xs.length (xCs xs) rfl HSB.out.own ⟨w8.heap.size, 0, none⟩ 1 1 [.int .i64 (t.toNat : Int), (.slice a5 (sg l st st).length k5), .int .i64 0] rfl rfl (fun j u hu => by match j, hu with | 0, hu => exact (HNB.out.cell 0 (by simp)).trans hu | 1, hu => exact (HNB.out.cell 1 (by simp)).trans hu | 2, hu => exact (HNB.out.cell 2 (by simp)).trans hu) (by intro u hu; simp at hu; rcases hu with rfl | rfl | rfl <;> rfl) (by unfold maxLen; omega) (by omega) HSB.out.bel.size ?_
      intro vZ wY hownZ hgrowZ hnilZ
      have HSZ : Hid (St w0 (wY.setCell ⟨rb, 1, none⟩ vZ) rb (.slice (some ⟨g, off, none⟩) l.length st) vZ (xs ++ [⟨⟨(t.toNat : Int), sg l st st, 0⟩, a5, k5⟩])) := HS.out.push (x := ⟨⟨(t.toNat : Int), sg l st st, 0⟩, a5, k5⟩) HBB.out (own_base HOB.out (Nat.le_trans hwsz (Nat.le_of_lt hsz1))) (fun g hg => Nat.le_trans (Nat.le_of_lt hsz1) (own_block HOB.out g hg)) ⟨by show (0 : Int) ≤ 0; decide, by show (0 : Int) ≤ 65536; decide⟩ hownZ hgrowZ
      have HTY : Hid (Bl 36 wY w9.heap.size [.int .i64 (t.toNat : Int), (.slice a5 (sg l st st).length k5), .int .i64 0]) := bl_grown HTB.out hgrowZ (fun e => HNE.out e)
      have HRY : Hid (Bl 38 wY rb [.slice (some ⟨g, off, none⟩) l.length st, lv]) := bl_grown HSB.out.rd hgrowZ (block_apart HSB.out.own HSB.out.rd (by decide))
      have HTZ : Hid (Bl 36 (wY.setCell ⟨rb, 1, none⟩ vZ) w9.heap.size _) := bl_set HTY.out (fun e => HRW.out e) 1 vZ
      have cY : wY.cell? ⟨rb, 1, none⟩ = some lv := HRY.out.cell 1 (by simp)
      have fY := HRY.out.frozen 1
      have HKY : Hid ((fun (w' : World) => w'.cell? ⟨rb, 1, none⟩ = some lv ∧ w'.cell? ⟨w9.heap.size, 0, none⟩ = some (.int .i64 (t.toNat : Int)) ∧ w'.cell? ⟨w9.heap.size, 1, none⟩ = some (.slice a5 (sg l st st).length k5) ∧ w'.cell? ⟨w9.heap.size, 2, none⟩ = some (.int .i64 0)) wY) := ⟨cY, HTY.out.cell 0 (by simp), HTY.out.cell 1 (by simp), HTY.out.cell 2 (by simp)⟩
      obtain ⟨aZ, kZ, rfl⟩ := own_slice hownZ
      obtain ⟨aL, kL, rfl⟩ := own_slice HS.out.own
      clear hownZ hgrowZ hnilZ
      refine hK.out _ _ ?hk45 ?_
      case hk45 => exact fun _ => HKY.out
      have hHeld : (fun (w' : World) => w'.cell? ⟨rb, 1, none⟩ = some (.slice aL xs.length kL) ∧ w'.cell? ⟨w9.heap.size, 0, none⟩ = some (.int .i64 (t.toNat : Int)) ∧ w'.cell? ⟨w9.heap.size, 1, none⟩ = some (.slice a5 (sg l st st).length k5) ∧ w'.cell? ⟨w9.heap.size, 2, none⟩ = some (.int .i64 0)) _ := HKY.out
      clear hK K
      try simp only [Act.put, List.setIfInBounds_toArray, List.set_cons_zero, List.set_cons_succ]
      refine wpAnyK_take0 8 (v := ?v46) rfl (by kernel_rfl) (fun _ _ _ h => h) (Or.inl ⟨by rfl, ?hy46⟩) (fun _ => hHeld) ?_
      case hy46 => (intro w hSw; go_simp; try with_reducible rfl)
      try simp only [Act.put, List.setIfInBounds_toArray, List.set_cons_zero, List.set_cons_succ]
      refine wpAnyK_take0 9 (v := ?v47) rfl (by kernel_rfl) (fun _ _ _ h => h) (Or.inl ⟨by rfl, ?hy47⟩) (fun _ => hHeld) ?_
      case hy47 => (intro w hSw; go_simp; try with_reducible rfl)
      try simp only [Act.put, List.setIfInBounds_toArray, List.set_cons_zero, List.set_cons_succ]
      refine wpAnyK_step 10 rfl (by kernel_rfl) (fun K hK => ?_)
      go_simp
      refine hK.out _ _ ?hk48 ?_
      case hk48 => exact (fun h => nomatch (h.symm.trans (show _ = true by kernel_rfl)))
      clear hK K
      try simp only [Act.put, List.setIfInBounds_toArray, List.set_cons_zero, List.set_cons_succ]
      refine wpAnyK_done (by kernel_rfl) ?_ _
      generalize (wY.setCell ⟨rb, 1, none⟩ (.slice aZ (xs.length + 1) kZ)) = wZ at *
      clear c70 c71 c72 cl1
      have HTA : Hid (Bl 36 wZ w9.heap.size [.int .i64 (t.toNat : Int), .slice a5 (sg l st st).length k5, .int .i64 0]) := HTZ.out
      have c90 := HTA.out.cell 0 (by simp)
      simp only [List.getElem_cons_zero] at c90
      go_wp2_with fail
      refine (HC3.out _).mono ?_
      rintro e wR ⟨rfl, rfl⟩
      go_wp2
      go_ret2
      exact ⟨HSZ.out.bel, (fun h => by rw [Hsd.out] at h; cases h), fun _ => ⟨rfl, _, ⟨⟨(t.toNat : Int), sg l st st, 0⟩, a5, k5⟩, HSZ.out, rfl⟩⟩

end Go.Proofs.Ytjncpibhnpoghaa
