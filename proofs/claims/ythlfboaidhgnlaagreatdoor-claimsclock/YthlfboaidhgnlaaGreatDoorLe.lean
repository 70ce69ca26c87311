import Derived.Test.YthlfboaidhgnlaaGreatDoorCo
import Derived.Test.YthlfboaidhgnlaaGreatDoorCn
import Derived.Deep.CutRange
namespace Go.Proofs.YthlfboaidhgnlaaGreatDoor
open Go.RowKit

theorem lc1 {eh nh ih : Bool} {ea na ia l now : Int} (hl : 0 ≤ l ∧ l ≤ 600) (h : (eh && !decide (now + -l < ea)) = true) : clockF ⟨eh, ea⟩ ⟨nh, na⟩ ⟨ih, ia⟩ l now = 134 := by
  simp only [Bool.and_eq_true, Bool.not_eq_true', decide_eq_false_iff_not] at h
  unfold clockF
  rw [if_neg (by omega), if_pos ⟨h.1, by show ea + l ≤ now; omega⟩]
theorem lc2 {eh nh ih : Bool} {ea na ia l now : Int} (hl : 0 ≤ l ∧ l ≤ 600) (h0 : (eh && !decide (now + -l < ea)) = false) (h : (nh && decide (now + l < na)) = true) : clockF ⟨eh, ea⟩ ⟨nh, na⟩ ⟨ih, ia⟩ l now = 135 := by
  simp only [Bool.and_eq_true, decide_eq_true_eq] at h
  unfold clockF
  rw [if_neg (by omega), if_neg, if_pos ⟨h.1, by show now < na - l; omega⟩]
  rintro ⟨a, b⟩
  have a : eh = true := a
  have b : ea + l ≤ now := b
  rw [a, decide_eq_false (by omega)] at h0
  cases h0
theorem lc3 {eh nh ih : Bool} {ea na ia l now : Int} (hl : 0 ≤ l ∧ l ≤ 600) (h0 : (eh && !decide (now + -l < ea)) = false) (h1 : (nh && decide (now + l < na)) = false) : clockF ⟨eh, ea⟩ ⟨nh, na⟩ ⟨ih, ia⟩ l now = if (ih && decide (now + l < ia)) = true then 136 else 0 := by
  unfold clockF
  rw [if_neg (by omega), if_neg, if_neg]
  · congr 1
    simp only [Bool.and_eq_true, decide_eq_true_eq]
    refine propext ⟨fun h => ⟨h.1, ?_⟩, fun h => ⟨h.1, ?_⟩⟩
    · have : now < ia - l := h.2; omega
    · have := h.2; show now < ia - l; omega
  · rintro ⟨a, b⟩
    have a : nh = true := a
    have b : now < na - l := b
    rw [a, decide_eq_true (by omega)] at h1
    cases h1
  · rintro ⟨a, b⟩
    have a : eh = true := a
    have b : ea + l ≤ now := b
    rw [a, decide_eq_false (by omega)] at h0
    cases h0
theorem lfar0_any (a : Int) (w : World) (ha : I64 a) : Calls Tryz.prog 32 #[.int .i64 a, .int .i64 0] w fun e w' => e = .returned (farV a) ∧ Below w.heap.size w w' := by
  have := lfar_any a 0 w ha (by omega) (by omega)
  rw [Int.add_zero] at this
  exact this

set_option maxRecDepth 100000 in
set_option maxHeartbeats 8000000 in
theorem lets_any (x0 x1 x2 x3 x4 x5 x6 x7 x8 : Value) (e n i : Tm) (l now : Int) (w : World) (he : I64 e.at_) (hn : I64 n.at_) (hi : I64 i.at_) (hw : I64 now) (hl : 0 ≤ l ∧ l ≤ 600) :
    Calls Tryz.prog 12 #[clW x0 x1 x2 x3 x4 x5 x6 x7 x8 e n i, .int .i64 l, .int .i64 now] w fun r w' => r = .returned (.int .i64 (clockF e n i l now : Nat)) ∧ Below w.heap.size w w' := by
  unfold clW
  obtain ⟨W, hW⟩ : ∃ W : World, w.alloc (.cells (clC9 x0 x1 x2 x3 x4 x5 x6 x7 x8 e n i).toArray 27) = W := ⟨_, rfl⟩
  have hB : Below w.heap.size w W := by rw [← hW]; exact alloc_below _ _
  have hbl : Bl 27 W w.heap.size (clC9 x0 x1 x2 x3 x4 x5 x6 x7 x8 e n i) := by rw [← hW]; exact alloc_bl _ _ _
  obtain ⟨eh, ea⟩ := e
  obtain ⟨nh, na⟩ := n
  obtain ⟨ih, ia⟩ := i
  dsimp only at *
  have h0 : 0 ≤ l := hl.1
  have h6 : l ≤ 600 := hl.2
  have HL : Hid (0 ≤ l ∧ l ≤ 600) := hl
  have hneg : IntKind.i64.wrap (-l) = -l := by rw [IntKind.wrap_i64]; omega
  have HF1 : Hid ((eh && !decide (now + -l < ea)) = true → clockF ⟨eh, ea⟩ ⟨nh, na⟩ ⟨ih, ia⟩ l now = 134) := fun h => lc1 hl h
  have HE : Hid (I64 ea) := he
  have HN : Hid (I64 na) := hn
  have HI : Hid (I64 ia) := hi
  have HNW : Hid (I64 now) := hw
  have HSS : Hid (∀ wq, Below W.heap.size W wq → (fun (w' : World) => w'.cell? ⟨w.heap.size, 9, none⟩ = some (.bool eh) ∧ w'.cell? ⟨w.heap.size, 10, none⟩ = some (.int .i64 ea) ∧ w'.cell? ⟨w.heap.size, 11, none⟩ = some (.bool nh) ∧ w'.cell? ⟨w.heap.size, 12, none⟩ = some (.int .i64 na) ∧ w'.cell? ⟨w.heap.size, 13, none⟩ = some (.bool ih) ∧ w'.cell? ⟨w.heap.size, 14, none⟩ = some (.int .i64 ia)) wq) := fun wq hq => by
    have hb := hbl.below hq hbl.lt
    exact ⟨hb.cell 9 (by simp [clC9]), hb.cell 10 (by simp [clC9]), hb.cell 11 (by simp [clC9]), hb.cell 12 (by simp [clC9]), hb.cell 13 (by simp [clC9]), hb.cell 14 (by simp [clC9])⟩
  have HBW : Hid (Below w.heap.size w W) := hB
  have HY : Hid (Below W.heap.size W W) := Below.refl _ _
  have HW : Hid (w.alloc (Obj.cells #[x0, x1, x2, x3, x4, x5, x6, x7, x8, .bool eh, .int .i64 ea, .bool nh, .int .i64 na, .bool ih, .int .i64 ia] 27) = W) := hW
  clear he hn hi hw hl hbl hB hW
  go_enter Tryz.func12, Tryz.ntmps12
  go_upto_region 1 with fail
  rw [HW.out]
  clear HW
  go_cut [21] from 7 to 21 (fun s wx => s = .bool (eh && !decide (now + -l < ea)) ∧ Hid (Below W.heap.size W wx))
  case first =>
    cases eh
    · skip
      refine wp_region_K 14 (fun (w' : World) => w'.cell? ⟨w.heap.size, 9, none⟩ = some (.bool false) ∧ w'.cell? ⟨w.heap.size, 10, none⟩ = some (.int .i64 ea) ∧ w'.cell? ⟨w.heap.size, 11, none⟩ = some (.bool nh) ∧ w'.cell? ⟨w.heap.size, 12, none⟩ = some (.int .i64 na) ∧ w'.cell? ⟨w.heap.size, 13, none⟩ = some (.bool ih) ∧ w'.cell? ⟨w.heap.size, 14, none⟩ = some (.int .i64 ia)) (by kernel_rfl) ?_
      have hHeld : ((fun (w' : World) => w'.cell? ⟨w.heap.size, 9, none⟩ = some (.bool false) ∧ w'.cell? ⟨w.heap.size, 10, none⟩ = some (.int .i64 ea) ∧ w'.cell? ⟨w.heap.size, 11, none⟩ = some (.bool nh) ∧ w'.cell? ⟨w.heap.size, 12, none⟩ = some (.int .i64 na) ∧ w'.cell? ⟨w.heap.size, 13, none⟩ = some (.bool ih) ∧ w'.cell? ⟨w.heap.size, 14, none⟩ = some (.int .i64 ia))) (World.drew _) := HSS.out _ (below_drewN HY.out 1)
      refine wpAnyK_take0 0 (v := ?v21) rfl (by kernel_rfl) (fun _ _ _ h => h) (Or.inl ⟨by rfl, ?hy21⟩) (fun _ => hHeld) ?_
      case hy21 => (intro w hSw; go_simp; try with_reducible rfl)
      try simp only [Act.put, List.setIfInBounds_toArray, List.set_cons_zero, List.set_cons_succ]
      refine wpAnyK_take0 1 (v := ?v22) rfl (by kernel_rfl) (fun _ _ _ h => h) (Or.inl ⟨by rfl, ?hy22⟩) (fun _ => hHeld) ?_
      case hy22 => (intro w hSw; go_simp; try with_reducible rfl)
      try simp only [Act.put, List.setIfInBounds_toArray, List.set_cons_zero, List.set_cons_succ]
      refine wpAnyK_take 2 [3, 14] (v := ?v23) rfl (by kernel_rfl) (fun _ _ _ h => h) (Or.inl ⟨by rfl, ?hy23⟩) hHeld ?_
      case hy23 => (intro w hSw; (try dsimp only at hSw); go_simp; try with_reducible rfl)
      try simp only [Act.put, List.setIfInBounds_toArray, List.set_cons_zero, List.set_cons_succ]
      refine wpAnyK_take0 3 (v := ?v24) rfl (by kernel_rfl) (fun _ _ _ h => h) (Or.inl ⟨by rfl, ?hy24⟩) (fun _ => hHeld) ?_
      case hy24 => (intro w hSw; go_simp; try with_reducible rfl)
      try simp only [Act.put, List.setIfInBounds_toArray, List.set_cons_zero, List.set_cons_succ]
      refine wpAnyK_take0 4 (v := undef) rfl (by kernel_rfl) (fun _ _ _ h => h) (Or.inr ⟨by rfl, rfl⟩) (fun _ => hHeld) ?_
      try simp only [Act.put, List.setIfInBounds_toArray, List.set_cons_zero, List.set_cons_succ]
      refine wpAnyK_take0 5 (v := undef) rfl (by kernel_rfl) (fun _ _ _ h => h) (Or.inr ⟨by rfl, rfl⟩) (fun _ => hHeld) ?_
      try simp only [Act.put, List.setIfInBounds_toArray, List.set_cons_zero, List.set_cons_succ]
      refine wpAnyK_take0 6 (v := undef) rfl (by kernel_rfl) (fun _ _ _ h => h) (Or.inr ⟨by rfl, rfl⟩) (fun _ => hHeld) ?_
      try simp only [Act.put, List.setIfInBounds_toArray, List.set_cons_zero, List.set_cons_succ]
      refine wpAnyK_take0 8 (v := undef) rfl (by kernel_rfl) (fun _ _ _ h => h) (Or.inr ⟨by rfl, rfl⟩) (fun _ => hHeld) ?_
      try simp only [Act.put, List.setIfInBounds_toArray, List.set_cons_zero, List.set_cons_succ]
      refine wpAnyK_take0 9 (v := undef) rfl (by kernel_rfl) (fun _ _ _ h => h) (Or.inr ⟨by rfl, rfl⟩) (fun _ => hHeld) ?_
      try simp only [Act.put, List.setIfInBounds_toArray, List.set_cons_zero, List.set_cons_succ]
      refine wpAnyK_take0 10 (v := undef) rfl (by kernel_rfl) (fun _ _ _ h => h) (Or.inr ⟨by rfl, rfl⟩) (fun _ => hHeld) ?_
      try simp only [Act.put, List.setIfInBounds_toArray, List.set_cons_zero, List.set_cons_succ]
      refine wpAnyK_step 7 rfl (by kernel_rfl) (fun K31 hK => ?_)
      go_simp
      refine hK.out _ _ (fun _ => hHeld) ?_
      clear hK K31
      try simp only [Act.put, List.setIfInBounds_toArray, List.set_cons_zero, List.set_cons_succ]
      refine wpAnyK_step 11 rfl (by kernel_rfl) (fun K32 hK => ?_)
      go_simp
      refine hK.out _ _ (fun _ => hHeld) ?_
      clear hK K32
      try simp only [Act.put, List.setIfInBounds_toArray, List.set_cons_zero, List.set_cons_succ]
      refine wpAnyK_step 12 rfl (by kernel_rfl) (fun K33 hK => ?_)
      go_simp
      refine hK.out _ _ (fun _ => hHeld) ?_
      clear hK K33
      try simp only [Act.put, List.setIfInBounds_toArray, List.set_cons_zero, List.set_cons_succ]
      refine wpAnyK_take0 13 (v := undef) rfl (by kernel_rfl) (fun _ _ _ h => h) (Or.inr ⟨by rfl, rfl⟩) (fun _ => hHeld) ?_
      try simp only [Act.put, List.setIfInBounds_toArray, List.set_cons_zero, List.set_cons_succ]
      refine wpAnyK_step 14 rfl (by kernel_rfl) (fun K35 hK => ?_)
      go_simp
      refine hK.out _ _ (fun h => nomatch (h.symm.trans (show _ = true by kernel_rfl))) ?_
      clear hK K35
      try simp only [Act.put, List.setIfInBounds_toArray, List.set_cons_zero, List.set_cons_succ]
      refine wpAnyK_done (by kernel_rfl) ?_ _
      clear hHeld
      go_wp2
      go_meet
      exact ⟨rfl, below_drewN HY.out 1⟩
    · skip
      refine wp_region_K 14 (fun (w' : World) => w'.cell? ⟨w.heap.size, 9, none⟩ = some (.bool true) ∧ w'.cell? ⟨w.heap.size, 10, none⟩ = some (.int .i64 ea) ∧ w'.cell? ⟨w.heap.size, 11, none⟩ = some (.bool nh) ∧ w'.cell? ⟨w.heap.size, 12, none⟩ = some (.int .i64 na) ∧ w'.cell? ⟨w.heap.size, 13, none⟩ = some (.bool ih) ∧ w'.cell? ⟨w.heap.size, 14, none⟩ = some (.int .i64 ia)) (by kernel_rfl) ?_
      have hHeld : ((fun (w' : World) => w'.cell? ⟨w.heap.size, 9, none⟩ = some (.bool true) ∧ w'.cell? ⟨w.heap.size, 10, none⟩ = some (.int .i64 ea) ∧ w'.cell? ⟨w.heap.size, 11, none⟩ = some (.bool nh) ∧ w'.cell? ⟨w.heap.size, 12, none⟩ = some (.int .i64 na) ∧ w'.cell? ⟨w.heap.size, 13, none⟩ = some (.bool ih) ∧ w'.cell? ⟨w.heap.size, 14, none⟩ = some (.int .i64 ia))) (World.drew _) := HSS.out _ (below_drewN HY.out 1)
      refine wpAnyK_take0 0 (v := ?v36) rfl (by kernel_rfl) (fun _ _ _ h => h) (Or.inl ⟨by rfl, ?hy36⟩) (fun _ => hHeld) ?_
      case hy36 => (intro w hSw; go_simp; try with_reducible rfl)
      try simp only [Act.put, List.setIfInBounds_toArray, List.set_cons_zero, List.set_cons_succ]
      refine wpAnyK_take0 1 (v := ?v37) rfl (by kernel_rfl) (fun _ _ _ h => h) (Or.inl ⟨by rfl, ?hy37⟩) (fun _ => hHeld) ?_
      case hy37 => (intro w hSw; go_simp; try with_reducible rfl)
      try simp only [Act.put, List.setIfInBounds_toArray, List.set_cons_zero, List.set_cons_succ]
      refine wpAnyK_take 2 [3, 14] (v := ?v38) rfl (by kernel_rfl) (fun _ _ _ h => h) (Or.inl ⟨by rfl, ?hy38⟩) hHeld ?_
      case hy38 => (intro w hSw; (try dsimp only at hSw); go_simp; try with_reducible rfl)
      try simp only [Act.put, List.setIfInBounds_toArray, List.set_cons_zero, List.set_cons_succ]
      refine wpAnyK_take0 3 (v := ?v39) rfl (by kernel_rfl) (fun _ _ _ h => h) (Or.inl ⟨by rfl, ?hy39⟩) (fun _ => hHeld) ?_
      case hy39 => (intro w hSw; go_simp; try with_reducible rfl)
      try simp only [Act.put, List.setIfInBounds_toArray, List.set_cons_zero, List.set_cons_succ]
      refine wpAnyK_take0 4 (v := ?v40) rfl (by kernel_rfl) (fun _ _ _ h => h) (Or.inl ⟨by rfl, ?hy40⟩) (fun _ => hHeld) ?_
      case hy40 => (intro w hSw; go_simp; try with_reducible rfl)
      try simp only [Act.put, List.setIfInBounds_toArray, List.set_cons_zero, List.set_cons_succ]
      refine wpAnyK_take0 5 (v := ?v41) rfl (by kernel_rfl) (fun _ _ _ h => h) (Or.inl ⟨by rfl, ?hy41⟩) (fun _ => hHeld) ?_
      case hy41 => (intro w hSw; go_simp; try with_reducible rfl)
      try simp only [Act.put, List.setIfInBounds_toArray, List.set_cons_zero, List.set_cons_succ]
      refine wpAnyK_take0 6 (v := ?v42) rfl (by kernel_rfl) (fun _ _ _ h => h) (Or.inl ⟨by rfl, ?hy42⟩) (fun _ => hHeld) ?_
      case hy42 => (intro w hSw; go_simp; (try rw [hneg]); try with_reducible rfl)
      try simp only [Act.put, List.setIfInBounds_toArray, List.set_cons_zero, List.set_cons_succ]
      refine wpAnyK_take0 8 (v := ?v43) rfl (by kernel_rfl) (fun _ _ _ h => h) (Or.inl ⟨by rfl, ?hy43⟩) (fun _ => hHeld) ?_
      case hy43 => (intro w hSw; go_simp; try with_reducible rfl)
      try simp only [Act.put, List.setIfInBounds_toArray, List.set_cons_zero, List.set_cons_succ]
      refine wpAnyK_take0 9 (v := ?v44) rfl (by kernel_rfl) (fun _ _ _ h => h) (Or.inl ⟨by rfl, ?hy44⟩) (fun _ => hHeld) ?_
      case hy44 => (intro w hSw; go_simp; try with_reducible rfl)
      try simp only [Act.put, List.setIfInBounds_toArray, List.set_cons_zero, List.set_cons_succ]
      refine wpAnyK_take 10 [11, 12, 13, 14] (v := ?v45) rfl (by kernel_rfl) (fun _ _ _ h => h) (Or.inl ⟨by rfl, ?hy45⟩) hHeld ?_
      case hy45 => (intro w hSw; (try dsimp only at hSw); go_simp; try with_reducible rfl)
      try simp only [Act.put, List.setIfInBounds_toArray, List.set_cons_zero, List.set_cons_succ]
      refine wpAnyK_step 7 rfl (by kernel_rfl) (fun K46 hK => ?_)
      go_simp
      refine (lfar_any now (-l) _ HNW.out (by omega) (by omega)).mono ?_
      rintro r w5 ⟨rfl, hB5⟩
      have HB5 : Hid (Below W.heap.size W w5) := (below_drewN HY.out 1).trans (hB5.mono HY.out.size)
      clear hB5
      unfold farV
      dsimp only
      refine hK.out _ _ ?hk46 ?_
      case hk46 => exact fun _ => HSS.out _ HB5.out
      clear hHeld hK K46
      have hHeld : ((fun (w' : World) => w'.cell? ⟨w.heap.size, 9, none⟩ = some (.bool true) ∧ w'.cell? ⟨w.heap.size, 10, none⟩ = some (.int .i64 ea) ∧ w'.cell? ⟨w.heap.size, 11, none⟩ = some (.bool nh) ∧ w'.cell? ⟨w.heap.size, 12, none⟩ = some (.int .i64 na) ∧ w'.cell? ⟨w.heap.size, 13, none⟩ = some (.bool ih) ∧ w'.cell? ⟨w.heap.size, 14, none⟩ = some (.int .i64 ia))) _ := HSS.out _ HB5.out
      try simp only [Act.put, List.setIfInBounds_toArray, List.set_cons_zero, List.set_cons_succ]
      refine wpAnyK_step 11 rfl (by kernel_rfl) (fun K47 hK => ?_)
      go_simp
      refine (lfar0_any ea _ HE.out).mono ?_
      rintro r w6 ⟨rfl, hB6⟩
      have HB6 : Hid (Below W.heap.size W w6) := HB5.out.trans (hB6.mono HB5.out.size)
      clear hB6
      unfold farV
      dsimp only
      refine hK.out _ _ ?hk47 ?_
      case hk47 => exact fun _ => HSS.out _ HB6.out
      clear hHeld hK K47
      have hHeld : ((fun (w' : World) => w'.cell? ⟨w.heap.size, 9, none⟩ = some (.bool true) ∧ w'.cell? ⟨w.heap.size, 10, none⟩ = some (.int .i64 ea) ∧ w'.cell? ⟨w.heap.size, 11, none⟩ = some (.bool nh) ∧ w'.cell? ⟨w.heap.size, 12, none⟩ = some (.int .i64 na) ∧ w'.cell? ⟨w.heap.size, 13, none⟩ = some (.bool ih) ∧ w'.cell? ⟨w.heap.size, 14, none⟩ = some (.int .i64 ia))) _ := HSS.out _ HB6.out
      try simp only [Act.put, List.setIfInBounds_toArray, List.set_cons_zero, List.set_cons_succ]
      refine wpAnyK_step 12 rfl (by kernel_rfl) (fun K48 hK => ?_)
      go_simp
      refine (lless_any (now + (-l)) ea _).mono ?_
      rintro r w7 ⟨rfl, hB7⟩
      have HB7 : Hid (Below W.heap.size W w7) := HB6.out.trans (hB7.mono HB6.out.size)
      clear hB7
      dsimp only
      refine hK.out _ _ ?hk48 ?_
      case hk48 => exact fun _ => HSS.out _ HB7.out
      clear hHeld hK K48
      have hHeld : ((fun (w' : World) => w'.cell? ⟨w.heap.size, 9, none⟩ = some (.bool true) ∧ w'.cell? ⟨w.heap.size, 10, none⟩ = some (.int .i64 ea) ∧ w'.cell? ⟨w.heap.size, 11, none⟩ = some (.bool nh) ∧ w'.cell? ⟨w.heap.size, 12, none⟩ = some (.int .i64 na) ∧ w'.cell? ⟨w.heap.size, 13, none⟩ = some (.bool ih) ∧ w'.cell? ⟨w.heap.size, 14, none⟩ = some (.int .i64 ia))) _ := HSS.out _ HB7.out
      try simp only [Act.put, List.setIfInBounds_toArray, List.set_cons_zero, List.set_cons_succ]
      refine wpAnyK_take0 13 (v := ?v49) rfl (by kernel_rfl) (fun _ _ _ h => h) (Or.inl ⟨by rfl, ?hy49⟩) (fun _ => hHeld) ?_
      case hy49 => (intro w hSw; go_simp; try with_reducible rfl)
      try simp only [Act.put, List.setIfInBounds_toArray, List.set_cons_zero, List.set_cons_succ]
      refine wpAnyK_step 14 rfl (by kernel_rfl) (fun K50 hK => ?_)
      go_simp
      refine hK.out _ _ (fun h => nomatch (h.symm.trans (show _ = true by kernel_rfl))) ?_
      clear hK K50
      try simp only [Act.put, List.setIfInBounds_toArray, List.set_cons_zero, List.set_cons_succ]
      refine wpAnyK_done (by kernel_rfl) ?_ _
      clear hHeld
      go_wp2
      go_meet
      exact ⟨by simp, HB7.out⟩
  case rest =>
  obtain ⟨rfl, HYn⟩ := hcut
  clear HY
  have HY := HYn
  clear HYn
  have HV : Hid (Below w.heap.size w wc) := HBW.out.trans (HY.out.mono HBW.out.size)
  obtain ⟨b1, hb1⟩ : ∃ b, (eh && !decide (now + -l < ea)) = b := ⟨_, rfl⟩
  have Hb1 : Hid ((eh && !decide (now + -l < ea)) = b1) := hb1
  rw [hb1]
  clear hb1
  rcases Bool.eq_false_or_eq_true b1 with rfl | rfl
  · go_wp2
    go_ret
    refine ⟨?_, HV.out⟩
    rw [show clockF ⟨eh, ea⟩ ⟨nh, na⟩ ⟨ih, ia⟩ l now = 134 from HF1.out Hb1.out]; rfl
  have HF3 : Hid ((nh && decide (now + l < na)) = true → clockF ⟨eh, ea⟩ ⟨nh, na⟩ ⟨ih, ia⟩ l now = 135) := fun h => lc2 HL.out Hb1.out h
  go_upto_region 3 with fail
  go_cut [34] from 22 to 34 (fun s wx => s = .bool (nh && decide (now + l < na)) ∧ Hid (Below W.heap.size W wx))
  case first =>
    cases nh
    · skip
      refine wp_region_K 12 (fun (w' : World) => w'.cell? ⟨w.heap.size, 9, none⟩ = some (.bool eh) ∧ w'.cell? ⟨w.heap.size, 10, none⟩ = some (.int .i64 ea) ∧ w'.cell? ⟨w.heap.size, 11, none⟩ = some (.bool false) ∧ w'.cell? ⟨w.heap.size, 12, none⟩ = some (.int .i64 na) ∧ w'.cell? ⟨w.heap.size, 13, none⟩ = some (.bool ih) ∧ w'.cell? ⟨w.heap.size, 14, none⟩ = some (.int .i64 ia)) (by kernel_rfl) ?_
      have hHeld : ((fun (w' : World) => w'.cell? ⟨w.heap.size, 9, none⟩ = some (.bool eh) ∧ w'.cell? ⟨w.heap.size, 10, none⟩ = some (.int .i64 ea) ∧ w'.cell? ⟨w.heap.size, 11, none⟩ = some (.bool false) ∧ w'.cell? ⟨w.heap.size, 12, none⟩ = some (.int .i64 na) ∧ w'.cell? ⟨w.heap.size, 13, none⟩ = some (.bool ih) ∧ w'.cell? ⟨w.heap.size, 14, none⟩ = some (.int .i64 ia))) (World.drew _) := HSS.out _ (below_drewN HY.out 1)
      refine wpAnyK_take0 0 (v := ?v51) rfl (by kernel_rfl) (fun _ _ _ h => h) (Or.inl ⟨by rfl, ?hy51⟩) (fun _ => hHeld) ?_
      case hy51 => (intro w hSw; go_simp; try with_reducible rfl)
      try simp only [Act.put, List.setIfInBounds_toArray, List.set_cons_zero, List.set_cons_succ]
      refine wpAnyK_take0 1 (v := ?v52) rfl (by kernel_rfl) (fun _ _ _ h => h) (Or.inl ⟨by rfl, ?hy52⟩) (fun _ => hHeld) ?_
      case hy52 => (intro w hSw; go_simp; try with_reducible rfl)
      try simp only [Act.put, List.setIfInBounds_toArray, List.set_cons_zero, List.set_cons_succ]
      refine wpAnyK_take 2 [3, 12] (v := ?v53) rfl (by kernel_rfl) (fun _ _ _ h => h) (Or.inl ⟨by rfl, ?hy53⟩) hHeld ?_
      case hy53 => (intro w hSw; (try dsimp only at hSw); go_simp; try with_reducible rfl)
      try simp only [Act.put, List.setIfInBounds_toArray, List.set_cons_zero, List.set_cons_succ]
      refine wpAnyK_take0 3 (v := ?v54) rfl (by kernel_rfl) (fun _ _ _ h => h) (Or.inl ⟨by rfl, ?hy54⟩) (fun _ => hHeld) ?_
      case hy54 => (intro w hSw; go_simp; try with_reducible rfl)
      try simp only [Act.put, List.setIfInBounds_toArray, List.set_cons_zero, List.set_cons_succ]
      refine wpAnyK_take0 4 (v := undef) rfl (by kernel_rfl) (fun _ _ _ h => h) (Or.inr ⟨by rfl, rfl⟩) (fun _ => hHeld) ?_
      try simp only [Act.put, List.setIfInBounds_toArray, List.set_cons_zero, List.set_cons_succ]
      refine wpAnyK_take0 5 (v := undef) rfl (by kernel_rfl) (fun _ _ _ h => h) (Or.inr ⟨by rfl, rfl⟩) (fun _ => hHeld) ?_
      try simp only [Act.put, List.setIfInBounds_toArray, List.set_cons_zero, List.set_cons_succ]
      refine wpAnyK_take0 7 (v := undef) rfl (by kernel_rfl) (fun _ _ _ h => h) (Or.inr ⟨by rfl, rfl⟩) (fun _ => hHeld) ?_
      try simp only [Act.put, List.setIfInBounds_toArray, List.set_cons_zero, List.set_cons_succ]
      refine wpAnyK_take0 8 (v := undef) rfl (by kernel_rfl) (fun _ _ _ h => h) (Or.inr ⟨by rfl, rfl⟩) (fun _ => hHeld) ?_
      try simp only [Act.put, List.setIfInBounds_toArray, List.set_cons_zero, List.set_cons_succ]
      refine wpAnyK_take0 9 (v := undef) rfl (by kernel_rfl) (fun _ _ _ h => h) (Or.inr ⟨by rfl, rfl⟩) (fun _ => hHeld) ?_
      try simp only [Act.put, List.setIfInBounds_toArray, List.set_cons_zero, List.set_cons_succ]
      refine wpAnyK_step 6 rfl (by kernel_rfl) (fun K60 hK => ?_)
      go_simp
      refine hK.out _ _ (fun _ => hHeld) ?_
      clear hK K60
      try simp only [Act.put, List.setIfInBounds_toArray, List.set_cons_zero, List.set_cons_succ]
      refine wpAnyK_step 10 rfl (by kernel_rfl) (fun K61 hK => ?_)
      go_simp
      refine hK.out _ _ (fun _ => hHeld) ?_
      clear hK K61
      try simp only [Act.put, List.setIfInBounds_toArray, List.set_cons_zero, List.set_cons_succ]
      refine wpAnyK_step 11 rfl (by kernel_rfl) (fun K62 hK => ?_)
      go_simp
      refine hK.out _ _ (fun _ => hHeld) ?_
      clear hK K62
      try simp only [Act.put, List.setIfInBounds_toArray, List.set_cons_zero, List.set_cons_succ]
      refine wpAnyK_step 12 rfl (by kernel_rfl) (fun K63 hK => ?_)
      go_simp
      refine hK.out _ _ (fun h => nomatch (h.symm.trans (show _ = true by kernel_rfl))) ?_
      clear hK K63
      try simp only [Act.put, List.setIfInBounds_toArray, List.set_cons_zero, List.set_cons_succ]
      refine wpAnyK_done (by kernel_rfl) ?_ _
      clear hHeld
      go_wp2
      go_meet
      exact ⟨rfl, below_drewN HY.out 1⟩
    · skip
      refine wp_region_K 12 (fun (w' : World) => w'.cell? ⟨w.heap.size, 9, none⟩ = some (.bool eh) ∧ w'.cell? ⟨w.heap.size, 10, none⟩ = some (.int .i64 ea) ∧ w'.cell? ⟨w.heap.size, 11, none⟩ = some (.bool true) ∧ w'.cell? ⟨w.heap.size, 12, none⟩ = some (.int .i64 na) ∧ w'.cell? ⟨w.heap.size, 13, none⟩ = some (.bool ih) ∧ w'.cell? ⟨w.heap.size, 14, none⟩ = some (.int .i64 ia)) (by kernel_rfl) ?_
      have hHeld : ((fun (w' : World) => w'.cell? ⟨w.heap.size, 9, none⟩ = some (.bool eh) ∧ w'.cell? ⟨w.heap.size, 10, none⟩ = some (.int .i64 ea) ∧ w'.cell? ⟨w.heap.size, 11, none⟩ = some (.bool true) ∧ w'.cell? ⟨w.heap.size, 12, none⟩ = some (.int .i64 na) ∧ w'.cell? ⟨w.heap.size, 13, none⟩ = some (.bool ih) ∧ w'.cell? ⟨w.heap.size, 14, none⟩ = some (.int .i64 ia))) (World.drew _) := HSS.out _ (below_drewN HY.out 1)
      refine wpAnyK_take0 0 (v := ?v64) rfl (by kernel_rfl) (fun _ _ _ h => h) (Or.inl ⟨by rfl, ?hy64⟩) (fun _ => hHeld) ?_
      case hy64 => (intro w hSw; go_simp; try with_reducible rfl)
      try simp only [Act.put, List.setIfInBounds_toArray, List.set_cons_zero, List.set_cons_succ]
      refine wpAnyK_take0 1 (v := ?v65) rfl (by kernel_rfl) (fun _ _ _ h => h) (Or.inl ⟨by rfl, ?hy65⟩) (fun _ => hHeld) ?_
      case hy65 => (intro w hSw; go_simp; try with_reducible rfl)
      try simp only [Act.put, List.setIfInBounds_toArray, List.set_cons_zero, List.set_cons_succ]
      refine wpAnyK_take 2 [3, 12] (v := ?v66) rfl (by kernel_rfl) (fun _ _ _ h => h) (Or.inl ⟨by rfl, ?hy66⟩) hHeld ?_
      case hy66 => (intro w hSw; (try dsimp only at hSw); go_simp; try with_reducible rfl)
      try simp only [Act.put, List.setIfInBounds_toArray, List.set_cons_zero, List.set_cons_succ]
      refine wpAnyK_take0 3 (v := ?v67) rfl (by kernel_rfl) (fun _ _ _ h => h) (Or.inl ⟨by rfl, ?hy67⟩) (fun _ => hHeld) ?_
      case hy67 => (intro w hSw; go_simp; try with_reducible rfl)
      try simp only [Act.put, List.setIfInBounds_toArray, List.set_cons_zero, List.set_cons_succ]
      refine wpAnyK_take0 4 (v := ?v68) rfl (by kernel_rfl) (fun _ _ _ h => h) (Or.inl ⟨by rfl, ?hy68⟩) (fun _ => hHeld) ?_
      case hy68 => (intro w hSw; go_simp; try with_reducible rfl)
      try simp only [Act.put, List.setIfInBounds_toArray, List.set_cons_zero, List.set_cons_succ]
      refine wpAnyK_take0 5 (v := ?v69) rfl (by kernel_rfl) (fun _ _ _ h => h) (Or.inl ⟨by rfl, ?hy69⟩) (fun _ => hHeld) ?_
      case hy69 => (intro w hSw; go_simp; try with_reducible rfl)
      try simp only [Act.put, List.setIfInBounds_toArray, List.set_cons_zero, List.set_cons_succ]
      refine wpAnyK_take0 7 (v := ?v70) rfl (by kernel_rfl) (fun _ _ _ h => h) (Or.inl ⟨by rfl, ?hy70⟩) (fun _ => hHeld) ?_
      case hy70 => (intro w hSw; go_simp; try with_reducible rfl)
      try simp only [Act.put, List.setIfInBounds_toArray, List.set_cons_zero, List.set_cons_succ]
      refine wpAnyK_take0 8 (v := ?v71) rfl (by kernel_rfl) (fun _ _ _ h => h) (Or.inl ⟨by rfl, ?hy71⟩) (fun _ => hHeld) ?_
      case hy71 => (intro w hSw; go_simp; try with_reducible rfl)
      try simp only [Act.put, List.setIfInBounds_toArray, List.set_cons_zero, List.set_cons_succ]
      refine wpAnyK_take 9 [10, 11, 12] (v := ?v72) rfl (by kernel_rfl) (fun _ _ _ h => h) (Or.inl ⟨by rfl, ?hy72⟩) hHeld ?_
      case hy72 => (intro w hSw; (try dsimp only at hSw); go_simp; try with_reducible rfl)
      try simp only [Act.put, List.setIfInBounds_toArray, List.set_cons_zero, List.set_cons_succ]
      refine wpAnyK_step 6 rfl (by kernel_rfl) (fun K73 hK => ?_)
      go_simp
      refine (lfar_any now (l) _ HNW.out (by omega) (by omega)).mono ?_
      rintro r w5 ⟨rfl, hB5⟩
      have HB5 : Hid (Below W.heap.size W w5) := (below_drewN HY.out 1).trans (hB5.mono HY.out.size)
      clear hB5
      unfold farV
      dsimp only
      refine hK.out _ _ ?hk73 ?_
      case hk73 => exact fun _ => HSS.out _ HB5.out
      clear hHeld hK K73
      have hHeld : ((fun (w' : World) => w'.cell? ⟨w.heap.size, 9, none⟩ = some (.bool eh) ∧ w'.cell? ⟨w.heap.size, 10, none⟩ = some (.int .i64 ea) ∧ w'.cell? ⟨w.heap.size, 11, none⟩ = some (.bool true) ∧ w'.cell? ⟨w.heap.size, 12, none⟩ = some (.int .i64 na) ∧ w'.cell? ⟨w.heap.size, 13, none⟩ = some (.bool ih) ∧ w'.cell? ⟨w.heap.size, 14, none⟩ = some (.int .i64 ia))) _ := HSS.out _ HB5.out
      try simp only [Act.put, List.setIfInBounds_toArray, List.set_cons_zero, List.set_cons_succ]
      refine wpAnyK_step 10 rfl (by kernel_rfl) (fun K74 hK => ?_)
      go_simp
      refine (lfar0_any na _ HN.out).mono ?_
      rintro r w6 ⟨rfl, hB6⟩
      have HB6 : Hid (Below W.heap.size W w6) := HB5.out.trans (hB6.mono HB5.out.size)
      clear hB6
      unfold farV
      dsimp only
      refine hK.out _ _ ?hk74 ?_
      case hk74 => exact fun _ => HSS.out _ HB6.out
      clear hHeld hK K74
      have hHeld : ((fun (w' : World) => w'.cell? ⟨w.heap.size, 9, none⟩ = some (.bool eh) ∧ w'.cell? ⟨w.heap.size, 10, none⟩ = some (.int .i64 ea) ∧ w'.cell? ⟨w.heap.size, 11, none⟩ = some (.bool true) ∧ w'.cell? ⟨w.heap.size, 12, none⟩ = some (.int .i64 na) ∧ w'.cell? ⟨w.heap.size, 13, none⟩ = some (.bool ih) ∧ w'.cell? ⟨w.heap.size, 14, none⟩ = some (.int .i64 ia))) _ := HSS.out _ HB6.out
      try simp only [Act.put, List.setIfInBounds_toArray, List.set_cons_zero, List.set_cons_succ]
      refine wpAnyK_step 11 rfl (by kernel_rfl) (fun K75 hK => ?_)
      go_simp
      refine (lless_any (now + (l)) na _).mono ?_
      rintro r w7 ⟨rfl, hB7⟩
      have HB7 : Hid (Below W.heap.size W w7) := HB6.out.trans (hB7.mono HB6.out.size)
      clear hB7
      dsimp only
      refine hK.out _ _ ?hk75 ?_
      case hk75 => exact fun _ => HSS.out _ HB7.out
      clear hHeld hK K75
      have hHeld : ((fun (w' : World) => w'.cell? ⟨w.heap.size, 9, none⟩ = some (.bool eh) ∧ w'.cell? ⟨w.heap.size, 10, none⟩ = some (.int .i64 ea) ∧ w'.cell? ⟨w.heap.size, 11, none⟩ = some (.bool true) ∧ w'.cell? ⟨w.heap.size, 12, none⟩ = some (.int .i64 na) ∧ w'.cell? ⟨w.heap.size, 13, none⟩ = some (.bool ih) ∧ w'.cell? ⟨w.heap.size, 14, none⟩ = some (.int .i64 ia))) _ := HSS.out _ HB7.out
      try simp only [Act.put, List.setIfInBounds_toArray, List.set_cons_zero, List.set_cons_succ]
      refine wpAnyK_step 12 rfl (by kernel_rfl) (fun K76 hK => ?_)
      go_simp
      refine hK.out _ _ (fun h => nomatch (h.symm.trans (show _ = true by kernel_rfl))) ?_
      clear hK K76
      try simp only [Act.put, List.setIfInBounds_toArray, List.set_cons_zero, List.set_cons_succ]
      refine wpAnyK_done (by kernel_rfl) ?_ _
      clear hHeld
      go_wp2
      go_meet
      exact ⟨by simp, HB7.out⟩
  case rest =>
  obtain ⟨rfl, HYn⟩ := hcut
  clear HY
  have HY := HYn
  clear HYn
  have HV : Hid (Below w.heap.size w wc) := HBW.out.trans (HY.out.mono HBW.out.size)
  obtain ⟨b3, hb3⟩ : ∃ b, (nh && decide (now + l < na)) = b := ⟨_, rfl⟩
  have Hb3 : Hid ((nh && decide (now + l < na)) = b3) := hb3
  rw [hb3]
  clear hb3
  rcases Bool.eq_false_or_eq_true b3 with rfl | rfl
  · go_wp2
    go_ret
    refine ⟨?_, HV.out⟩
    rw [show clockF ⟨eh, ea⟩ ⟨nh, na⟩ ⟨ih, ia⟩ l now = 135 from HF3.out Hb3.out]; rfl
  have HFx := lc3 (ih := ih) (ia := ia) HL.out Hb1.out Hb3.out
  have HF5 : Hid ((ih && decide (now + l < ia)) = true → clockF ⟨eh, ea⟩ ⟨nh, na⟩ ⟨ih, ia⟩ l now = 136) := fun h => by rw [HFx]; exact if_pos h
  have HF0 : Hid ((ih && decide (now + l < ia)) = false → clockF ⟨eh, ea⟩ ⟨nh, na⟩ ⟨ih, ia⟩ l now = 0) := fun h => by rw [HFx, h]; rfl
  clear HFx
  go_upto_region 5 with fail
  go_cut [47] from 35 to 47 (fun s wx => s = .bool (ih && decide (now + l < ia)) ∧ Hid (Below W.heap.size W wx))
  case first =>
    cases ih
    · skip
      refine wp_region_K 12 (fun (w' : World) => w'.cell? ⟨w.heap.size, 9, none⟩ = some (.bool eh) ∧ w'.cell? ⟨w.heap.size, 10, none⟩ = some (.int .i64 ea) ∧ w'.cell? ⟨w.heap.size, 11, none⟩ = some (.bool nh) ∧ w'.cell? ⟨w.heap.size, 12, none⟩ = some (.int .i64 na) ∧ w'.cell? ⟨w.heap.size, 13, none⟩ = some (.bool false) ∧ w'.cell? ⟨w.heap.size, 14, none⟩ = some (.int .i64 ia)) (by kernel_rfl) ?_
      have hHeld : ((fun (w' : World) => w'.cell? ⟨w.heap.size, 9, none⟩ = some (.bool eh) ∧ w'.cell? ⟨w.heap.size, 10, none⟩ = some (.int .i64 ea) ∧ w'.cell? ⟨w.heap.size, 11, none⟩ = some (.bool nh) ∧ w'.cell? ⟨w.heap.size, 12, none⟩ = some (.int .i64 na) ∧ w'.cell? ⟨w.heap.size, 13, none⟩ = some (.bool false) ∧ w'.cell? ⟨w.heap.size, 14, none⟩ = some (.int .i64 ia))) (World.drew _) := HSS.out _ (below_drewN HY.out 1)
      refine wpAnyK_take0 0 (v := ?v77) rfl (by kernel_rfl) (fun _ _ _ h => h) (Or.inl ⟨by rfl, ?hy77⟩) (fun _ => hHeld) ?_
      case hy77 => (intro w hSw; go_simp; try with_reducible rfl)
      try simp only [Act.put, List.setIfInBounds_toArray, List.set_cons_zero, List.set_cons_succ]
      refine wpAnyK_take0 1 (v := ?v78) rfl (by kernel_rfl) (fun _ _ _ h => h) (Or.inl ⟨by rfl, ?hy78⟩) (fun _ => hHeld) ?_
      case hy78 => (intro w hSw; go_simp; try with_reducible rfl)
      try simp only [Act.put, List.setIfInBounds_toArray, List.set_cons_zero, List.set_cons_succ]
      refine wpAnyK_take 2 [3, 12] (v := ?v79) rfl (by kernel_rfl) (fun _ _ _ h => h) (Or.inl ⟨by rfl, ?hy79⟩) hHeld ?_
      case hy79 => (intro w hSw; (try dsimp only at hSw); go_simp; try with_reducible rfl)
      try simp only [Act.put, List.setIfInBounds_toArray, List.set_cons_zero, List.set_cons_succ]
      refine wpAnyK_take0 3 (v := ?v80) rfl (by kernel_rfl) (fun _ _ _ h => h) (Or.inl ⟨by rfl, ?hy80⟩) (fun _ => hHeld) ?_
      case hy80 => (intro w hSw; go_simp; try with_reducible rfl)
      try simp only [Act.put, List.setIfInBounds_toArray, List.set_cons_zero, List.set_cons_succ]
      refine wpAnyK_take0 4 (v := undef) rfl (by kernel_rfl) (fun _ _ _ h => h) (Or.inr ⟨by rfl, rfl⟩) (fun _ => hHeld) ?_
      try simp only [Act.put, List.setIfInBounds_toArray, List.set_cons_zero, List.set_cons_succ]
      refine wpAnyK_take0 5 (v := undef) rfl (by kernel_rfl) (fun _ _ _ h => h) (Or.inr ⟨by rfl, rfl⟩) (fun _ => hHeld) ?_
      try simp only [Act.put, List.setIfInBounds_toArray, List.set_cons_zero, List.set_cons_succ]
      refine wpAnyK_take0 7 (v := undef) rfl (by kernel_rfl) (fun _ _ _ h => h) (Or.inr ⟨by rfl, rfl⟩) (fun _ => hHeld) ?_
      try simp only [Act.put, List.setIfInBounds_toArray, List.set_cons_zero, List.set_cons_succ]
      refine wpAnyK_take0 8 (v := undef) rfl (by kernel_rfl) (fun _ _ _ h => h) (Or.inr ⟨by rfl, rfl⟩) (fun _ => hHeld) ?_
      try simp only [Act.put, List.setIfInBounds_toArray, List.set_cons_zero, List.set_cons_succ]
      refine wpAnyK_take0 9 (v := undef) rfl (by kernel_rfl) (fun _ _ _ h => h) (Or.inr ⟨by rfl, rfl⟩) (fun _ => hHeld) ?_
      try simp only [Act.put, List.setIfInBounds_toArray, List.set_cons_zero, List.set_cons_succ]
      refine wpAnyK_step 6 rfl (by kernel_rfl) (fun K86 hK => ?_)
      go_simp
      refine hK.out _ _ (fun _ => hHeld) ?_
      clear hK K86
      try simp only [Act.put, List.setIfInBounds_toArray, List.set_cons_zero, List.set_cons_succ]
      refine wpAnyK_step 10 rfl (by kernel_rfl) (fun K87 hK => ?_)
      go_simp
      refine hK.out _ _ (fun _ => hHeld) ?_
      clear hK K87
      try simp only [Act.put, List.setIfInBounds_toArray, List.set_cons_zero, List.set_cons_succ]
      refine wpAnyK_step 11 rfl (by kernel_rfl) (fun K88 hK => ?_)
      go_simp
      refine hK.out _ _ (fun _ => hHeld) ?_
      clear hK K88
      try simp only [Act.put, List.setIfInBounds_toArray, List.set_cons_zero, List.set_cons_succ]
      refine wpAnyK_step 12 rfl (by kernel_rfl) (fun K89 hK => ?_)
      go_simp
      refine hK.out _ _ (fun h => nomatch (h.symm.trans (show _ = true by kernel_rfl))) ?_
      clear hK K89
      try simp only [Act.put, List.setIfInBounds_toArray, List.set_cons_zero, List.set_cons_succ]
      refine wpAnyK_done (by kernel_rfl) ?_ _
      clear hHeld
      go_wp2
      go_meet
      exact ⟨rfl, below_drewN HY.out 1⟩
    · skip
      refine wp_region_K 12 (fun (w' : World) => w'.cell? ⟨w.heap.size, 9, none⟩ = some (.bool eh) ∧ w'.cell? ⟨w.heap.size, 10, none⟩ = some (.int .i64 ea) ∧ w'.cell? ⟨w.heap.size, 11, none⟩ = some (.bool nh) ∧ w'.cell? ⟨w.heap.size, 12, none⟩ = some (.int .i64 na) ∧ w'.cell? ⟨w.heap.size, 13, none⟩ = some (.bool true) ∧ w'.cell? ⟨w.heap.size, 14, none⟩ = some (.int .i64 ia)) (by kernel_rfl) ?_
      have hHeld : ((fun (w' : World) => w'.cell? ⟨w.heap.size, 9, none⟩ = some (.bool eh) ∧ w'.cell? ⟨w.heap.size, 10, none⟩ = some (.int .i64 ea) ∧ w'.cell? ⟨w.heap.size, 11, none⟩ = some (.bool nh) ∧ w'.cell? ⟨w.heap.size, 12, none⟩ = some (.int .i64 na) ∧ w'.cell? ⟨w.heap.size, 13, none⟩ = some (.bool true) ∧ w'.cell? ⟨w.heap.size, 14, none⟩ = some (.int .i64 ia))) (World.drew _) := HSS.out _ (below_drewN HY.out 1)
      refine wpAnyK_take0 0 (v := ?v90) rfl (by kernel_rfl) (fun _ _ _ h => h) (Or.inl ⟨by rfl, ?hy90⟩) (fun _ => hHeld) ?_
      case hy90 => (intro w hSw; go_simp; try with_reducible rfl)
      try simp only [Act.put, List.setIfInBounds_toArray, List.set_cons_zero, List.set_cons_succ]
      refine wpAnyK_take0 1 (v := ?v91) rfl (by kernel_rfl) (fun _ _ _ h => h) (Or.inl ⟨by rfl, ?hy91⟩) (fun _ => hHeld) ?_
      case hy91 => (intro w hSw; go_simp; try with_reducible rfl)
      try simp only [Act.put, List.setIfInBounds_toArray, List.set_cons_zero, List.set_cons_succ]
      refine wpAnyK_take 2 [3, 12] (v := ?v92) rfl (by kernel_rfl) (fun _ _ _ h => h) (Or.inl ⟨by rfl, ?hy92⟩) hHeld ?_
      case hy92 => (intro w hSw; (try dsimp only at hSw); go_simp; try with_reducible rfl)
      try simp only [Act.put, List.setIfInBounds_toArray, List.set_cons_zero, List.set_cons_succ]
      refine wpAnyK_take0 3 (v := ?v93) rfl (by kernel_rfl) (fun _ _ _ h => h) (Or.inl ⟨by rfl, ?hy93⟩) (fun _ => hHeld) ?_
      case hy93 => (intro w hSw; go_simp; try with_reducible rfl)
      try simp only [Act.put, List.setIfInBounds_toArray, List.set_cons_zero, List.set_cons_succ]
      refine wpAnyK_take0 4 (v := ?v94) rfl (by kernel_rfl) (fun _ _ _ h => h) (Or.inl ⟨by rfl, ?hy94⟩) (fun _ => hHeld) ?_
      case hy94 => (intro w hSw; go_simp; try with_reducible rfl)
      try simp only [Act.put, List.setIfInBounds_toArray, List.set_cons_zero, List.set_cons_succ]
      refine wpAnyK_take0 5 (v := ?v95) rfl (by kernel_rfl) (fun _ _ _ h => h) (Or.inl ⟨by rfl, ?hy95⟩) (fun _ => hHeld) ?_
      case hy95 => (intro w hSw; go_simp; try with_reducible rfl)
      try simp only [Act.put, List.setIfInBounds_toArray, List.set_cons_zero, List.set_cons_succ]
      refine wpAnyK_take0 7 (v := ?v96) rfl (by kernel_rfl) (fun _ _ _ h => h) (Or.inl ⟨by rfl, ?hy96⟩) (fun _ => hHeld) ?_
      case hy96 => (intro w hSw; go_simp; try with_reducible rfl)
      try simp only [Act.put, List.setIfInBounds_toArray, List.set_cons_zero, List.set_cons_succ]
      refine wpAnyK_take0 8 (v := ?v97) rfl (by kernel_rfl) (fun _ _ _ h => h) (Or.inl ⟨by rfl, ?hy97⟩) (fun _ => hHeld) ?_
      case hy97 => (intro w hSw; go_simp; try with_reducible rfl)
      try simp only [Act.put, List.setIfInBounds_toArray, List.set_cons_zero, List.set_cons_succ]
      refine wpAnyK_take 9 [10, 11, 12] (v := ?v98) rfl (by kernel_rfl) (fun _ _ _ h => h) (Or.inl ⟨by rfl, ?hy98⟩) hHeld ?_
      case hy98 => (intro w hSw; (try dsimp only at hSw); go_simp; try with_reducible rfl)
      try simp only [Act.put, List.setIfInBounds_toArray, List.set_cons_zero, List.set_cons_succ]
      refine wpAnyK_step 6 rfl (by kernel_rfl) (fun K99 hK => ?_)
      go_simp
      refine (lfar_any now (l) _ HNW.out (by omega) (by omega)).mono ?_
      rintro r w5 ⟨rfl, hB5⟩
      have HB5 : Hid (Below W.heap.size W w5) := (below_drewN HY.out 1).trans (hB5.mono HY.out.size)
      clear hB5
      unfold farV
      dsimp only
      refine hK.out _ _ ?hk99 ?_
      case hk99 => exact fun _ => HSS.out _ HB5.out
      clear hHeld hK K99
      have hHeld : ((fun (w' : World) => w'.cell? ⟨w.heap.size, 9, none⟩ = some (.bool eh) ∧ w'.cell? ⟨w.heap.size, 10, none⟩ = some (.int .i64 ea) ∧ w'.cell? ⟨w.heap.size, 11, none⟩ = some (.bool nh) ∧ w'.cell? ⟨w.heap.size, 12, none⟩ = some (.int .i64 na) ∧ w'.cell? ⟨w.heap.size, 13, none⟩ = some (.bool true) ∧ w'.cell? ⟨w.heap.size, 14, none⟩ = some (.int .i64 ia))) _ := HSS.out _ HB5.out
      try simp only [Act.put, List.setIfInBounds_toArray, List.set_cons_zero, List.set_cons_succ]
      refine wpAnyK_step 10 rfl (by kernel_rfl) (fun K100 hK => ?_)
      go_simp
      refine (lfar0_any ia _ HI.out).mono ?_
      rintro r w6 ⟨rfl, hB6⟩
      have HB6 : Hid (Below W.heap.size W w6) := HB5.out.trans (hB6.mono HB5.out.size)
      clear hB6
      unfold farV
      dsimp only
      refine hK.out _ _ ?hk100 ?_
      case hk100 => exact fun _ => HSS.out _ HB6.out
      clear hHeld hK K100
      have hHeld : ((fun (w' : World) => w'.cell? ⟨w.heap.size, 9, none⟩ = some (.bool eh) ∧ w'.cell? ⟨w.heap.size, 10, none⟩ = some (.int .i64 ea) ∧ w'.cell? ⟨w.heap.size, 11, none⟩ = some (.bool nh) ∧ w'.cell? ⟨w.heap.size, 12, none⟩ = some (.int .i64 na) ∧ w'.cell? ⟨w.heap.size, 13, none⟩ = some (.bool true) ∧ w'.cell? ⟨w.heap.size, 14, none⟩ = some (.int .i64 ia))) _ := HSS.out _ HB6.out
      try simp only [Act.put, List.setIfInBounds_toArray, List.set_cons_zero, List.set_cons_succ]
      refine wpAnyK_step 11 rfl (by kernel_rfl) (fun K101 hK => ?_)
      go_simp
      refine (lless_any (now + (l)) ia _).mono ?_
      rintro r w7 ⟨rfl, hB7⟩
      have HB7 : Hid (Below W.heap.size W w7) := HB6.out.trans (hB7.mono HB6.out.size)
      clear hB7
      dsimp only
      refine hK.out _ _ ?hk101 ?_
      case hk101 => exact fun _ => HSS.out _ HB7.out
      clear hHeld hK K101
      have hHeld : ((fun (w' : World) => w'.cell? ⟨w.heap.size, 9, none⟩ = some (.bool eh) ∧ w'.cell? ⟨w.heap.size, 10, none⟩ = some (.int .i64 ea) ∧ w'.cell? ⟨w.heap.size, 11, none⟩ = some (.bool nh) ∧ w'.cell? ⟨w.heap.size, 12, none⟩ = some (.int .i64 na) ∧ w'.cell? ⟨w.heap.size, 13, none⟩ = some (.bool true) ∧ w'.cell? ⟨w.heap.size, 14, none⟩ = some (.int .i64 ia))) _ := HSS.out _ HB7.out
      try simp only [Act.put, List.setIfInBounds_toArray, List.set_cons_zero, List.set_cons_succ]
      refine wpAnyK_step 12 rfl (by kernel_rfl) (fun K102 hK => ?_)
      go_simp
      refine hK.out _ _ (fun h => nomatch (h.symm.trans (show _ = true by kernel_rfl))) ?_
      clear hK K102
      try simp only [Act.put, List.setIfInBounds_toArray, List.set_cons_zero, List.set_cons_succ]
      refine wpAnyK_done (by kernel_rfl) ?_ _
      clear hHeld
      go_wp2
      go_meet
      exact ⟨by simp, HB7.out⟩
  case rest =>
  obtain ⟨rfl, HYn⟩ := hcut
  clear HY
  have HY := HYn
  clear HYn
  have HV : Hid (Below w.heap.size w wc) := HBW.out.trans (HY.out.mono HBW.out.size)
  obtain ⟨b5, hb5⟩ : ∃ b, (ih && decide (now + l < ia)) = b := ⟨_, rfl⟩
  have Hb5 : Hid ((ih && decide (now + l < ia)) = b5) := hb5
  rw [hb5]
  clear hb5
  rcases Bool.eq_false_or_eq_true b5 with rfl | rfl
  · go_wp2
    go_ret
    refine ⟨?_, HV.out⟩
    rw [show clockF ⟨eh, ea⟩ ⟨nh, na⟩ ⟨ih, ia⟩ l now = 136 from HF5.out Hb5.out]; rfl
  go_wp2
  go_ret
  refine ⟨?_, HV.out⟩
  rw [show clockF ⟨eh, ea⟩ ⟨nh, na⟩ ⟨ih, ia⟩ l now = 0 from HF0.out Hb5.out]; rfl

end Go.Proofs.YthlfboaidhgnlaaGreatDoor
