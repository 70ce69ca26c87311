import Derived.Test.YtjaopeenkbcjcaaCo
import Derived.Test.YtjaopeenkbcjcaaCZ
import Derived.Deep.CutRange
namespace Go.Proofs.Ytjaopeenkbcjcaa
open Go.RowKit

theorem rc1 {eh nh ih : Bool} {ea na ia l now : Int} (hl : 0 ≤ l ∧ l ≤ 600) (h : (eh && !decide (now < ea + l)) = true) : clockF ⟨eh, ea⟩ ⟨nh, na⟩ ⟨ih, ia⟩ l now = 134 := by
  simp only [Bool.and_eq_true, Bool.not_eq_true', decide_eq_false_iff_not] at h
  unfold clockF
  rw [if_neg (by omega), if_pos ⟨h.1, by show ea + l ≤ now; omega⟩]
theorem rc2 {eh nh ih : Bool} {ea na ia l now : Int} (hl : 0 ≤ l ∧ l ≤ 600) (h0 : (eh && !decide (now < ea + l)) = false) (h : (nh && decide (now < na + -l)) = true) : clockF ⟨eh, ea⟩ ⟨nh, na⟩ ⟨ih, ia⟩ l now = 135 := by
  simp only [Bool.and_eq_true, decide_eq_true_eq] at h
  unfold clockF
  rw [if_neg (by omega), if_neg, if_pos ⟨h.1, by show now < na - l; omega⟩]
  rintro ⟨a, b⟩
  have a : eh = true := a
  have b : ea + l ≤ now := b
  rw [a, decide_eq_false (by omega)] at h0
  cases h0
theorem rc3 {eh nh ih : Bool} {ea na ia l now : Int} (hl : 0 ≤ l ∧ l ≤ 600) (h0 : (eh && !decide (now < ea + l)) = false) (h1 : (nh && decide (now < na + -l)) = false) : clockF ⟨eh, ea⟩ ⟨nh, na⟩ ⟨ih, ia⟩ l now = if (ih && decide (now < ia + -l)) = true then 136 else 0 := by
  unfold clockF
  rw [if_neg (by omega), if_neg, if_neg]
  · congr 1
    simp only [Bool.and_eq_true, decide_eq_true_eq]
    refine propext ⟨fun h => ⟨h.1, ?_⟩, fun h => ⟨h.1, ?_⟩⟩
    · have := h.2; show now < ia + -l; have : now < ia - l := this; omega
    · have := h.2; show now < ia - l; omega
  · rintro ⟨a, b⟩
    have a : nh = true := a
    have b : now < na - l := b
    rw [a, decide_eq_true (by omega)] at h1
    cases h1
  · rintro ⟨a, b⟩
    have a : eh = true := a
    have b : ea + l ≤ now := b
    rw [a, decide_eq_false (by omega)] at h0
    cases h0

set_option maxRecDepth 100000 in
set_option maxHeartbeats 8000000 in
theorem rclock_any (x0 x1 x2 x3 x4 x5 x6 x7 x8 : Value) (e n i : Tm) (l now : Int) (w : World) (he : I64 e.at_) (hn : I64 n.at_) (hi : I64 i.at_) (hw : I64 now) :
    Calls Try.prog 8 #[clW x0 x1 x2 x3 x4 x5 x6 x7 x8 e n i, .int .i64 l, .int .i64 now] w fun r w' => r = .returned (.int .i64 (clockF e n i l now : Nat)) ∧ Below w.heap.size w w' := by
  unfold clW
  obtain ⟨V, hV⟩ : ∃ V : World, w.alloc (.cells (clC9 x0 x1 x2 x3 x4 x5 x6 x7 x8 e n i).toArray 27) = V := ⟨_, rfl⟩
  have hBV : Below w.heap.size w V := by rw [← hV]; exact alloc_below _ _
  have hbl : Bl 27 V w.heap.size (clC9 x0 x1 x2 x3 x4 x5 x6 x7 x8 e n i) := by rw [← hV]; exact alloc_bl _ _ _
  by_cases hl : 0 ≤ l ∧ l ≤ 600
  · obtain ⟨eh, ea⟩ := e
    obtain ⟨nh, na⟩ := n
    obtain ⟨ih, ia⟩ := i
    dsimp only at *
    have h0 : 0 ≤ l := hl.1
    have h6 : l ≤ 600 := hl.2
    have HL : Hid (0 ≤ l ∧ l ≤ 600) := hl
    have hneg : IntKind.i64.wrap (-l) = -l := by rw [IntKind.wrap_i64]; omega
    have q0 : decide (l < 0) = false := decide_eq_false (by omega)
    have q6 : decide (l > 600) = false := decide_eq_false (by omega)
    have HF4 : Hid ((eh && !decide (now < ea + l)) = true → clockF ⟨eh, ea⟩ ⟨nh, na⟩ ⟨ih, ia⟩ l now = 134) := fun h => rc1 hl h
    have HE : Hid (I64 ea) := he
    have HN : Hid (I64 na) := hn
    have HI : Hid (I64 ia) := hi
    have CF := rfar_any now 0 V hw (by omega) (by omega)
    rw [Int.add_zero] at CF
    have HBl : Hid (Bl 27 V w.heap.size (clC9 x0 x1 x2 x3 x4 x5 x6 x7 x8 ⟨eh, ea⟩ ⟨nh, na⟩ ⟨ih, ia⟩)) := hbl
    have HBV : Hid (Below w.heap.size w V) := hBV
    clear he hn hi hw hl hbl hBV
    go_enter Try.func8, Try.ntmps8
    go_wp2_with fail
    rw [show w.alloc (Obj.cells #[x0, x1, x2, x3, x4, x5, x6, x7, x8, .bool eh, .int .i64 ea, .bool nh, .int .i64 na, .bool ih, .int .i64 ia] 27) = V from hV]
    clear hV
    refine CF.mono ?_
    clear CF
    rintro r w1 ⟨rfl, hB1⟩
    obtain ⟨W, hW⟩ : ∃ W : World, w1.alloc (.cells #[.int .i64 (fhi now), .int .i64 (flo now)] 45) = W := ⟨_, rfl⟩
    have hBW : Below w1.heap.size w1 W := by rw [← hW]; exact alloc_below _ _
    have hbn : Bl 45 W w1.heap.size [.int .i64 (fhi now), .int .i64 (flo now)] := by rw [← hW]; exact alloc_bl _ _ _
    have hB2 : Below V.heap.size V W := hB1.trans (hBW.mono hB1.size)
    have hbc := HBl.out.below hB2 HBl.out.lt
    obtain ⟨bn, hbne⟩ : ∃ b, w1.heap.size = b := ⟨_, rfl⟩
    rw [hbne] at hbn
    have HBN : Hid (w1.heap.size = bn) := hbne
    have HSS : Hid (∀ wq, Below W.heap.size W wq → (fun (w' : World) => w'.cell? ⟨w.heap.size, 9, none⟩ = some (.bool eh) ∧ w'.cell? ⟨w.heap.size, 10, none⟩ = some (.int .i64 ea) ∧ w'.cell? ⟨w.heap.size, 11, none⟩ = some (.bool nh) ∧ w'.cell? ⟨w.heap.size, 12, none⟩ = some (.int .i64 na) ∧ w'.cell? ⟨w.heap.size, 13, none⟩ = some (.bool ih) ∧ w'.cell? ⟨w.heap.size, 14, none⟩ = some (.int .i64 ia) ∧ w'.cell? ⟨bn, 0, none⟩ = some (.int .i64 (fhi now)) ∧ w'.cell? ⟨bn, 1, none⟩ = some (.int .i64 (flo now))) wq) := fun wq hq => by
      have hb := hbc.below hq hbc.lt
      have hn := hbn.below hq hbn.lt
      exact ⟨hb.cell 9 (by simp [clC9]), hb.cell 10 (by simp [clC9]), hb.cell 11 (by simp [clC9]), hb.cell 12 (by simp [clC9]), hb.cell 13 (by simp [clC9]), hb.cell 14 (by simp [clC9]), hn.cell 0 (by simp), hn.cell 1 (by simp)⟩
    have HBW : Hid (Below w.heap.size w W) := HBV.out.trans (hB2.mono HBV.out.size)
    have HY : Hid (Below W.heap.size W W) := Below.refl _ _
    clear hB1 hBW hbn hB2 hbc HBl HBV hbne
    unfold farV
    have HWW : Hid (w1.alloc (.cells #[.int .i64 (fhi now), .int .i64 (flo now)] 45) = W) := hW
    clear hW
    go_upto_region 4 with fail
    rw [HWW.out, HBN.out]
    clear HWW HBN
    go_cut [28] from 16 to 28 (fun s wx => s = .bool (eh && !decide (now < ea + l)) ∧ Hid (Below W.heap.size W wx))
    case first =>
      cases eh
      · skip
        refine wp_region_K 12 (fun (w' : World) => w'.cell? ⟨w.heap.size, 9, none⟩ = some (.bool false) ∧ w'.cell? ⟨w.heap.size, 10, none⟩ = some (.int .i64 ea) ∧ w'.cell? ⟨w.heap.size, 11, none⟩ = some (.bool nh) ∧ w'.cell? ⟨w.heap.size, 12, none⟩ = some (.int .i64 na) ∧ w'.cell? ⟨w.heap.size, 13, none⟩ = some (.bool ih) ∧ w'.cell? ⟨w.heap.size, 14, none⟩ = some (.int .i64 ia) ∧ w'.cell? ⟨bn, 0, none⟩ = some (.int .i64 (fhi now)) ∧ w'.cell? ⟨bn, 1, none⟩ = some (.int .i64 (flo now))) (by kernel_rfl) ?_
        have hHeld : ((fun (w' : World) => w'.cell? ⟨w.heap.size, 9, none⟩ = some (.bool false) ∧ w'.cell? ⟨w.heap.size, 10, none⟩ = some (.int .i64 ea) ∧ w'.cell? ⟨w.heap.size, 11, none⟩ = some (.bool nh) ∧ w'.cell? ⟨w.heap.size, 12, none⟩ = some (.int .i64 na) ∧ w'.cell? ⟨w.heap.size, 13, none⟩ = some (.bool ih) ∧ w'.cell? ⟨w.heap.size, 14, none⟩ = some (.int .i64 ia) ∧ w'.cell? ⟨bn, 0, none⟩ = some (.int .i64 (fhi now)) ∧ w'.cell? ⟨bn, 1, none⟩ = some (.int .i64 (flo now)))) (World.drew _) := HSS.out _ (below_drewN HY.out 1)
        refine wpAnyK_take0 0 (v := ?v21) rfl (by kernel_rfl) (fun _ _ _ h => h) (Or.inl ⟨by rfl, ?hy21⟩) (fun _ => hHeld) ?_
        case hy21 => (intro w hSw; go_simp; try with_reducible rfl)
        try simp only [Act.put, List.setIfInBounds_toArray, List.set_cons_zero, List.set_cons_succ]
        refine wpAnyK_take0 1 (v := ?v22) rfl (by kernel_rfl) (fun _ _ _ h => h) (Or.inl ⟨by rfl, ?hy22⟩) (fun _ => hHeld) ?_
        case hy22 => (intro w hSw; go_simp; try with_reducible rfl)
        try simp only [Act.put, List.setIfInBounds_toArray, List.set_cons_zero, List.set_cons_succ]
        refine wpAnyK_take 2 [3, 12] (v := ?v23) rfl (by kernel_rfl) (fun _ _ _ h => h) (Or.inl ⟨by rfl, ?hy23⟩) hHeld ?_
        case hy23 => (intro w hSw; (try dsimp only at hSw); go_simp; try with_reducible rfl)
        try simp only [Act.put, List.setIfInBounds_toArray, List.set_cons_zero, List.set_cons_succ]
        refine wpAnyK_take0 3 (v := ?v24) rfl (by kernel_rfl) (fun _ _ _ h => h) (Or.inl ⟨by rfl, ?hy24⟩) (fun _ => hHeld) ?_
        case hy24 => (intro w hSw; go_simp; try with_reducible rfl)
        try simp only [Act.put, List.setIfInBounds_toArray, List.set_cons_zero, List.set_cons_succ]
        refine wpAnyK_take0 4 (v := undef) rfl (by kernel_rfl) (fun _ _ _ h => h) (Or.inr ⟨by rfl, rfl⟩) (fun _ => hHeld) ?_
        try simp only [Act.put, List.setIfInBounds_toArray, List.set_cons_zero, List.set_cons_succ]
        refine wpAnyK_take0 5 (v := undef) rfl (by kernel_rfl) (fun _ _ _ h => h) (Or.inr ⟨by rfl, rfl⟩) (fun _ => hHeld) ?_
        try simp only [Act.put, List.setIfInBounds_toArray, List.set_cons_zero, List.set_cons_succ]
        refine wpAnyK_take0 6 (v := undef) rfl (by kernel_rfl) (fun _ _ _ h => h) (Or.inr ⟨by rfl, rfl⟩) (fun _ => hHeld) ?_
        try simp only [Act.put, List.setIfInBounds_toArray, List.set_cons_zero, List.set_cons_succ]
        refine wpAnyK_take0 7 (v := undef) rfl (by kernel_rfl) (fun _ _ _ h => h) (Or.inr ⟨by rfl, rfl⟩) (fun _ => hHeld) ?_
        try simp only [Act.put, List.setIfInBounds_toArray, List.set_cons_zero, List.set_cons_succ]
        refine wpAnyK_take0 8 (v := undef) rfl (by kernel_rfl) (fun _ _ _ h => h) (Or.inr ⟨by rfl, rfl⟩) (fun _ => hHeld) ?_
        try simp only [Act.put, List.setIfInBounds_toArray, List.set_cons_zero, List.set_cons_succ]
        refine wpAnyK_step 9 rfl (by kernel_rfl) (fun K30 hK => ?_)
        go_simp
        refine hK.out _ _ (fun _ => hHeld) ?_
        clear hK K30
        try simp only [Act.put, List.setIfInBounds_toArray, List.set_cons_zero, List.set_cons_succ]
        refine wpAnyK_step 10 rfl (by kernel_rfl) (fun K31 hK => ?_)
        go_simp
        refine hK.out _ _ (fun _ => hHeld) ?_
        clear hK K31
        try simp only [Act.put, List.setIfInBounds_toArray, List.set_cons_zero, List.set_cons_succ]
        refine wpAnyK_take0 11 (v := undef) rfl (by kernel_rfl) (fun _ _ _ h => h) (Or.inr ⟨by rfl, rfl⟩) (fun _ => hHeld) ?_
        try simp only [Act.put, List.setIfInBounds_toArray, List.set_cons_zero, List.set_cons_succ]
        refine wpAnyK_step 12 rfl (by kernel_rfl) (fun K33 hK => ?_)
        go_simp
        refine hK.out _ _ (fun h => nomatch (h.symm.trans (show _ = true by kernel_rfl))) ?_
        clear hK K33
        try simp only [Act.put, List.setIfInBounds_toArray, List.set_cons_zero, List.set_cons_succ]
        refine wpAnyK_done (by kernel_rfl) ?_ _
        clear hHeld
        go_wp2
        go_meet
        exact ⟨rfl, below_drewN HY.out 1⟩
      · skip
        refine wp_region_K 12 (fun (w' : World) => w'.cell? ⟨w.heap.size, 9, none⟩ = some (.bool true) ∧ w'.cell? ⟨w.heap.size, 10, none⟩ = some (.int .i64 ea) ∧ w'.cell? ⟨w.heap.size, 11, none⟩ = some (.bool nh) ∧ w'.cell? ⟨w.heap.size, 12, none⟩ = some (.int .i64 na) ∧ w'.cell? ⟨w.heap.size, 13, none⟩ = some (.bool ih) ∧ w'.cell? ⟨w.heap.size, 14, none⟩ = some (.int .i64 ia) ∧ w'.cell? ⟨bn, 0, none⟩ = some (.int .i64 (fhi now)) ∧ w'.cell? ⟨bn, 1, none⟩ = some (.int .i64 (flo now))) (by kernel_rfl) ?_
        have hHeld : ((fun (w' : World) => w'.cell? ⟨w.heap.size, 9, none⟩ = some (.bool true) ∧ w'.cell? ⟨w.heap.size, 10, none⟩ = some (.int .i64 ea) ∧ w'.cell? ⟨w.heap.size, 11, none⟩ = some (.bool nh) ∧ w'.cell? ⟨w.heap.size, 12, none⟩ = some (.int .i64 na) ∧ w'.cell? ⟨w.heap.size, 13, none⟩ = some (.bool ih) ∧ w'.cell? ⟨w.heap.size, 14, none⟩ = some (.int .i64 ia) ∧ w'.cell? ⟨bn, 0, none⟩ = some (.int .i64 (fhi now)) ∧ w'.cell? ⟨bn, 1, none⟩ = some (.int .i64 (flo now)))) (World.drew _) := HSS.out _ (below_drewN HY.out 1)
        refine wpAnyK_take0 0 (v := ?v34) rfl (by kernel_rfl) (fun _ _ _ h => h) (Or.inl ⟨by rfl, ?hy34⟩) (fun _ => hHeld) ?_
        case hy34 => (intro w hSw; go_simp; try with_reducible rfl)
        try simp only [Act.put, List.setIfInBounds_toArray, List.set_cons_zero, List.set_cons_succ]
        refine wpAnyK_take0 1 (v := ?v35) rfl (by kernel_rfl) (fun _ _ _ h => h) (Or.inl ⟨by rfl, ?hy35⟩) (fun _ => hHeld) ?_
        case hy35 => (intro w hSw; go_simp; try with_reducible rfl)
        try simp only [Act.put, List.setIfInBounds_toArray, List.set_cons_zero, List.set_cons_succ]
        refine wpAnyK_take 2 [3, 12] (v := ?v36) rfl (by kernel_rfl) (fun _ _ _ h => h) (Or.inl ⟨by rfl, ?hy36⟩) hHeld ?_
        case hy36 => (intro w hSw; (try dsimp only at hSw); go_simp; try with_reducible rfl)
        try simp only [Act.put, List.setIfInBounds_toArray, List.set_cons_zero, List.set_cons_succ]
        refine wpAnyK_take0 3 (v := ?v37) rfl (by kernel_rfl) (fun _ _ _ h => h) (Or.inl ⟨by rfl, ?hy37⟩) (fun _ => hHeld) ?_
        case hy37 => (intro w hSw; go_simp; try with_reducible rfl)
        try simp only [Act.put, List.setIfInBounds_toArray, List.set_cons_zero, List.set_cons_succ]
        refine wpAnyK_take 4 [10, 11, 12] (v := ?v38) rfl (by kernel_rfl) (fun _ _ _ h => h) (Or.inl ⟨by rfl, ?hy38⟩) hHeld ?_
        case hy38 => (intro w hSw; (try dsimp only at hSw); go_simp; try with_reducible rfl)
        try simp only [Act.put, List.setIfInBounds_toArray, List.set_cons_zero, List.set_cons_succ]
        refine wpAnyK_take0 5 (v := ?v39) rfl (by kernel_rfl) (fun _ _ _ h => h) (Or.inl ⟨by rfl, ?hy39⟩) (fun _ => hHeld) ?_
        case hy39 => (intro w hSw; go_simp; try with_reducible rfl)
        try simp only [Act.put, List.setIfInBounds_toArray, List.set_cons_zero, List.set_cons_succ]
        refine wpAnyK_take0 6 (v := ?v40) rfl (by kernel_rfl) (fun _ _ _ h => h) (Or.inl ⟨by rfl, ?hy40⟩) (fun _ => hHeld) ?_
        case hy40 => (intro w hSw; go_simp; try with_reducible rfl)
        try simp only [Act.put, List.setIfInBounds_toArray, List.set_cons_zero, List.set_cons_succ]
        refine wpAnyK_take 7 [9, 10, 11, 12] (v := ?v41) rfl (by kernel_rfl) (fun _ _ _ h => h) (Or.inl ⟨by rfl, ?hy41⟩) hHeld ?_
        case hy41 => (intro w hSw; (try dsimp only at hSw); go_simp; try with_reducible rfl)
        try simp only [Act.put, List.setIfInBounds_toArray, List.set_cons_zero, List.set_cons_succ]
        refine wpAnyK_take0 8 (v := ?v42) rfl (by kernel_rfl) (fun _ _ _ h => h) (Or.inl ⟨by rfl, ?hy42⟩) (fun _ => hHeld) ?_
        case hy42 => (intro w hSw; go_simp; try with_reducible rfl)
        try simp only [Act.put, List.setIfInBounds_toArray, List.set_cons_zero, List.set_cons_succ]
        refine wpAnyK_step 9 rfl (by kernel_rfl) (fun K43 hK => ?_)
        go_simp
        refine (rfar_any ea (l) _ HE.out (by omega) (by omega)).mono ?_
        rintro r w5 ⟨rfl, hB5⟩
        have HB5 : Hid (Below W.heap.size W w5) := (below_drewN HY.out 1).trans (hB5.mono HY.out.size)
        clear hB5
        unfold farV
        dsimp only
        refine hK.out _ _ ?hk43 ?_
        case hk43 => exact fun _ => HSS.out _ HB5.out
        clear hHeld hK K43
        have hHeld : ((fun (w' : World) => w'.cell? ⟨w.heap.size, 9, none⟩ = some (.bool true) ∧ w'.cell? ⟨w.heap.size, 10, none⟩ = some (.int .i64 ea) ∧ w'.cell? ⟨w.heap.size, 11, none⟩ = some (.bool nh) ∧ w'.cell? ⟨w.heap.size, 12, none⟩ = some (.int .i64 na) ∧ w'.cell? ⟨w.heap.size, 13, none⟩ = some (.bool ih) ∧ w'.cell? ⟨w.heap.size, 14, none⟩ = some (.int .i64 ia) ∧ w'.cell? ⟨bn, 0, none⟩ = some (.int .i64 (fhi now)) ∧ w'.cell? ⟨bn, 1, none⟩ = some (.int .i64 (flo now)))) _ := HSS.out _ HB5.out
        try simp only [Act.put, List.setIfInBounds_toArray, List.set_cons_zero, List.set_cons_succ]
        refine wpAnyK_step 10 rfl (by kernel_rfl) (fun K44 hK => ?_)
        go_simp
        refine (rless_any now (ea + (l)) _).mono ?_
        rintro r w6 ⟨rfl, hB6⟩
        have HB6 : Hid (Below W.heap.size W w6) := HB5.out.trans (hB6.mono HB5.out.size)
        clear hB6
        dsimp only
        refine hK.out _ _ ?hk44 ?_
        case hk44 => exact fun _ => HSS.out _ HB6.out
        clear hHeld hK K44
        have hHeld : ((fun (w' : World) => w'.cell? ⟨w.heap.size, 9, none⟩ = some (.bool true) ∧ w'.cell? ⟨w.heap.size, 10, none⟩ = some (.int .i64 ea) ∧ w'.cell? ⟨w.heap.size, 11, none⟩ = some (.bool nh) ∧ w'.cell? ⟨w.heap.size, 12, none⟩ = some (.int .i64 na) ∧ w'.cell? ⟨w.heap.size, 13, none⟩ = some (.bool ih) ∧ w'.cell? ⟨w.heap.size, 14, none⟩ = some (.int .i64 ia) ∧ w'.cell? ⟨bn, 0, none⟩ = some (.int .i64 (fhi now)) ∧ w'.cell? ⟨bn, 1, none⟩ = some (.int .i64 (flo now)))) _ := HSS.out _ HB6.out
        try simp only [Act.put, List.setIfInBounds_toArray, List.set_cons_zero, List.set_cons_succ]
        refine wpAnyK_take0 11 (v := ?v45) rfl (by kernel_rfl) (fun _ _ _ h => h) (Or.inl ⟨by rfl, ?hy45⟩) (fun _ => hHeld) ?_
        case hy45 => (intro w hSw; go_simp; try with_reducible rfl)
        try simp only [Act.put, List.setIfInBounds_toArray, List.set_cons_zero, List.set_cons_succ]
        refine wpAnyK_step 12 rfl (by kernel_rfl) (fun K46 hK => ?_)
        go_simp
        refine hK.out _ _ (fun h => nomatch (h.symm.trans (show _ = true by kernel_rfl))) ?_
        clear hK K46
        try simp only [Act.put, List.setIfInBounds_toArray, List.set_cons_zero, List.set_cons_succ]
        refine wpAnyK_done (by kernel_rfl) ?_ _
        clear hHeld
        go_wp2
        go_meet
        exact ⟨by simp, HB6.out⟩
    case rest =>
    obtain ⟨rfl, HYn⟩ := hcut
    clear HY
    have HY := HYn
    clear HYn
    have HV : Hid (Below w.heap.size w wc) := HBW.out.trans (HY.out.mono HBW.out.size)
    obtain ⟨b4, hb4⟩ : ∃ b, (eh && !decide (now < ea + l)) = b := ⟨_, rfl⟩
    have Hb4 : Hid ((eh && !decide (now < ea + l)) = b4) := hb4
    rw [hb4]
    clear hb4
    rcases Bool.eq_false_or_eq_true b4 with rfl | rfl
    · go_wp2
      go_ret
      refine ⟨?_, HV.out⟩
      rw [show clockF ⟨eh, ea⟩ ⟨nh, na⟩ ⟨ih, ia⟩ l now = 134 from HF4.out Hb4.out]; rfl
    have HF6 : Hid ((nh && decide (now < na + -l)) = true → clockF ⟨eh, ea⟩ ⟨nh, na⟩ ⟨ih, ia⟩ l now = 135) := fun h => rc2 HL.out Hb4.out h
    go_upto_region 6 with fail
    go_cut [41] from 29 to 41 (fun s wx => s = .bool (nh && decide (now < na + -l)) ∧ Hid (Below W.heap.size W wx))
    case first =>
      cases nh
      · skip
        refine wp_region_K 12 (fun (w' : World) => w'.cell? ⟨w.heap.size, 9, none⟩ = some (.bool eh) ∧ w'.cell? ⟨w.heap.size, 10, none⟩ = some (.int .i64 ea) ∧ w'.cell? ⟨w.heap.size, 11, none⟩ = some (.bool false) ∧ w'.cell? ⟨w.heap.size, 12, none⟩ = some (.int .i64 na) ∧ w'.cell? ⟨w.heap.size, 13, none⟩ = some (.bool ih) ∧ w'.cell? ⟨w.heap.size, 14, none⟩ = some (.int .i64 ia) ∧ w'.cell? ⟨bn, 0, none⟩ = some (.int .i64 (fhi now)) ∧ w'.cell? ⟨bn, 1, none⟩ = some (.int .i64 (flo now))) (by kernel_rfl) ?_
        have hHeld : ((fun (w' : World) => w'.cell? ⟨w.heap.size, 9, none⟩ = some (.bool eh) ∧ w'.cell? ⟨w.heap.size, 10, none⟩ = some (.int .i64 ea) ∧ w'.cell? ⟨w.heap.size, 11, none⟩ = some (.bool false) ∧ w'.cell? ⟨w.heap.size, 12, none⟩ = some (.int .i64 na) ∧ w'.cell? ⟨w.heap.size, 13, none⟩ = some (.bool ih) ∧ w'.cell? ⟨w.heap.size, 14, none⟩ = some (.int .i64 ia) ∧ w'.cell? ⟨bn, 0, none⟩ = some (.int .i64 (fhi now)) ∧ w'.cell? ⟨bn, 1, none⟩ = some (.int .i64 (flo now)))) (World.drew _) := HSS.out _ (below_drewN HY.out 1)
        refine wpAnyK_take0 0 (v := ?v47) rfl (by kernel_rfl) (fun _ _ _ h => h) (Or.inl ⟨by rfl, ?hy47⟩) (fun _ => hHeld) ?_
        case hy47 => (intro w hSw; go_simp; try with_reducible rfl)
        try simp only [Act.put, List.setIfInBounds_toArray, List.set_cons_zero, List.set_cons_succ]
        refine wpAnyK_take0 1 (v := ?v48) rfl (by kernel_rfl) (fun _ _ _ h => h) (Or.inl ⟨by rfl, ?hy48⟩) (fun _ => hHeld) ?_
        case hy48 => (intro w hSw; go_simp; try with_reducible rfl)
        try simp only [Act.put, List.setIfInBounds_toArray, List.set_cons_zero, List.set_cons_succ]
        refine wpAnyK_take 2 [3, 12] (v := ?v49) rfl (by kernel_rfl) (fun _ _ _ h => h) (Or.inl ⟨by rfl, ?hy49⟩) hHeld ?_
        case hy49 => (intro w hSw; (try dsimp only at hSw); go_simp; try with_reducible rfl)
        try simp only [Act.put, List.setIfInBounds_toArray, List.set_cons_zero, List.set_cons_succ]
        refine wpAnyK_take0 3 (v := ?v50) rfl (by kernel_rfl) (fun _ _ _ h => h) (Or.inl ⟨by rfl, ?hy50⟩) (fun _ => hHeld) ?_
        case hy50 => (intro w hSw; go_simp; try with_reducible rfl)
        try simp only [Act.put, List.setIfInBounds_toArray, List.set_cons_zero, List.set_cons_succ]
        refine wpAnyK_take0 4 (v := undef) rfl (by kernel_rfl) (fun _ _ _ h => h) (Or.inr ⟨by rfl, rfl⟩) (fun _ => hHeld) ?_
        try simp only [Act.put, List.setIfInBounds_toArray, List.set_cons_zero, List.set_cons_succ]
        refine wpAnyK_take0 5 (v := undef) rfl (by kernel_rfl) (fun _ _ _ h => h) (Or.inr ⟨by rfl, rfl⟩) (fun _ => hHeld) ?_
        try simp only [Act.put, List.setIfInBounds_toArray, List.set_cons_zero, List.set_cons_succ]
        refine wpAnyK_take0 6 (v := undef) rfl (by kernel_rfl) (fun _ _ _ h => h) (Or.inr ⟨by rfl, rfl⟩) (fun _ => hHeld) ?_
        try simp only [Act.put, List.setIfInBounds_toArray, List.set_cons_zero, List.set_cons_succ]
        refine wpAnyK_take0 7 (v := undef) rfl (by kernel_rfl) (fun _ _ _ h => h) (Or.inr ⟨by rfl, rfl⟩) (fun _ => hHeld) ?_
        try simp only [Act.put, List.setIfInBounds_toArray, List.set_cons_zero, List.set_cons_succ]
        refine wpAnyK_take0 8 (v := undef) rfl (by kernel_rfl) (fun _ _ _ h => h) (Or.inr ⟨by rfl, rfl⟩) (fun _ => hHeld) ?_
        try simp only [Act.put, List.setIfInBounds_toArray, List.set_cons_zero, List.set_cons_succ]
        refine wpAnyK_take0 9 (v := undef) rfl (by kernel_rfl) (fun _ _ _ h => h) (Or.inr ⟨by rfl, rfl⟩) (fun _ => hHeld) ?_
        try simp only [Act.put, List.setIfInBounds_toArray, List.set_cons_zero, List.set_cons_succ]
        refine wpAnyK_step 10 rfl (by kernel_rfl) (fun K57 hK => ?_)
        go_simp
        refine hK.out _ _ (fun _ => hHeld) ?_
        clear hK K57
        try simp only [Act.put, List.setIfInBounds_toArray, List.set_cons_zero, List.set_cons_succ]
        refine wpAnyK_step 11 rfl (by kernel_rfl) (fun K58 hK => ?_)
        go_simp
        refine hK.out _ _ (fun _ => hHeld) ?_
        clear hK K58
        try simp only [Act.put, List.setIfInBounds_toArray, List.set_cons_zero, List.set_cons_succ]
        refine wpAnyK_step 12 rfl (by kernel_rfl) (fun K59 hK => ?_)
        go_simp
        refine hK.out _ _ (fun h => nomatch (h.symm.trans (show _ = true by kernel_rfl))) ?_
        clear hK K59
        try simp only [Act.put, List.setIfInBounds_toArray, List.set_cons_zero, List.set_cons_succ]
        refine wpAnyK_done (by kernel_rfl) ?_ _
        clear hHeld
        go_wp2
        go_meet
        exact ⟨rfl, below_drewN HY.out 1⟩
      · skip
        refine wp_region_K 12 (fun (w' : World) => w'.cell? ⟨w.heap.size, 9, none⟩ = some (.bool eh) ∧ w'.cell? ⟨w.heap.size, 10, none⟩ = some (.int .i64 ea) ∧ w'.cell? ⟨w.heap.size, 11, none⟩ = some (.bool true) ∧ w'.cell? ⟨w.heap.size, 12, none⟩ = some (.int .i64 na) ∧ w'.cell? ⟨w.heap.size, 13, none⟩ = some (.bool ih) ∧ w'.cell? ⟨w.heap.size, 14, none⟩ = some (.int .i64 ia) ∧ w'.cell? ⟨bn, 0, none⟩ = some (.int .i64 (fhi now)) ∧ w'.cell? ⟨bn, 1, none⟩ = some (.int .i64 (flo now))) (by kernel_rfl) ?_
        have hHeld : ((fun (w' : World) => w'.cell? ⟨w.heap.size, 9, none⟩ = some (.bool eh) ∧ w'.cell? ⟨w.heap.size, 10, none⟩ = some (.int .i64 ea) ∧ w'.cell? ⟨w.heap.size, 11, none⟩ = some (.bool true) ∧ w'.cell? ⟨w.heap.size, 12, none⟩ = some (.int .i64 na) ∧ w'.cell? ⟨w.heap.size, 13, none⟩ = some (.bool ih) ∧ w'.cell? ⟨w.heap.size, 14, none⟩ = some (.int .i64 ia) ∧ w'.cell? ⟨bn, 0, none⟩ = some (.int .i64 (fhi now)) ∧ w'.cell? ⟨bn, 1, none⟩ = some (.int .i64 (flo now)))) (World.drew _) := HSS.out _ (below_drewN HY.out 1)
        refine wpAnyK_take0 0 (v := ?v60) rfl (by kernel_rfl) (fun _ _ _ h => h) (Or.inl ⟨by rfl, ?hy60⟩) (fun _ => hHeld) ?_
        case hy60 => (intro w hSw; go_simp; try with_reducible rfl)
        try simp only [Act.put, List.setIfInBounds_toArray, List.set_cons_zero, List.set_cons_succ]
        refine wpAnyK_take0 1 (v := ?v61) rfl (by kernel_rfl) (fun _ _ _ h => h) (Or.inl ⟨by rfl, ?hy61⟩) (fun _ => hHeld) ?_
        case hy61 => (intro w hSw; go_simp; try with_reducible rfl)
        try simp only [Act.put, List.setIfInBounds_toArray, List.set_cons_zero, List.set_cons_succ]
        refine wpAnyK_take 2 [3, 12] (v := ?v62) rfl (by kernel_rfl) (fun _ _ _ h => h) (Or.inl ⟨by rfl, ?hy62⟩) hHeld ?_
        case hy62 => (intro w hSw; (try dsimp only at hSw); go_simp; try with_reducible rfl)
        try simp only [Act.put, List.setIfInBounds_toArray, List.set_cons_zero, List.set_cons_succ]
        refine wpAnyK_take0 3 (v := ?v63) rfl (by kernel_rfl) (fun _ _ _ h => h) (Or.inl ⟨by rfl, ?hy63⟩) (fun _ => hHeld) ?_
        case hy63 => (intro w hSw; go_simp; try with_reducible rfl)
        try simp only [Act.put, List.setIfInBounds_toArray, List.set_cons_zero, List.set_cons_succ]
        refine wpAnyK_take 4 [11, 12] (v := ?v64) rfl (by kernel_rfl) (fun _ _ _ h => h) (Or.inl ⟨by rfl, ?hy64⟩) hHeld ?_
        case hy64 => (intro w hSw; (try dsimp only at hSw); go_simp; try with_reducible rfl)
        try simp only [Act.put, List.setIfInBounds_toArray, List.set_cons_zero, List.set_cons_succ]
        refine wpAnyK_take0 5 (v := ?v65) rfl (by kernel_rfl) (fun _ _ _ h => h) (Or.inl ⟨by rfl, ?hy65⟩) (fun _ => hHeld) ?_
        case hy65 => (intro w hSw; go_simp; try with_reducible rfl)
        try simp only [Act.put, List.setIfInBounds_toArray, List.set_cons_zero, List.set_cons_succ]
        refine wpAnyK_take0 6 (v := ?v66) rfl (by kernel_rfl) (fun _ _ _ h => h) (Or.inl ⟨by rfl, ?hy66⟩) (fun _ => hHeld) ?_
        case hy66 => (intro w hSw; go_simp; try with_reducible rfl)
        try simp only [Act.put, List.setIfInBounds_toArray, List.set_cons_zero, List.set_cons_succ]
        refine wpAnyK_take 7 [10, 11, 12] (v := ?v67) rfl (by kernel_rfl) (fun _ _ _ h => h) (Or.inl ⟨by rfl, ?hy67⟩) hHeld ?_
        case hy67 => (intro w hSw; (try dsimp only at hSw); go_simp; try with_reducible rfl)
        try simp only [Act.put, List.setIfInBounds_toArray, List.set_cons_zero, List.set_cons_succ]
        refine wpAnyK_take0 8 (v := ?v68) rfl (by kernel_rfl) (fun _ _ _ h => h) (Or.inl ⟨by rfl, ?hy68⟩) (fun _ => hHeld) ?_
        case hy68 => (intro w hSw; go_simp; try with_reducible rfl)
        try simp only [Act.put, List.setIfInBounds_toArray, List.set_cons_zero, List.set_cons_succ]
        refine wpAnyK_take0 9 (v := ?v69) rfl (by kernel_rfl) (fun _ _ _ h => h) (Or.inl ⟨by rfl, ?hy69⟩) (fun _ => hHeld) ?_
        case hy69 => (intro w hSw; go_simp; (try rw [hneg]); try with_reducible rfl)
        try simp only [Act.put, List.setIfInBounds_toArray, List.set_cons_zero, List.set_cons_succ]
        refine wpAnyK_step 10 rfl (by kernel_rfl) (fun K70 hK => ?_)
        go_simp
        refine (rfar_any na (-l) _ HN.out (by omega) (by omega)).mono ?_
        rintro r w5 ⟨rfl, hB5⟩
        have HB5 : Hid (Below W.heap.size W w5) := (below_drewN HY.out 1).trans (hB5.mono HY.out.size)
        clear hB5
        unfold farV
        dsimp only
        refine hK.out _ _ ?hk70 ?_
        case hk70 => exact fun _ => HSS.out _ HB5.out
        clear hHeld hK K70
        have hHeld : ((fun (w' : World) => w'.cell? ⟨w.heap.size, 9, none⟩ = some (.bool eh) ∧ w'.cell? ⟨w.heap.size, 10, none⟩ = some (.int .i64 ea) ∧ w'.cell? ⟨w.heap.size, 11, none⟩ = some (.bool true) ∧ w'.cell? ⟨w.heap.size, 12, none⟩ = some (.int .i64 na) ∧ w'.cell? ⟨w.heap.size, 13, none⟩ = some (.bool ih) ∧ w'.cell? ⟨w.heap.size, 14, none⟩ = some (.int .i64 ia) ∧ w'.cell? ⟨bn, 0, none⟩ = some (.int .i64 (fhi now)) ∧ w'.cell? ⟨bn, 1, none⟩ = some (.int .i64 (flo now)))) _ := HSS.out _ HB5.out
        try simp only [Act.put, List.setIfInBounds_toArray, List.set_cons_zero, List.set_cons_succ]
        refine wpAnyK_step 11 rfl (by kernel_rfl) (fun K71 hK => ?_)
        go_simp
        refine (rless_any now (na + (-l)) _).mono ?_
        rintro r w6 ⟨rfl, hB6⟩
        have HB6 : Hid (Below W.heap.size W w6) := HB5.out.trans (hB6.mono HB5.out.size)
        clear hB6
        dsimp only
        refine hK.out _ _ ?hk71 ?_
        case hk71 => exact fun _ => HSS.out _ HB6.out
        clear hHeld hK K71
        have hHeld : ((fun (w' : World) => w'.cell? ⟨w.heap.size, 9, none⟩ = some (.bool eh) ∧ w'.cell? ⟨w.heap.size, 10, none⟩ = some (.int .i64 ea) ∧ w'.cell? ⟨w.heap.size, 11, none⟩ = some (.bool true) ∧ w'.cell? ⟨w.heap.size, 12, none⟩ = some (.int .i64 na) ∧ w'.cell? ⟨w.heap.size, 13, none⟩ = some (.bool ih) ∧ w'.cell? ⟨w.heap.size, 14, none⟩ = some (.int .i64 ia) ∧ w'.cell? ⟨bn, 0, none⟩ = some (.int .i64 (fhi now)) ∧ w'.cell? ⟨bn, 1, none⟩ = some (.int .i64 (flo now)))) _ := HSS.out _ HB6.out
        try simp only [Act.put, List.setIfInBounds_toArray, List.set_cons_zero, List.set_cons_succ]
        refine wpAnyK_step 12 rfl (by kernel_rfl) (fun K72 hK => ?_)
        go_simp
        refine hK.out _ _ (fun h => nomatch (h.symm.trans (show _ = true by kernel_rfl))) ?_
        clear hK K72
        try simp only [Act.put, List.setIfInBounds_toArray, List.set_cons_zero, List.set_cons_succ]
        refine wpAnyK_done (by kernel_rfl) ?_ _
        clear hHeld
        go_wp2
        go_meet
        exact ⟨by simp, HB6.out⟩
    case rest =>
    obtain ⟨rfl, HYn⟩ := hcut
    clear HY
    have HY := HYn
    clear HYn
    have HV : Hid (Below w.heap.size w wc) := HBW.out.trans (HY.out.mono HBW.out.size)
    obtain ⟨b6, hb6⟩ : ∃ b, (nh && decide (now < na + -l)) = b := ⟨_, rfl⟩
    have Hb6 : Hid ((nh && decide (now < na + -l)) = b6) := hb6
    rw [hb6]
    clear hb6
    rcases Bool.eq_false_or_eq_true b6 with rfl | rfl
    · go_wp2
      go_ret
      refine ⟨?_, HV.out⟩
      rw [show clockF ⟨eh, ea⟩ ⟨nh, na⟩ ⟨ih, ia⟩ l now = 135 from HF6.out Hb6.out]; rfl
    have HFx := rc3 (ih := ih) (ia := ia) HL.out Hb4.out Hb6.out
    have HF8 : Hid ((ih && decide (now < ia + -l)) = true → clockF ⟨eh, ea⟩ ⟨nh, na⟩ ⟨ih, ia⟩ l now = 136) := fun h => by rw [HFx]; exact if_pos h
    have HF0 : Hid ((ih && decide (now < ia + -l)) = false → clockF ⟨eh, ea⟩ ⟨nh, na⟩ ⟨ih, ia⟩ l now = 0) := fun h => by rw [HFx, h]; rfl
    clear HFx
    go_upto_region 8 with fail
    go_cut [54] from 42 to 54 (fun s wx => s = .bool (ih && decide (now < ia + -l)) ∧ Hid (Below W.heap.size W wx))
    case first =>
      cases ih
      · skip
        refine wp_region_K 12 (fun (w' : World) => w'.cell? ⟨w.heap.size, 9, none⟩ = some (.bool eh) ∧ w'.cell? ⟨w.heap.size, 10, none⟩ = some (.int .i64 ea) ∧ w'.cell? ⟨w.heap.size, 11, none⟩ = some (.bool nh) ∧ w'.cell? ⟨w.heap.size, 12, none⟩ = some (.int .i64 na) ∧ w'.cell? ⟨w.heap.size, 13, none⟩ = some (.bool false) ∧ w'.cell? ⟨w.heap.size, 14, none⟩ = some (.int .i64 ia) ∧ w'.cell? ⟨bn, 0, none⟩ = some (.int .i64 (fhi now)) ∧ w'.cell? ⟨bn, 1, none⟩ = some (.int .i64 (flo now))) (by kernel_rfl) ?_
        have hHeld : ((fun (w' : World) => w'.cell? ⟨w.heap.size, 9, none⟩ = some (.bool eh) ∧ w'.cell? ⟨w.heap.size, 10, none⟩ = some (.int .i64 ea) ∧ w'.cell? ⟨w.heap.size, 11, none⟩ = some (.bool nh) ∧ w'.cell? ⟨w.heap.size, 12, none⟩ = some (.int .i64 na) ∧ w'.cell? ⟨w.heap.size, 13, none⟩ = some (.bool false) ∧ w'.cell? ⟨w.heap.size, 14, none⟩ = some (.int .i64 ia) ∧ w'.cell? ⟨bn, 0, none⟩ = some (.int .i64 (fhi now)) ∧ w'.cell? ⟨bn, 1, none⟩ = some (.int .i64 (flo now)))) (World.drew _) := HSS.out _ (below_drewN HY.out 1)
        refine wpAnyK_take0 0 (v := ?v73) rfl (by kernel_rfl) (fun _ _ _ h => h) (Or.inl ⟨by rfl, ?hy73⟩) (fun _ => hHeld) ?_
        case hy73 => (intro w hSw; go_simp; try with_reducible rfl)
        try simp only [Act.put, List.setIfInBounds_toArray, List.set_cons_zero, List.set_cons_succ]
        refine wpAnyK_take0 1 (v := ?v74) rfl (by kernel_rfl) (fun _ _ _ h => h) (Or.inl ⟨by rfl, ?hy74⟩) (fun _ => hHeld) ?_
        case hy74 => (intro w hSw; go_simp; try with_reducible rfl)
        try simp only [Act.put, List.setIfInBounds_toArray, List.set_cons_zero, List.set_cons_succ]
        refine wpAnyK_take 2 [3, 12] (v := ?v75) rfl (by kernel_rfl) (fun _ _ _ h => h) (Or.inl ⟨by rfl, ?hy75⟩) hHeld ?_
        case hy75 => (intro w hSw; (try dsimp only at hSw); go_simp; try with_reducible rfl)
        try simp only [Act.put, List.setIfInBounds_toArray, List.set_cons_zero, List.set_cons_succ]
        refine wpAnyK_take0 3 (v := ?v76) rfl (by kernel_rfl) (fun _ _ _ h => h) (Or.inl ⟨by rfl, ?hy76⟩) (fun _ => hHeld) ?_
        case hy76 => (intro w hSw; go_simp; try with_reducible rfl)
        try simp only [Act.put, List.setIfInBounds_toArray, List.set_cons_zero, List.set_cons_succ]
        refine wpAnyK_take0 4 (v := undef) rfl (by kernel_rfl) (fun _ _ _ h => h) (Or.inr ⟨by rfl, rfl⟩) (fun _ => hHeld) ?_
        try simp only [Act.put, List.setIfInBounds_toArray, List.set_cons_zero, List.set_cons_succ]
        refine wpAnyK_take0 5 (v := undef) rfl (by kernel_rfl) (fun _ _ _ h => h) (Or.inr ⟨by rfl, rfl⟩) (fun _ => hHeld) ?_
        try simp only [Act.put, List.setIfInBounds_toArray, List.set_cons_zero, List.set_cons_succ]
        refine wpAnyK_take0 6 (v := undef) rfl (by kernel_rfl) (fun _ _ _ h => h) (Or.inr ⟨by rfl, rfl⟩) (fun _ => hHeld) ?_
        try simp only [Act.put, List.setIfInBounds_toArray, List.set_cons_zero, List.set_cons_succ]
        refine wpAnyK_take0 7 (v := undef) rfl (by kernel_rfl) (fun _ _ _ h => h) (Or.inr ⟨by rfl, rfl⟩) (fun _ => hHeld) ?_
        try simp only [Act.put, List.setIfInBounds_toArray, List.set_cons_zero, List.set_cons_succ]
        refine wpAnyK_take0 8 (v := undef) rfl (by kernel_rfl) (fun _ _ _ h => h) (Or.inr ⟨by rfl, rfl⟩) (fun _ => hHeld) ?_
        try simp only [Act.put, List.setIfInBounds_toArray, List.set_cons_zero, List.set_cons_succ]
        refine wpAnyK_take0 9 (v := undef) rfl (by kernel_rfl) (fun _ _ _ h => h) (Or.inr ⟨by rfl, rfl⟩) (fun _ => hHeld) ?_
        try simp only [Act.put, List.setIfInBounds_toArray, List.set_cons_zero, List.set_cons_succ]
        refine wpAnyK_step 10 rfl (by kernel_rfl) (fun K83 hK => ?_)
        go_simp
        refine hK.out _ _ (fun _ => hHeld) ?_
        clear hK K83
        try simp only [Act.put, List.setIfInBounds_toArray, List.set_cons_zero, List.set_cons_succ]
        refine wpAnyK_step 11 rfl (by kernel_rfl) (fun K84 hK => ?_)
        go_simp
        refine hK.out _ _ (fun _ => hHeld) ?_
        clear hK K84
        try simp only [Act.put, List.setIfInBounds_toArray, List.set_cons_zero, List.set_cons_succ]
        refine wpAnyK_step 12 rfl (by kernel_rfl) (fun K85 hK => ?_)
        go_simp
        refine hK.out _ _ (fun h => nomatch (h.symm.trans (show _ = true by kernel_rfl))) ?_
        clear hK K85
        try simp only [Act.put, List.setIfInBounds_toArray, List.set_cons_zero, List.set_cons_succ]
        refine wpAnyK_done (by kernel_rfl) ?_ _
        clear hHeld
        go_wp2
        go_meet
        exact ⟨rfl, below_drewN HY.out 1⟩
      · skip
        refine wp_region_K 12 (fun (w' : World) => w'.cell? ⟨w.heap.size, 9, none⟩ = some (.bool eh) ∧ w'.cell? ⟨w.heap.size, 10, none⟩ = some (.int .i64 ea) ∧ w'.cell? ⟨w.heap.size, 11, none⟩ = some (.bool nh) ∧ w'.cell? ⟨w.heap.size, 12, none⟩ = some (.int .i64 na) ∧ w'.cell? ⟨w.heap.size, 13, none⟩ = some (.bool true) ∧ w'.cell? ⟨w.heap.size, 14, none⟩ = some (.int .i64 ia) ∧ w'.cell? ⟨bn, 0, none⟩ = some (.int .i64 (fhi now)) ∧ w'.cell? ⟨bn, 1, none⟩ = some (.int .i64 (flo now))) (by kernel_rfl) ?_
        have hHeld : ((fun (w' : World) => w'.cell? ⟨w.heap.size, 9, none⟩ = some (.bool eh) ∧ w'.cell? ⟨w.heap.size, 10, none⟩ = some (.int .i64 ea) ∧ w'.cell? ⟨w.heap.size, 11, none⟩ = some (.bool nh) ∧ w'.cell? ⟨w.heap.size, 12, none⟩ = some (.int .i64 na) ∧ w'.cell? ⟨w.heap.size, 13, none⟩ = some (.bool true) ∧ w'.cell? ⟨w.heap.size, 14, none⟩ = some (.int .i64 ia) ∧ w'.cell? ⟨bn, 0, none⟩ = some (.int .i64 (fhi now)) ∧ w'.cell? ⟨bn, 1, none⟩ = some (.int .i64 (flo now)))) (World.drew _) := HSS.out _ (below_drewN HY.out 1)
        refine wpAnyK_take0 0 (v := ?v86) rfl (by kernel_rfl) (fun _ _ _ h => h) (Or.inl ⟨by rfl, ?hy86⟩) (fun _ => hHeld) ?_
        case hy86 => (intro w hSw; go_simp; try with_reducible rfl)
        try simp only [Act.put, List.setIfInBounds_toArray, List.set_cons_zero, List.set_cons_succ]
        refine wpAnyK_take0 1 (v := ?v87) rfl (by kernel_rfl) (fun _ _ _ h => h) (Or.inl ⟨by rfl, ?hy87⟩) (fun _ => hHeld) ?_
        case hy87 => (intro w hSw; go_simp; try with_reducible rfl)
        try simp only [Act.put, List.setIfInBounds_toArray, List.set_cons_zero, List.set_cons_succ]
        refine wpAnyK_take 2 [3, 12] (v := ?v88) rfl (by kernel_rfl) (fun _ _ _ h => h) (Or.inl ⟨by rfl, ?hy88⟩) hHeld ?_
        case hy88 => (intro w hSw; (try dsimp only at hSw); go_simp; try with_reducible rfl)
        try simp only [Act.put, List.setIfInBounds_toArray, List.set_cons_zero, List.set_cons_succ]
        refine wpAnyK_take0 3 (v := ?v89) rfl (by kernel_rfl) (fun _ _ _ h => h) (Or.inl ⟨by rfl, ?hy89⟩) (fun _ => hHeld) ?_
        case hy89 => (intro w hSw; go_simp; try with_reducible rfl)
        try simp only [Act.put, List.setIfInBounds_toArray, List.set_cons_zero, List.set_cons_succ]
        refine wpAnyK_take 4 [11, 12] (v := ?v90) rfl (by kernel_rfl) (fun _ _ _ h => h) (Or.inl ⟨by rfl, ?hy90⟩) hHeld ?_
        case hy90 => (intro w hSw; (try dsimp only at hSw); go_simp; try with_reducible rfl)
        try simp only [Act.put, List.setIfInBounds_toArray, List.set_cons_zero, List.set_cons_succ]
        refine wpAnyK_take0 5 (v := ?v91) rfl (by kernel_rfl) (fun _ _ _ h => h) (Or.inl ⟨by rfl, ?hy91⟩) (fun _ => hHeld) ?_
        case hy91 => (intro w hSw; go_simp; try with_reducible rfl)
        try simp only [Act.put, List.setIfInBounds_toArray, List.set_cons_zero, List.set_cons_succ]
        refine wpAnyK_take0 6 (v := ?v92) rfl (by kernel_rfl) (fun _ _ _ h => h) (Or.inl ⟨by rfl, ?hy92⟩) (fun _ => hHeld) ?_
        case hy92 => (intro w hSw; go_simp; try with_reducible rfl)
        try simp only [Act.put, List.setIfInBounds_toArray, List.set_cons_zero, List.set_cons_succ]
        refine wpAnyK_take 7 [10, 11, 12] (v := ?v93) rfl (by kernel_rfl) (fun _ _ _ h => h) (Or.inl ⟨by rfl, ?hy93⟩) hHeld ?_
        case hy93 => (intro w hSw; (try dsimp only at hSw); go_simp; try with_reducible rfl)
        try simp only [Act.put, List.setIfInBounds_toArray, List.set_cons_zero, List.set_cons_succ]
        refine wpAnyK_take0 8 (v := ?v94) rfl (by kernel_rfl) (fun _ _ _ h => h) (Or.inl ⟨by rfl, ?hy94⟩) (fun _ => hHeld) ?_
        case hy94 => (intro w hSw; go_simp; try with_reducible rfl)
        try simp only [Act.put, List.setIfInBounds_toArray, List.set_cons_zero, List.set_cons_succ]
        refine wpAnyK_take0 9 (v := ?v95) rfl (by kernel_rfl) (fun _ _ _ h => h) (Or.inl ⟨by rfl, ?hy95⟩) (fun _ => hHeld) ?_
        case hy95 => (intro w hSw; go_simp; (try rw [hneg]); try with_reducible rfl)
        try simp only [Act.put, List.setIfInBounds_toArray, List.set_cons_zero, List.set_cons_succ]
        refine wpAnyK_step 10 rfl (by kernel_rfl) (fun K96 hK => ?_)
        go_simp
        refine (rfar_any ia (-l) _ HI.out (by omega) (by omega)).mono ?_
        rintro r w5 ⟨rfl, hB5⟩
        have HB5 : Hid (Below W.heap.size W w5) := (below_drewN HY.out 1).trans (hB5.mono HY.out.size)
        clear hB5
        unfold farV
        dsimp only
        refine hK.out _ _ ?hk96 ?_
        case hk96 => exact fun _ => HSS.out _ HB5.out
        clear hHeld hK K96
        have hHeld : ((fun (w' : World) => w'.cell? ⟨w.heap.size, 9, none⟩ = some (.bool eh) ∧ w'.cell? ⟨w.heap.size, 10, none⟩ = some (.int .i64 ea) ∧ w'.cell? ⟨w.heap.size, 11, none⟩ = some (.bool nh) ∧ w'.cell? ⟨w.heap.size, 12, none⟩ = some (.int .i64 na) ∧ w'.cell? ⟨w.heap.size, 13, none⟩ = some (.bool true) ∧ w'.cell? ⟨w.heap.size, 14, none⟩ = some (.int .i64 ia) ∧ w'.cell? ⟨bn, 0, none⟩ = some (.int .i64 (fhi now)) ∧ w'.cell? ⟨bn, 1, none⟩ = some (.int .i64 (flo now)))) _ := HSS.out _ HB5.out
        try simp only [Act.put, List.setIfInBounds_toArray, List.set_cons_zero, List.set_cons_succ]
        refine wpAnyK_step 11 rfl (by kernel_rfl) (fun K97 hK => ?_)
        go_simp
        refine (rless_any now (ia + (-l)) _).mono ?_
        rintro r w6 ⟨rfl, hB6⟩
        have HB6 : Hid (Below W.heap.size W w6) := HB5.out.trans (hB6.mono HB5.out.size)
        clear hB6
        dsimp only
        refine hK.out _ _ ?hk97 ?_
        case hk97 => exact fun _ => HSS.out _ HB6.out
        clear hHeld hK K97
        have hHeld : ((fun (w' : World) => w'.cell? ⟨w.heap.size, 9, none⟩ = some (.bool eh) ∧ w'.cell? ⟨w.heap.size, 10, none⟩ = some (.int .i64 ea) ∧ w'.cell? ⟨w.heap.size, 11, none⟩ = some (.bool nh) ∧ w'.cell? ⟨w.heap.size, 12, none⟩ = some (.int .i64 na) ∧ w'.cell? ⟨w.heap.size, 13, none⟩ = some (.bool true) ∧ w'.cell? ⟨w.heap.size, 14, none⟩ = some (.int .i64 ia) ∧ w'.cell? ⟨bn, 0, none⟩ = some (.int .i64 (fhi now)) ∧ w'.cell? ⟨bn, 1, none⟩ = some (.int .i64 (flo now)))) _ := HSS.out _ HB6.out
        try simp only [Act.put, List.setIfInBounds_toArray, List.set_cons_zero, List.set_cons_succ]
        refine wpAnyK_step 12 rfl (by kernel_rfl) (fun K98 hK => ?_)
        go_simp
        refine hK.out _ _ (fun h => nomatch (h.symm.trans (show _ = true by kernel_rfl))) ?_
        clear hK K98
        try simp only [Act.put, List.setIfInBounds_toArray, List.set_cons_zero, List.set_cons_succ]
        refine wpAnyK_done (by kernel_rfl) ?_ _
        clear hHeld
        go_wp2
        go_meet
        exact ⟨by simp, HB6.out⟩
    case rest =>
    obtain ⟨rfl, HYn⟩ := hcut
    clear HY
    have HY := HYn
    clear HYn
    have HV : Hid (Below w.heap.size w wc) := HBW.out.trans (HY.out.mono HBW.out.size)
    obtain ⟨b8, hb8⟩ : ∃ b, (ih && decide (now < ia + -l)) = b := ⟨_, rfl⟩
    have Hb8 : Hid ((ih && decide (now < ia + -l)) = b8) := hb8
    rw [hb8]
    clear hb8
    rcases Bool.eq_false_or_eq_true b8 with rfl | rfl
    · go_wp2
      go_ret
      refine ⟨?_, HV.out⟩
      rw [show clockF ⟨eh, ea⟩ ⟨nh, na⟩ ⟨ih, ia⟩ l now = 136 from HF8.out Hb8.out]; rfl
    go_wp2
    go_ret
    refine ⟨?_, HV.out⟩
    rw [show clockF ⟨eh, ea⟩ ⟨nh, na⟩ ⟨ih, ia⟩ l now = 0 from HF0.out Hb8.out]; rfl
  · have HF : Hid (clockF e n i l now = 12) := clock_out hl
    have HBV : Hid (Below w.heap.size w V) := hBV
    rcases (show l < 0 ∨ (¬ l < 0 ∧ 600 < l) by omega) with h | ⟨h1, h2⟩
    · have q0 : decide (l < 0) = true := decide_eq_true h
      clear hbl hBV hl he hn hi hw h
      go_enter Try.func8, Try.ntmps8
      go_wp2
      go_ret
      rw [HF.out]
      exact ⟨rfl, by rw [← hV] at HBV; exact HBV.out⟩
    · have q0 : decide (l < 0) = false := decide_eq_false h1
      have q6 : decide (l > 600) = true := decide_eq_true h2
      clear hbl hBV hl he hn hi hw h1 h2
      go_enter Try.func8, Try.ntmps8
      go_wp2
      go_ret
      rw [HF.out]
      exact ⟨rfl, by rw [← hV] at HBV; exact HBV.out⟩

end Go.Proofs.Ytjaopeenkbcjcaa
