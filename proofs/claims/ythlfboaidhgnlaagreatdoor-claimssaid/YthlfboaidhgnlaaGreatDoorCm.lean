import Derived.Test.YthlfboaidhgnlaaGreatDoorCl
namespace Go.Proofs.YthlfboaidhgnlaaGreatDoor
open Go.RowKit

/-- The cells of claims. -/
def clC9 (x0 x1 x2 x3 x4 x5 x6 x7 x8 : Value) (e n i : Tm) : List Value := [x0, x1, x2, x3, x4, x5, x6, x7, x8, .bool e.has, .int .i64 e.at_, .bool n.has, .int .i64 n.at_, .bool i.has, .int .i64 i.at_]
theorem clock_out {e n i : Tm} {l now : Int} (h : ¬ (0 ≤ l ∧ l ≤ 600)) : clockF e n i l now = 12 := by unfold clockF; exact if_pos (by omega)
theorem open_out {e n i : Tm} {l : Int} (h : ¬ (0 ≤ l ∧ l ≤ 600)) : openF e n i l = (⟨false, 0, 0⟩, 12) := by unfold openF; exact if_pos (by omega)
theorem open_none {e n i : Tm} {l : Int} (h : 0 ≤ l ∧ l ≤ 600) (hx : lstF e l = none) : openF e n i l = (⟨true, 0, 0⟩, 0) := by unfold openF; rw [if_neg (by omega), hx]
theorem open_some {e n i : Tm} {l x : Int} (h : 0 ≤ l ∧ l ≤ 600) (hx : lstF e l = some x) : openF e n i l = if x < max (fstF n l) (fstF i l) then (⟨true, 0, 0⟩, 0) else (⟨false, max (fstF n l) (fstF i l), x⟩, 0) := by unfold openF; rw [if_neg (by omega), hx]

set_option maxRecDepth 100000 in
set_option maxHeartbeats 8000000 in
theorem clock_any (x0 x1 x2 x3 x4 x5 x6 x7 x8 : Value) (e n i : Tm) (l now : Int) (w : World) (he : I64 e.at_) (hn : I64 n.at_) (hi : I64 i.at_) (hw : I64 now) :
    Calls Tryz.prog 10 #[clW x0 x1 x2 x3 x4 x5 x6 x7 x8 e n i, .int .i64 l, .int .i64 now] w fun r w' => r = .returned (.int .i64 (clockF e n i l now : Nat)) ∧ Below w.heap.size w w' := by
  unfold clW
  obtain ⟨W, hW⟩ : ∃ W : World, w.alloc (.cells (clC9 x0 x1 x2 x3 x4 x5 x6 x7 x8 e n i).toArray 27) = W := ⟨_, rfl⟩
  have hB : Below w.heap.size w W := by rw [← hW]; exact alloc_below _ _
  have hbl : Bl 27 W w.heap.size (clC9 x0 x1 x2 x3 x4 x5 x6 x7 x8 e n i) := by rw [← hW]; exact alloc_bl _ _ _
  have HC : Hid (∀ wq, Below W.heap.size W wq → wq.cell? ⟨w.heap.size, 9, none⟩ = some (.bool e.has) ∧ wq.cell? ⟨w.heap.size, 10, none⟩ = some (.int .i64 e.at_) ∧ wq.cell? ⟨w.heap.size, 11, none⟩ = some (.bool n.has) ∧ wq.cell? ⟨w.heap.size, 12, none⟩ = some (.int .i64 n.at_) ∧ wq.cell? ⟨w.heap.size, 13, none⟩ = some (.bool i.has) ∧ wq.cell? ⟨w.heap.size, 14, none⟩ = some (.int .i64 i.at_)) := fun wq hq => by
    have hb := hbl.below hq hbl.lt
    exact ⟨hb.cell 9 (by simp [clC9]), hb.cell 10 (by simp [clC9]), hb.cell 11 (by simp [clC9]), hb.cell 12 (by simp [clC9]), hb.cell 13 (by simp [clC9]), hb.cell 14 (by simp [clC9])⟩
  have HB : Hid (Below w.heap.size w W) := hB
  have CA := allowed_any l W
  by_cases hl : 0 ≤ l ∧ l ≤ 600
  · have HF : Hid (clockF e n i l now = _) := clock_way he hn hi hw hl.1 hl.2
    have C1 : ∀ wq, Calls Tryz.prog 29 #[.agg #[.bool e.has, .int .i64 e.at_], .int .i64 l] wq fun r w' => r = .returned (laV (lstF e l)) ∧ Below wq.heap.size wq w' := fun wq => lastAhead_any e l wq he hl.1 hl.2
    have C2 : ∀ wq, Calls Tryz.prog 30 #[.agg #[.bool n.has, .int .i64 n.at_], .int .i64 l] wq fun r w' => r = .returned (.int .i64 (fstF n l)) ∧ Below wq.heap.size wq w' := fun wq => firstAt_any n l wq hn hl.1 hl.2
    have C3 : ∀ wq, Calls Tryz.prog 30 #[.agg #[.bool i.has, .int .i64 i.at_], .int .i64 l] wq fun r w' => r = .returned (.int .i64 (fstF i l)) ∧ Below wq.heap.size wq w' := fun wq => firstAt_any i l wq hi hl.1 hl.2
    rw [decide_eq_true hl] at CA
    have HC1 : Hid _ := C1
    have HC2 : Hid _ := C2
    have HC3 : Hid _ := C3
    obtain ⟨o, ho⟩ : ∃ o, lstF e l = o := ⟨_, rfl⟩
    obtain ⟨fn, hfn⟩ : ∃ x, fstF n l = x := ⟨_, rfl⟩
    obtain ⟨fi, hfi⟩ : ∃ x, fstF i l = x := ⟨_, rfl⟩
    rw [ho, hfn, hfi] at HF
    rw [ho] at HC1
    rw [hfn] at HC2
    rw [hfi] at HC3
    clear hB hbl C1 C2 C3 he hn hi hw hl ho hfn hfi
    go_enter Tryz.func10, Tryz.ntmps10
    go_wp2_with fail
    rw [show w.alloc (Obj.cells #[x0, x1, x2, x3, x4, x5, x6, x7, x8, .bool e.has, .int .i64 e.at_, .bool n.has, .int .i64 n.at_, .bool i.has, .int .i64 i.at_] 27) = W from hW]
    clear hW
    refine CA.mono ?_
    clear CA
    rintro r w1 ⟨rfl, rfl⟩
    obtain ⟨k9, k10, k11, k12, k13, k14⟩ := HC.out w1 (Below.refl _ _)
    have C1 := HC1.out w1
    clear HC1
    go_wp2_with fail
    refine C1.mono ?_
    clear C1 k9 k10 k11 k12 k13 k14
    rintro r w2 ⟨rfl, hB2⟩
    have HB2 : Hid (Below w1.heap.size w1 w2) := hB2
    have HBw : Hid (Below w.heap.size w w2) := HB.out.trans (hB2.mono HB.out.size)
    clear hB2 HB
    obtain ⟨k9, k10, k11, k12, k13, k14⟩ := HC.out w2 HB2.out
    cases o with
    | none =>
      unfold laV
      go_wp2
      go_ret
      rw [HF.out]
      exact ⟨rfl, HBw.out⟩
    | some x =>
      unfold laV
      by_cases hx : x < now
      · have qx : decide (now > x) = true := decide_eq_true hx
        have HF2 : Hid (clockF e n i l now = 134) := by show _ = _; rw [HF.out]; exact if_pos hx
        clear HF
        go_wp2
        go_ret
        rw [HF2.out]
        exact ⟨rfl, HBw.out⟩
      · have qx : decide (now > x) = false := decide_eq_false hx
        have HF2 : Hid (clockF e n i l now = if now < fn then 135 else if now < fi then 136 else 0) := by show _ = _; rw [HF.out]; exact if_neg hx
        have C2 := HC2.out w2
        clear HF HC2
        go_wp2_with fail
        refine C2.mono ?_
        clear C2 k9 k10 k11 k12 k13 k14
        rintro r w3 ⟨rfl, hB3⟩
        have HB3 : Hid (Below w1.heap.size w1 w3) := HB2.out.trans (hB3.mono HB2.out.size)
        have HBv : Hid (Below w.heap.size w w3) := HBw.out.trans (hB3.mono HBw.out.size)
        clear hB3 HB2 HBw
        obtain ⟨k9, k10, k11, k12, k13, k14⟩ := HC.out w3 HB3.out
        by_cases hn : now < fn
        · have qn : decide (now < fn) = true := decide_eq_true hn
          have HF3 : Hid (clockF e n i l now = 135) := by show _ = _; rw [HF2.out]; exact if_pos hn
          clear HF2
          go_wp2
          go_ret
          rw [HF3.out]
          exact ⟨rfl, HBv.out⟩
        · have qn : decide (now < fn) = false := decide_eq_false hn
          have HF3 : Hid (clockF e n i l now = if now < fi then 136 else 0) := by show _ = _; rw [HF2.out]; exact if_neg hn
          have C3 := HC3.out w3
          clear HF2 HC3
          go_wp2_with fail
          refine C3.mono ?_
          clear C3 k9 k10 k11 k12 k13 k14
          rintro r w4 ⟨rfl, hB4⟩
          have HBu : Hid (Below w.heap.size w w4) := HBv.out.trans (hB4.mono HBv.out.size)
          clear hB4 HBv HB3
          by_cases hi : now < fi
          · have qi : decide (now < fi) = true := decide_eq_true hi
            have HF4 : Hid (clockF e n i l now = 136) := by show _ = _; rw [HF3.out]; exact if_pos hi
            clear HF3
            go_wp2
            go_ret
            rw [HF4.out]
            exact ⟨rfl, HBu.out⟩
          · have qi : decide (now < fi) = false := decide_eq_false hi
            have HF4 : Hid (clockF e n i l now = 0) := by show _ = _; rw [HF3.out]; exact if_neg hi
            clear HF3
            go_wp2
            go_ret
            rw [HF4.out]
            exact ⟨rfl, HBu.out⟩
  · have HF : Hid (clockF e n i l now = 12) := clock_out hl
    rw [decide_eq_false hl] at CA
    clear hB hbl HC hl he hn hi hw
    go_enter Tryz.func10, Tryz.ntmps10
    go_wp2_with fail
    rw [show w.alloc (Obj.cells #[x0, x1, x2, x3, x4, x5, x6, x7, x8, .bool e.has, .int .i64 e.at_, .bool n.has, .int .i64 n.at_, .bool i.has, .int .i64 i.at_] 27) = W from hW]
    clear hW
    refine CA.mono ?_
    clear CA
    rintro r w1 ⟨rfl, rfl⟩
    go_wp2
    go_ret
    rw [HF.out]
    exact ⟨rfl, HB.out⟩

end Go.Proofs.YthlfboaidhgnlaaGreatDoor
