import Derived.Test.YthlfboaidhgnlaaGreatDoorCm
import Derived.Test.YthlfboaidhgnlaaGreatDoorOrk
import Derived.Laws.Tables
namespace Go.Proofs.YthlfboaidhgnlaaGreatDoor
open Go.RowKit

theorem set_bl2 {t : TypeId} {w : World} {b : Nat} {old new : List Value} (h : Bl t w b old) : Bl t (w.setRow b new.toArray) b new := setRow_heap _ _ _ _ _ _ h
theorem setRow_below2 {w0 w : World} {n b : Nat} (new : Array Value) (h : Below n w0 w) (hb : n ≤ b) : Below n w0 (w.setRow b new) := ⟨h.os, h.tape, h.output, by simpa [World.setRow] using h.size, fun k hk => (setRow_other w b k _ (by omega)).trans (h.block k hk)⟩
def wnC (x : Wn) : List Value := [.bool x.empty, .int .i64 x.fr, .int .i64 x.en]
theorem results_wn {fn : Func} {u p : Tmp} (h : fn.results = #[.cell p 32, .tmp u]) (tmps : Array Value) (w : World) (b : Nat) (x : Wn) (y : Value) (hu : tmps.getD u undef = y) (hp : tmps.getD p undef = .pointer (some ⟨b, 0, none⟩)) (hb : Bl 32 w b (wnC x)) :
    (results fn tmps).run Tryz.prog w = .ok (.tuple #[wnV x, y]) w := by
  have hr : (loadVar 32 ⟨b, 0, none⟩).run Tryz.prog w = .ok (wnV x) w := by
    refine run_loadVar_mid w b 0 32 (wnC x) _ ?_ Tryz.underlying32 rfl (by kernel_rfl)
    intro j v hv
    obtain ⟨hj, e⟩ := List.getElem?_eq_some_iff.1 hv
    rw [Nat.zero_add, ← e]
    exact hb.cell j hj
  have hr2 : (results fn tmps).run Tryz.prog w = ((asAddr (tmps.getD p undef)).run Tryz.prog w).andThen fun a w₁ => ((loadVar 32 a).run Tryz.prog w₁).andThen fun v w₂ => .ok (.tuple #[v, tmps.getD u undef]) w₂ := by
    simp only [results, h]
    simp [Sem.run_bind, Result.andThen]
  rw [hr2, hp]
  unfold asAddr
  simp only [Sem.run_pure, Result.andThen_ok]
  rw [hr, hu]
  rfl

set_option maxRecDepth 100000 in
set_option maxHeartbeats 8000000 in
theorem open_any (x0 x1 x2 x3 x4 x5 x6 x7 x8 : Value) (e n i : Tm) (l : Int) (w : World) (he : I64 e.at_) (hn : I64 n.at_) (hi : I64 i.at_) :
    Calls Tryz.prog 11 #[clW x0 x1 x2 x3 x4 x5 x6 x7 x8 e n i, .int .i64 l] w fun r w' => r = .returned (.tuple #[wnV (openF e n i l).1, .int .i64 ((openF e n i l).2 : Nat)]) ∧ Below w.heap.size w w' := by
  unfold clW
  obtain ⟨V, hV⟩ : ∃ V : World, w.alloc (.cells (clC9 x0 x1 x2 x3 x4 x5 x6 x7 x8 e n i).toArray 27) = V := ⟨_, rfl⟩
  have hBV : Below w.heap.size w V := by rw [← hV]; exact alloc_below _ _
  have hbl : Bl 27 V w.heap.size (clC9 x0 x1 x2 x3 x4 x5 x6 x7 x8 e n i) := by rw [← hV]; exact alloc_bl _ _ _
  obtain ⟨W, hW⟩ : ∃ W : World, V.alloc (.cells (wnC ⟨false, 0, 0⟩).toArray 32) = W := ⟨_, rfl⟩
  have hBW : Below V.heap.size V W := by rw [← hW]; exact alloc_below _ _
  have HBox : Hid (Bl 32 W V.heap.size (wnC ⟨false, 0, 0⟩)) := by rw [← hW]; exact alloc_bl _ _ _
  have HbW : Hid (w.heap.size ≤ V.heap.size) := Nat.le_of_lt hbl.lt
  have hB : Below w.heap.size w W := hBV.trans (hBW.mono HbW.out)
  replace hbl : Bl 27 W w.heap.size (clC9 x0 x1 x2 x3 x4 x5 x6 x7 x8 e n i) := hbl.below hBW hbl.lt
  have hsv : V.heap.size = w.heap.size + 1 := by rw [← hV]; exact alloc_size _ _
  rw [show V = w.alloc (.cells #[x0, x1, x2, x3, x4, x5, x6, x7, x8, .bool e.has, .int .i64 e.at_, .bool n.has, .int .i64 n.at_, .bool i.has, .int .i64 i.at_] 27) from hV.symm] at hW
  rw [hsv] at HBox HbW
  obtain ⟨bw, hbw⟩ : ∃ b, w.heap.size + 1 = b := ⟨_, rfl⟩
  have HBW : Hid (w.heap.size + 1 = bw) := hbw
  rw [hbw] at HBox HbW
  clear hV hBV hBW hsv hbw V
  have HC : Hid (∀ wq, Below W.heap.size W wq → wq.cell? ⟨w.heap.size, 9, none⟩ = some (.bool e.has) ∧ wq.cell? ⟨w.heap.size, 10, none⟩ = some (.int .i64 e.at_) ∧ wq.cell? ⟨w.heap.size, 11, none⟩ = some (.bool n.has) ∧ wq.cell? ⟨w.heap.size, 12, none⟩ = some (.int .i64 n.at_) ∧ wq.cell? ⟨w.heap.size, 13, none⟩ = some (.bool i.has) ∧ wq.cell? ⟨w.heap.size, 14, none⟩ = some (.int .i64 i.at_)) := fun wq hq => by
    have hb := hbl.below hq hbl.lt
    exact ⟨hb.cell 9 (by simp [clC9]), hb.cell 10 (by simp [clC9]), hb.cell 11 (by simp [clC9]), hb.cell 12 (by simp [clC9]), hb.cell 13 (by simp [clC9]), hb.cell 14 (by simp [clC9])⟩
  have HB : Hid (Below w.heap.size w W) := hB
  have HSS : Hid (∀ wq, Below W.heap.size W wq → (fun (w' : World) => w'.cell? ⟨w.heap.size, 11, none⟩ = some (.bool n.has) ∧ w'.cell? ⟨w.heap.size, 12, none⟩ = some (.int .i64 n.at_) ∧ w'.cell? ⟨w.heap.size, 13, none⟩ = some (.bool i.has) ∧ w'.cell? ⟨w.heap.size, 14, none⟩ = some (.int .i64 i.at_)) wq) := fun wq hq => ⟨(HC.out wq hq).2.2.1, (HC.out wq hq).2.2.2.1, (HC.out wq hq).2.2.2.2.1, (HC.out wq hq).2.2.2.2.2⟩
  have HBq : Hid (∀ wq, Below W.heap.size W wq → Bl 32 wq bw (wnC ⟨false, 0, 0⟩)) := fun wq hq => HBox.out.below hq HBox.out.lt
  have CA := allowed_any l W
  by_cases hl : 0 ≤ l ∧ l ≤ 600
  · have C1 : ∀ wq, Calls Tryz.prog 29 #[.agg #[.bool e.has, .int .i64 e.at_], .int .i64 l] wq fun r w' => r = .returned (laV (lstF e l)) ∧ Below wq.heap.size wq w' := fun wq => lastAhead_any e l wq he hl.1 hl.2
    have C2 : ∀ wq, Calls Tryz.prog 30 #[.agg #[.bool n.has, .int .i64 n.at_], .int .i64 l] wq fun r w' => r = .returned (.int .i64 (fstF n l)) ∧ Below wq.heap.size wq w' := fun wq => firstAt_any n l wq hn hl.1 hl.2
    have C3 : ∀ wq, Calls Tryz.prog 30 #[.agg #[.bool i.has, .int .i64 i.at_], .int .i64 l] wq fun r w' => r = .returned (.int .i64 (fstF i l)) ∧ Below wq.heap.size wq w' := fun wq => firstAt_any i l wq hi hl.1 hl.2
    rw [decide_eq_true hl] at CA
    have HN : Hid (lstF e l = none → openF e n i l = (⟨true, 0, 0⟩, 0)) := open_none hl
    have HO : Hid (∀ x, lstF e l = some x → openF e n i l = if x < max (fstF n l) (fstF i l) then (⟨true, 0, 0⟩, 0) else (⟨false, max (fstF n l) (fstF i l), x⟩, 0)) := fun x h => open_some hl h
    have HC1 : Hid _ := C1
    have HC2 : Hid _ := C2
    have HC3 : Hid _ := C3
    obtain ⟨o, ho⟩ : ∃ o, lstF e l = o := ⟨_, rfl⟩
    obtain ⟨fn, hfn⟩ : ∃ x, fstF n l = x := ⟨_, rfl⟩
    obtain ⟨fi, hfi⟩ : ∃ x, fstF i l = x := ⟨_, rfl⟩
    rw [ho] at HN HO
    rw [hfn, hfi] at HO
    rw [ho] at HC1
    rw [hfn] at HC2
    rw [hfi] at HC3
    clear hB hbl C1 C2 C3 he hn hi hl ho hfn hfi
    go_enter Tryz.func11, Tryz.ntmps11
    go_wp2_with fail
    rw [show (w.alloc (Obj.cells #[x0, x1, x2, x3, x4, x5, x6, x7, x8, .bool e.has, .int .i64 e.at_, .bool n.has, .int .i64 n.at_, .bool i.has, .int .i64 i.at_] 27)).alloc (Obj.cells #[.bool false, .int .i64 0, .int .i64 0] 32) = W from hW]
    clear hW
    rw [HBW.out]
    refine CA.mono ?_
    clear CA
    rintro r w1 ⟨rfl, rfl⟩
    rcases Int.lt_or_le fn fi with hm | hm
    · have hmx : max fn fi = fi := by omega
      have qm : decide (fn < fi) = true := decide_eq_true hm
      go_wp2
      refine wp_region_K 8 (fun (w' : World) => w'.cell? ⟨w.heap.size, 11, none⟩ = some (.bool n.has) ∧ w'.cell? ⟨w.heap.size, 12, none⟩ = some (.int .i64 n.at_) ∧ w'.cell? ⟨w.heap.size, 13, none⟩ = some (.bool i.has) ∧ w'.cell? ⟨w.heap.size, 14, none⟩ = some (.int .i64 i.at_)) (by kernel_rfl) ?_
      have hHeld : ((fun (w' : World) => w'.cell? ⟨w.heap.size, 11, none⟩ = some (.bool n.has) ∧ w'.cell? ⟨w.heap.size, 12, none⟩ = some (.int .i64 n.at_) ∧ w'.cell? ⟨w.heap.size, 13, none⟩ = some (.bool i.has) ∧ w'.cell? ⟨w.heap.size, 14, none⟩ = some (.int .i64 i.at_))) (World.drew _) := HSS.out _ (below_drewN (Below.refl _ _) 1)
      refine wpAnyK_take0 0 (v := ?v1) rfl (by kernel_rfl) (fun _ _ _ h => h) (Or.inl ⟨by rfl, ?hy1⟩) (fun _ => hHeld) ?_
      case hy1 => (intro w hSw; go_simp; try with_reducible rfl)
      try simp only [Act.put, List.setIfInBounds_toArray, List.set_cons_zero, List.set_cons_succ]
      refine wpAnyK_take 1 [3, 8] (v := ?v2) rfl (by kernel_rfl) (fun _ _ _ h => h) (Or.inl ⟨by rfl, ?hy2⟩) hHeld ?_
      case hy2 => (intro w hSw; (try dsimp only at hSw); go_simp; try with_reducible rfl)
      try simp only [Act.put, List.setIfInBounds_toArray, List.set_cons_zero, List.set_cons_succ]
      refine wpAnyK_take0 2 (v := ?v3) rfl (by kernel_rfl) (fun _ _ _ h => h) (Or.inl ⟨by rfl, ?hy3⟩) (fun _ => hHeld) ?_
      case hy3 => (intro w hSw; go_simp; try with_reducible rfl)
      try simp only [Act.put, List.setIfInBounds_toArray, List.set_cons_zero, List.set_cons_succ]
      refine wpAnyK_take0 4 (v := ?v4) rfl (by kernel_rfl) (fun _ _ _ h => h) (Or.inl ⟨by rfl, ?hy4⟩) (fun _ => hHeld) ?_
      case hy4 => (intro w hSw; go_simp; try with_reducible rfl)
      try simp only [Act.put, List.setIfInBounds_toArray, List.set_cons_zero, List.set_cons_succ]
      refine wpAnyK_take 5 [7, 8] (v := ?v5) rfl (by kernel_rfl) (fun _ _ _ h => h) (Or.inl ⟨by rfl, ?hy5⟩) hHeld ?_
      case hy5 => (intro w hSw; (try dsimp only at hSw); go_simp; try with_reducible rfl)
      try simp only [Act.put, List.setIfInBounds_toArray, List.set_cons_zero, List.set_cons_succ]
      refine wpAnyK_take0 6 (v := ?v6) rfl (by kernel_rfl) (fun _ _ _ h => h) (Or.inl ⟨by rfl, ?hy6⟩) (fun _ => hHeld) ?_
      case hy6 => (intro w hSw; go_simp; try with_reducible rfl)
      try simp only [Act.put, List.setIfInBounds_toArray, List.set_cons_zero, List.set_cons_succ]
      refine wpAnyK_step 3 rfl (by kernel_rfl) (fun K hK => ?_)
      go_simp
      refine (HC2.out _).mono ?_
      rintro r w2 ⟨rfl, hB2⟩
      have HB2 : Hid (Below w1.heap.size w1 w2) := (below_drewN (Below.refl _ _) 1).trans (hB2.mono (Nat.le_refl _))
      clear hB2
      dsimp only
      refine hK.out _ _ ?hk7 ?_
      case hk7 => exact fun _ => HSS.out _ HB2.out
      have hHeld : ((fun (w' : World) => w'.cell? ⟨w.heap.size, 11, none⟩ = some (.bool n.has) ∧ w'.cell? ⟨w.heap.size, 12, none⟩ = some (.int .i64 n.at_) ∧ w'.cell? ⟨w.heap.size, 13, none⟩ = some (.bool i.has) ∧ w'.cell? ⟨w.heap.size, 14, none⟩ = some (.int .i64 i.at_))) _ := HSS.out _ HB2.out
      clear hK K
      try simp only [Act.put, List.setIfInBounds_toArray, List.set_cons_zero, List.set_cons_succ]
      refine wpAnyK_step 7 rfl (by kernel_rfl) (fun K hK => ?_)
      go_simp
      refine (HC3.out _).mono ?_
      rintro r w3 ⟨rfl, hB3⟩
      have HB3 : Hid (Below w1.heap.size w1 w3) := HB2.out.trans (hB3.mono HB2.out.size)
      clear hB3
      dsimp only
      refine hK.out _ _ ?hk8 ?_
      case hk8 => exact fun _ => HSS.out _ HB3.out
      have hHeld : ((fun (w' : World) => w'.cell? ⟨w.heap.size, 11, none⟩ = some (.bool n.has) ∧ w'.cell? ⟨w.heap.size, 12, none⟩ = some (.int .i64 n.at_) ∧ w'.cell? ⟨w.heap.size, 13, none⟩ = some (.bool i.has) ∧ w'.cell? ⟨w.heap.size, 14, none⟩ = some (.int .i64 i.at_))) _ := HSS.out _ HB3.out
      clear hK K
      try simp only [Act.put, List.setIfInBounds_toArray, List.set_cons_zero, List.set_cons_succ]
      refine wpAnyK_step 8 rfl (by kernel_rfl) (fun K hK => ?_)
      go_simp
      refine hK.out _ _ ?hk9 ?_
      case hk9 => exact (fun h => nomatch (h.symm.trans (show _ = true by kernel_rfl)))
      clear hK K
      try simp only [Act.put, List.setIfInBounds_toArray, List.set_cons_zero, List.set_cons_succ]
      refine wpAnyK_take0 9 (v := ?v10) rfl (by kernel_rfl) (fun _ _ _ h => h) (Or.inl ⟨by rfl, ?hy10⟩) (fun h => nomatch (h.symm.trans (show _ = true by kernel_rfl))) ?_
      case hy10 => (intro w hSw; go_simp; try with_reducible rfl)
      try simp only [Act.put, List.setIfInBounds_toArray, List.set_cons_zero, List.set_cons_succ]
      refine wpAnyK_done (by kernel_rfl) ?_ _
      obtain ⟨k9, k10, k11, k12, k13, k14⟩ := HC.out w3 HB3.out
      have C1 := HC1.out w3
      clear HC1
      go_wp2_with fail
      refine C1.mono ?_
      clear C1 k9 k10 k11 k12 k13 k14
      rintro r w4 ⟨rfl, hB4⟩
      have HB4 : Hid (Below w1.heap.size w1 w4) := HB3.out.trans (hB4.mono HB3.out.size)
      have HBw : Hid (Below w.heap.size w w4) := HB.out.trans (HB4.out.mono HB.out.size)
      have HBox4 : Hid (Bl 32 w4 bw (wnC ⟨false, 0, 0⟩)) := HBq.out w4 HB4.out
      clear hB4
      cases o with
      | none =>
        have HX : Hid (openF e n i l = (⟨true, 0, 0⟩, 0)) := HN.out rfl
        unfold laV
        obtain ⟨wz, hwz⟩ : ∃ wz, w4.setRow bw (wnC ⟨true, 0, 0⟩).toArray = wz := ⟨_, rfl⟩
        have HBz : Hid (Bl 32 wz bw (wnC ⟨true, 0, 0⟩)) := by rw [← hwz]; exact set_bl2 HBox4.out
        have Hz : Hid (Below w.heap.size w wz) := by rw [← hwz]; exact setRow_below2 _ HBw.out HbW.out
        have HWz : Hid (w4.setRow bw (wnC ⟨true, 0, 0⟩).toArray = wz) := hwz
        clear hwz
        have hgi : (Tryz.prog.info? 32).map (·.size) = some 3 := by kernel_rfl
        go_wp2_with (refine wpList_store_row rfl 32 (.tmp 4) (.tmp 36) rfl bw (wnC ⟨true, 0, 0⟩).toArray rfl rfl 32 (wnC ⟨false, 0, 0⟩).toArray HBox4.out hgi rfl (by simp [wnC, Value.oneCell']) ?_; rw [HWz.out]; clear HWz hgi)
        (try simp only [Exit.inBlock, Exit.then])
        refine bodyPost_ret (v := .tuple #[wnV ⟨true, 0, 0⟩, .int .i64 0]) (results_wn rfl _ _ bw ⟨true, 0, 0⟩ _ rfl rfl HBz.out) rfl ⟨?_, Hz.out⟩
        rw [HX.out]; rfl

      | some x =>
        unfold laV
        by_cases hx : x < fi
        · have qx : decide (fi > x) = true := decide_eq_true hx
          have HX : Hid (openF e n i l = (⟨true, 0, 0⟩, 0)) := by show _ = _; rw [HO.out x rfl, hmx]; exact if_pos hx
          obtain ⟨wz, hwz⟩ : ∃ wz, w4.setRow bw (wnC ⟨true, 0, 0⟩).toArray = wz := ⟨_, rfl⟩
          have HBz : Hid (Bl 32 wz bw (wnC ⟨true, 0, 0⟩)) := by rw [← hwz]; exact set_bl2 HBox4.out
          have Hz : Hid (Below w.heap.size w wz) := by rw [← hwz]; exact setRow_below2 _ HBw.out HbW.out
          have HWz : Hid (w4.setRow bw (wnC ⟨true, 0, 0⟩).toArray = wz) := hwz
          clear hwz
          have hgi : (Tryz.prog.info? 32).map (·.size) = some 3 := by kernel_rfl
          go_wp2_with (refine wpList_store_row rfl 32 (.tmp 4) (.tmp 36) rfl bw (wnC ⟨true, 0, 0⟩).toArray rfl rfl 32 (wnC ⟨false, 0, 0⟩).toArray HBox4.out hgi rfl (by simp [wnC, Value.oneCell']) ?_; rw [HWz.out]; clear HWz hgi)
          (try simp only [Exit.inBlock, Exit.then])
          refine bodyPost_ret (v := .tuple #[wnV ⟨true, 0, 0⟩, .int .i64 0]) (results_wn rfl _ _ bw ⟨true, 0, 0⟩ _ rfl rfl HBz.out) rfl ⟨?_, Hz.out⟩
          rw [HX.out]; rfl

        · have qx : decide (fi > x) = false := decide_eq_false hx
          have HX : Hid (openF e n i l = (⟨false, fi, x⟩, 0)) := by show _ = _; rw [HO.out x rfl, hmx]; exact if_neg hx
          obtain ⟨wz, hwz⟩ : ∃ wz, w4.setRow bw (wnC ⟨false, fi, x⟩).toArray = wz := ⟨_, rfl⟩
          have HBz : Hid (Bl 32 wz bw (wnC ⟨false, fi, x⟩)) := by rw [← hwz]; exact set_bl2 HBox4.out
          have Hz : Hid (Below w.heap.size w wz) := by rw [← hwz]; exact setRow_below2 _ HBw.out HbW.out
          have HWz : Hid (w4.setRow bw (wnC ⟨false, fi, x⟩).toArray = wz) := hwz
          clear hwz
          have hgi : (Tryz.prog.info? 32).map (·.size) = some 3 := by kernel_rfl
          go_wp2_with (refine wpList_store_row rfl 32 (.tmp 4) (.tmp 39) rfl bw (wnC ⟨false, fi, x⟩).toArray rfl rfl 32 (wnC ⟨false, 0, 0⟩).toArray HBox4.out hgi rfl (by simp [wnC, Value.oneCell']) ?_; rw [HWz.out]; clear HWz hgi)
          (try simp only [Exit.inBlock, Exit.then])
          refine bodyPost_ret (v := .tuple #[wnV ⟨false, fi, x⟩, .int .i64 0]) (results_wn rfl _ _ bw ⟨false, fi, x⟩ _ rfl rfl HBz.out) rfl ⟨?_, Hz.out⟩
          rw [HX.out]; rfl

    · have hmx : max fn fi = fn := by omega
      have qm : decide (fn < fi) = false := decide_eq_false (by omega)
      go_wp2
      refine wp_region_K 8 (fun (w' : World) => w'.cell? ⟨w.heap.size, 11, none⟩ = some (.bool n.has) ∧ w'.cell? ⟨w.heap.size, 12, none⟩ = some (.int .i64 n.at_) ∧ w'.cell? ⟨w.heap.size, 13, none⟩ = some (.bool i.has) ∧ w'.cell? ⟨w.heap.size, 14, none⟩ = some (.int .i64 i.at_)) (by kernel_rfl) ?_
      have hHeld : ((fun (w' : World) => w'.cell? ⟨w.heap.size, 11, none⟩ = some (.bool n.has) ∧ w'.cell? ⟨w.heap.size, 12, none⟩ = some (.int .i64 n.at_) ∧ w'.cell? ⟨w.heap.size, 13, none⟩ = some (.bool i.has) ∧ w'.cell? ⟨w.heap.size, 14, none⟩ = some (.int .i64 i.at_))) (World.drew _) := HSS.out _ (below_drewN (Below.refl _ _) 1)
      refine wpAnyK_take0 0 (v := ?v11) rfl (by kernel_rfl) (fun _ _ _ h => h) (Or.inl ⟨by rfl, ?hy11⟩) (fun _ => hHeld) ?_
      case hy11 => (intro w hSw; go_simp; try with_reducible rfl)
      try simp only [Act.put, List.setIfInBounds_toArray, List.set_cons_zero, List.set_cons_succ]
      refine wpAnyK_take 1 [3, 8] (v := ?v12) rfl (by kernel_rfl) (fun _ _ _ h => h) (Or.inl ⟨by rfl, ?hy12⟩) hHeld ?_
      case hy12 => (intro w hSw; (try dsimp only at hSw); go_simp; try with_reducible rfl)
      try simp only [Act.put, List.setIfInBounds_toArray, List.set_cons_zero, List.set_cons_succ]
      refine wpAnyK_take0 2 (v := ?v13) rfl (by kernel_rfl) (fun _ _ _ h => h) (Or.inl ⟨by rfl, ?hy13⟩) (fun _ => hHeld) ?_
      case hy13 => (intro w hSw; go_simp; try with_reducible rfl)
      try simp only [Act.put, List.setIfInBounds_toArray, List.set_cons_zero, List.set_cons_succ]
      refine wpAnyK_take0 4 (v := ?v14) rfl (by kernel_rfl) (fun _ _ _ h => h) (Or.inl ⟨by rfl, ?hy14⟩) (fun _ => hHeld) ?_
      case hy14 => (intro w hSw; go_simp; try with_reducible rfl)
      try simp only [Act.put, List.setIfInBounds_toArray, List.set_cons_zero, List.set_cons_succ]
      refine wpAnyK_take 5 [7, 8] (v := ?v15) rfl (by kernel_rfl) (fun _ _ _ h => h) (Or.inl ⟨by rfl, ?hy15⟩) hHeld ?_
      case hy15 => (intro w hSw; (try dsimp only at hSw); go_simp; try with_reducible rfl)
      try simp only [Act.put, List.setIfInBounds_toArray, List.set_cons_zero, List.set_cons_succ]
      refine wpAnyK_take0 6 (v := ?v16) rfl (by kernel_rfl) (fun _ _ _ h => h) (Or.inl ⟨by rfl, ?hy16⟩) (fun _ => hHeld) ?_
      case hy16 => (intro w hSw; go_simp; try with_reducible rfl)
      try simp only [Act.put, List.setIfInBounds_toArray, List.set_cons_zero, List.set_cons_succ]
      refine wpAnyK_step 3 rfl (by kernel_rfl) (fun K hK => ?_)
      go_simp
      refine (HC2.out _).mono ?_
      rintro r w2 ⟨rfl, hB2⟩
      have HB2 : Hid (Below w1.heap.size w1 w2) := (below_drewN (Below.refl _ _) 1).trans (hB2.mono (Nat.le_refl _))
      clear hB2
      dsimp only
      refine hK.out _ _ ?hk17 ?_
      case hk17 => exact fun _ => HSS.out _ HB2.out
      have hHeld : ((fun (w' : World) => w'.cell? ⟨w.heap.size, 11, none⟩ = some (.bool n.has) ∧ w'.cell? ⟨w.heap.size, 12, none⟩ = some (.int .i64 n.at_) ∧ w'.cell? ⟨w.heap.size, 13, none⟩ = some (.bool i.has) ∧ w'.cell? ⟨w.heap.size, 14, none⟩ = some (.int .i64 i.at_))) _ := HSS.out _ HB2.out
      clear hK K
      try simp only [Act.put, List.setIfInBounds_toArray, List.set_cons_zero, List.set_cons_succ]
      refine wpAnyK_step 7 rfl (by kernel_rfl) (fun K hK => ?_)
      go_simp
      refine (HC3.out _).mono ?_
      rintro r w3 ⟨rfl, hB3⟩
      have HB3 : Hid (Below w1.heap.size w1 w3) := HB2.out.trans (hB3.mono HB2.out.size)
      clear hB3
      dsimp only
      refine hK.out _ _ ?hk18 ?_
      case hk18 => exact fun _ => HSS.out _ HB3.out
      have hHeld : ((fun (w' : World) => w'.cell? ⟨w.heap.size, 11, none⟩ = some (.bool n.has) ∧ w'.cell? ⟨w.heap.size, 12, none⟩ = some (.int .i64 n.at_) ∧ w'.cell? ⟨w.heap.size, 13, none⟩ = some (.bool i.has) ∧ w'.cell? ⟨w.heap.size, 14, none⟩ = some (.int .i64 i.at_))) _ := HSS.out _ HB3.out
      clear hK K
      try simp only [Act.put, List.setIfInBounds_toArray, List.set_cons_zero, List.set_cons_succ]
      refine wpAnyK_step 8 rfl (by kernel_rfl) (fun K hK => ?_)
      go_simp
      refine hK.out _ _ ?hk19 ?_
      case hk19 => exact (fun h => nomatch (h.symm.trans (show _ = true by kernel_rfl)))
      clear hK K
      try simp only [Act.put, List.setIfInBounds_toArray, List.set_cons_zero, List.set_cons_succ]
      refine wpAnyK_take0 9 (v := ?v20) rfl (by kernel_rfl) (fun _ _ _ h => h) (Or.inl ⟨by rfl, ?hy20⟩) (fun h => nomatch (h.symm.trans (show _ = true by kernel_rfl))) ?_
      case hy20 => (intro w hSw; go_simp; try with_reducible rfl)
      try simp only [Act.put, List.setIfInBounds_toArray, List.set_cons_zero, List.set_cons_succ]
      refine wpAnyK_done (by kernel_rfl) ?_ _
      obtain ⟨k9, k10, k11, k12, k13, k14⟩ := HC.out w3 HB3.out
      have C1 := HC1.out w3
      clear HC1
      go_wp2_with fail
      refine C1.mono ?_
      clear C1 k9 k10 k11 k12 k13 k14
      rintro r w4 ⟨rfl, hB4⟩
      have HB4 : Hid (Below w1.heap.size w1 w4) := HB3.out.trans (hB4.mono HB3.out.size)
      have HBw : Hid (Below w.heap.size w w4) := HB.out.trans (HB4.out.mono HB.out.size)
      have HBox4 : Hid (Bl 32 w4 bw (wnC ⟨false, 0, 0⟩)) := HBq.out w4 HB4.out
      clear hB4
      cases o with
      | none =>
        have HX : Hid (openF e n i l = (⟨true, 0, 0⟩, 0)) := HN.out rfl
        unfold laV
        obtain ⟨wz, hwz⟩ : ∃ wz, w4.setRow bw (wnC ⟨true, 0, 0⟩).toArray = wz := ⟨_, rfl⟩
        have HBz : Hid (Bl 32 wz bw (wnC ⟨true, 0, 0⟩)) := by rw [← hwz]; exact set_bl2 HBox4.out
        have Hz : Hid (Below w.heap.size w wz) := by rw [← hwz]; exact setRow_below2 _ HBw.out HbW.out
        have HWz : Hid (w4.setRow bw (wnC ⟨true, 0, 0⟩).toArray = wz) := hwz
        clear hwz
        have hgi : (Tryz.prog.info? 32).map (·.size) = some 3 := by kernel_rfl
        go_wp2_with (refine wpList_store_row rfl 32 (.tmp 4) (.tmp 36) rfl bw (wnC ⟨true, 0, 0⟩).toArray rfl rfl 32 (wnC ⟨false, 0, 0⟩).toArray HBox4.out hgi rfl (by simp [wnC, Value.oneCell']) ?_; rw [HWz.out]; clear HWz hgi)
        (try simp only [Exit.inBlock, Exit.then])
        refine bodyPost_ret (v := .tuple #[wnV ⟨true, 0, 0⟩, .int .i64 0]) (results_wn rfl _ _ bw ⟨true, 0, 0⟩ _ rfl rfl HBz.out) rfl ⟨?_, Hz.out⟩
        rw [HX.out]; rfl

      | some x =>
        unfold laV
        by_cases hx : x < fn
        · have qx : decide (fn > x) = true := decide_eq_true hx
          have HX : Hid (openF e n i l = (⟨true, 0, 0⟩, 0)) := by show _ = _; rw [HO.out x rfl, hmx]; exact if_pos hx
          obtain ⟨wz, hwz⟩ : ∃ wz, w4.setRow bw (wnC ⟨true, 0, 0⟩).toArray = wz := ⟨_, rfl⟩
          have HBz : Hid (Bl 32 wz bw (wnC ⟨true, 0, 0⟩)) := by rw [← hwz]; exact set_bl2 HBox4.out
          have Hz : Hid (Below w.heap.size w wz) := by rw [← hwz]; exact setRow_below2 _ HBw.out HbW.out
          have HWz : Hid (w4.setRow bw (wnC ⟨true, 0, 0⟩).toArray = wz) := hwz
          clear hwz
          have hgi : (Tryz.prog.info? 32).map (·.size) = some 3 := by kernel_rfl
          go_wp2_with (refine wpList_store_row rfl 32 (.tmp 4) (.tmp 36) rfl bw (wnC ⟨true, 0, 0⟩).toArray rfl rfl 32 (wnC ⟨false, 0, 0⟩).toArray HBox4.out hgi rfl (by simp [wnC, Value.oneCell']) ?_; rw [HWz.out]; clear HWz hgi)
          (try simp only [Exit.inBlock, Exit.then])
          refine bodyPost_ret (v := .tuple #[wnV ⟨true, 0, 0⟩, .int .i64 0]) (results_wn rfl _ _ bw ⟨true, 0, 0⟩ _ rfl rfl HBz.out) rfl ⟨?_, Hz.out⟩
          rw [HX.out]; rfl

        · have qx : decide (fn > x) = false := decide_eq_false hx
          have HX : Hid (openF e n i l = (⟨false, fn, x⟩, 0)) := by show _ = _; rw [HO.out x rfl, hmx]; exact if_neg hx
          obtain ⟨wz, hwz⟩ : ∃ wz, w4.setRow bw (wnC ⟨false, fn, x⟩).toArray = wz := ⟨_, rfl⟩
          have HBz : Hid (Bl 32 wz bw (wnC ⟨false, fn, x⟩)) := by rw [← hwz]; exact set_bl2 HBox4.out
          have Hz : Hid (Below w.heap.size w wz) := by rw [← hwz]; exact setRow_below2 _ HBw.out HbW.out
          have HWz : Hid (w4.setRow bw (wnC ⟨false, fn, x⟩).toArray = wz) := hwz
          clear hwz
          have hgi : (Tryz.prog.info? 32).map (·.size) = some 3 := by kernel_rfl
          go_wp2_with (refine wpList_store_row rfl 32 (.tmp 4) (.tmp 39) rfl bw (wnC ⟨false, fn, x⟩).toArray rfl rfl 32 (wnC ⟨false, 0, 0⟩).toArray HBox4.out hgi rfl (by simp [wnC, Value.oneCell']) ?_; rw [HWz.out]; clear HWz hgi)
          (try simp only [Exit.inBlock, Exit.then])
          refine bodyPost_ret (v := .tuple #[wnV ⟨false, fn, x⟩, .int .i64 0]) (results_wn rfl _ _ bw ⟨false, fn, x⟩ _ rfl rfl HBz.out) rfl ⟨?_, Hz.out⟩
          rw [HX.out]; rfl

  · have HX : Hid (openF e n i l = (⟨false, 0, 0⟩, 12)) := open_out hl
    rw [decide_eq_false hl] at CA
    clear hB hbl HC hl he hn hi HSS HBq
    go_enter Tryz.func11, Tryz.ntmps11
    go_wp2_with fail
    rw [show (w.alloc (Obj.cells #[x0, x1, x2, x3, x4, x5, x6, x7, x8, .bool e.has, .int .i64 e.at_, .bool n.has, .int .i64 n.at_, .bool i.has, .int .i64 i.at_] 27)).alloc (Obj.cells #[.bool false, .int .i64 0, .int .i64 0] 32) = W from hW]
    clear hW
    rw [HBW.out]
    refine CA.mono ?_
    clear CA
    rintro r w1 ⟨rfl, rfl⟩
    obtain ⟨wz, hwz⟩ : ∃ wz, w1.setRow bw (wnC ⟨false, 0, 0⟩).toArray = wz := ⟨_, rfl⟩
    have HBz : Hid (Bl 32 wz bw (wnC ⟨false, 0, 0⟩)) := by rw [← hwz]; exact set_bl2 HBox.out
    have Hz : Hid (Below w.heap.size w wz) := by rw [← hwz]; exact setRow_below2 _ HB.out HbW.out
    have HWz : Hid (w1.setRow bw (wnC ⟨false, 0, 0⟩).toArray = wz) := hwz
    clear hwz
    have hgi : (Tryz.prog.info? 32).map (·.size) = some 3 := by kernel_rfl
    go_wp2_with (refine wpList_store_row rfl 32 (.tmp 4) (.tmp 12) rfl bw (wnC ⟨false, 0, 0⟩).toArray rfl rfl 32 (wnC ⟨false, 0, 0⟩).toArray HBox.out hgi rfl (by simp [wnC, Value.oneCell']) ?_; rw [HWz.out]; clear HWz hgi)
    (try simp only [Exit.inBlock, Exit.then])
    refine bodyPost_ret (v := .tuple #[wnV ⟨false, 0, 0⟩, .int .i64 12]) (results_wn rfl _ _ bw ⟨false, 0, 0⟩ _ rfl rfl HBz.out) rfl ⟨?_, Hz.out⟩
    rw [HX.out]; rfl

end Go.Proofs.YthlfboaidhgnlaaGreatDoor
